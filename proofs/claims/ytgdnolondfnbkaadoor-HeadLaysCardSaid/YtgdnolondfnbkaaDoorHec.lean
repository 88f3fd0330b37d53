import Derived.Test.YtgdnolondfnbkaaDoorHeb
import Derived.Test.YtgdnolondfnbkaaDoorVar
/-
  head.Read.
-/
namespace Go.Proofs.YtgdnolondfnbkaaDoor
open Go.RowKit

set_option maxRecDepth 100000 in
set_option maxHeartbeats 3200000 in
theorem hread1_any {E : Nat → Addr} {w : World} {R H c : Nat} {A : Option Addr} {xs dh0 : List Int} {pn0 n0 : Int} (hR : RdS w R A xs 0 c) (hH : HdM w H dh0 pn0 n0) (hE2 : ∀ V, Turn (fun q => q = H ∨ q = R) w V → ErrsAt E V) (hx : Byts xs) (hl : xs.length ≤ 1000) (hHR : ¬ H = R) (hA : ∀ a, A = some a → ¬ a.block = H) :
    Calls Tryd.prog 18 #[.pointer (some ⟨R, 0, none⟩), .pointer (some ⟨H, 0, none⟩)] w fun e w2 => ∃ o, Turn (fun q => q = H ∨ q = R) w w2 ∧ EndsAs E R A xs c w.heap.size o e w2 ∧ PH H xs o w2 := by
  have hE := hE2 w (Turn.of_below (Below.refl _ _))
  by_cases h32 : xs.length < 32
  · have HF := rraw_no hR hE (by omega) 32 (by omega) (by omega)
    go_enter Tryd.func18, Tryd.ntmps18
    go_wp2_with fail
    refine HF.mono ?_
    intro e W1 hf
    have hfin : ∃ o, Turn (fun q => q = H ∨ q = R) w W1 ∧ EndsAs E R A xs c w.heap.size o e W1 ∧ PH H xs o W1 := ⟨_, Turn.of_below hf.below, EndsAs.fell hf (by decide) (Nat.le_refl _), by unfold hdO; rw [if_pos h32]; rfl, fun h => absurd h (by omega)⟩
    obtain ⟨bt, rfl, _⟩ := hf
    have hfin := Lib.hid hfin
    go_wp2_with fail
    exact ⟨rfl, hfin.out⟩
  have HR := rraw_ok hR (by omega) 32 (by omega)
  rw [List.drop_zero] at HR
  go_enter Tryd.func18, Tryd.ntmps18
  go_wp2_with fail
  refine HR.mono ?_
  rintro e W1 ⟨v1, rfl, hown, hR1, hT1⟩
  obtain ⟨ks, hks⟩ : ∃ ks, ks = xs.take 32 := ⟨_, rfl⟩
  have hkl : ks.length = 32 := by rw [hks]; simp; omega
  rw [← hks] at hown
  obtain ⟨A2, c2, rfl, hc2, _, _⟩ := own_slice hown
  obtain ⟨b, o, rfl, hblt, hcells⟩ := own_read hown (by simp [ints, hkl])
  have hrg : W1.rangeAt b o (ints .u8 ks) := fun j v hv => hcells j v hv
  have HK := Lib.hid (And.intro hks hkl)
  clear hks
  have hil : (ints .u8 ks).length = 32 := by rw [ints_length, hkl]
  have haa : ∀ W, (Instr.arrayAt 23 (.slice (some ⟨b, o, none⟩) 32 c2)).run Tryd.prog W = .ok (.pointer (some ⟨b, o, none⟩)) W := fun _ => by kernel_rfl
  have hH1 := hH.turn hT1 hHR
  have hth := hH1.there 32 (by omega)
  have hst := hH1.key ks hkl
  have hT1' : Turn (fun q => q = H ∨ q = R) w W1 := hT1.sub (fun _ hq => .inr hq)
  have hinf : (Tryd.prog.info? 23).map (·.size) = some 32 := by kernel_rfl
  clear HR hown hT1 hcells
  go_upto_region 1 with (first | (refine wpList_load_mid rfl 23 _ rfl b o rfl _ _ hrg Tryd.underlying23 rfl (by rw [hil]; exact hinf) ?_) | (refine wpList_store_mid rfl 23 _ _ rfl H 0 (ints .u8 ks).toArray rfl rfl (by rw [List.size_toArray, hil]; exact hth) (by rw [List.size_toArray, hil]; exact hinf) (all_oneCell_toArray (ints_one .u8 ks)) ?_))
  refine wp_world (fun V => HdM V H ks pn0 n0 ∧ RdS V R A xs 32 c ∧ Turn (fun q => q = H ∨ q = R) w V) ⟨hst.1, hR1.turn hst.2 (Ne.symm hHR) hA, hT1'.and (hst.2.sub (fun _ hq => .inl hq))⟩ ?_
  rintro V1 ⟨hH2, hR2, hT2⟩
  clear hst hth hH1 hT1' hR1 haa hrg hkl hil hH hR
  by_cases h36 : xs.length < 36
  · have HF := ru32_no hR2 (hE2 V1 hT2) (by omega) (by omega)
    go_wp2_with fail
    refine HF.mono ?_
    intro e W1 hf
    have hfin : ∃ o, Turn (fun q => q = H ∨ q = R) w W1 ∧ EndsAs E R A xs c w.heap.size o e W1 ∧ PH H xs o W1 := ⟨_, hT2.and (Turn.of_below hf.below), EndsAs.fell hf (by decide) hT2.size, by unfold hdO; rw [if_neg h32, if_pos h36]; rfl, fun h => absurd h (by omega)⟩
    obtain ⟨bt, rfl, _⟩ := hf
    have hfin := Lib.hid hfin
    go_wp2_with fail
    exact ⟨rfl, hfin.out⟩
  have HU := ru32_ok hR2 hx (by omega) (by omega)
  go_wp2_with fail
  refine HU.mono ?_
  rintro e V2 ⟨rfl, hR3, hT3⟩
  have hH3 := hH2.turn hT3 hHR
  have c32 := hH3.r 32 (.int .u32 pn0) (by rw [hdC, List.getElem?_append_right (by rw [ints_length, hH3.l]; omega), ints_length, hH3.l]; rfl)
  rw [Nat.zero_add] at c32
  have f32 := hH3.f 32
  have hst := hH3.word 32 (wordI xs 32) (.inl ⟨rfl, rfl, rfl⟩)
  generalize hp : wordI xs 32 = pn at *
  have HP := Lib.hid hp
  clear hp HU
  go_upto_region 2 with (fail)
  refine wp_world (fun V => HdM V H ks pn n0 ∧ RdS V R A xs 36 c ∧ Turn (fun q => q = H ∨ q = R) w V) ⟨hst.1, hR3.turn hst.2 (Ne.symm hHR) hA, (hT2.and (hT3.sub (fun _ hq => .inr hq))).and (hst.2.sub (fun _ hq => .inl hq))⟩ ?_
  clear hst c32 f32 hH3 hR3 hT3 hH2 hR2 hT2
  rintro V3 ⟨hH4, hR4, hT4⟩
  by_cases h40 : xs.length < 40
  · have HF := ru32_no hR4 (hE2 V3 hT4) (by omega) (by omega)
    go_wp2_with fail
    refine HF.mono ?_
    intro e W1 hf
    have hfin : ∃ o, Turn (fun q => q = H ∨ q = R) w W1 ∧ EndsAs E R A xs c w.heap.size o e W1 ∧ PH H xs o W1 := ⟨_, hT4.and (Turn.of_below hf.below), EndsAs.fell hf (by decide) hT4.size, by unfold hdO; rw [if_neg h32, if_neg h36, if_pos h40]; rfl, fun h => absurd h (by omega)⟩
    obtain ⟨bt, rfl, _⟩ := hf
    have hfin := Lib.hid hfin
    go_wp2_with fail
    exact ⟨rfl, hfin.out⟩
  have HU := ru32_ok hR4 hx (by omega) (by omega)
  go_wp2_with fail
  refine HU.mono ?_
  rintro e V4 ⟨rfl, hR5, hT5⟩
  have hH5 := hH4.turn hT5 hHR
  have c33 := hH5.r 33 (.int .u32 n0) (by rw [hdC, List.getElem?_append_right (by rw [ints_length, hH5.l]; omega), ints_length, hH5.l]; rfl)
  rw [Nat.zero_add] at c33
  have f33 := hH5.f 33
  have hst := hH5.word 33 (wordI xs 36) (.inr ⟨rfl, rfl, rfl⟩)
  have hfin : ∃ o, Turn (fun q => q = H ∨ q = R) w (V4.setCell ⟨H, 33, none⟩ (.int .u32 (wordI xs 36))) ∧ EndsAs E R A xs c w.heap.size o (.returned (.tuple #[])) (V4.setCell ⟨H, 33, none⟩ (.int .u32 (wordI xs 36))) ∧ PH H xs o (V4.setCell ⟨H, 33, none⟩ (.int .u32 (wordI xs 36))) := by
    refine ⟨_, (hT4.and (hT5.sub (fun _ hq => .inr hq))).and (hst.2.sub (fun _ hq => .inl hq)), .inl ⟨rfl, 36 + 4, hR5.turn hst.2 (Ne.symm hHR) hA, rfl⟩, ?_, fun _ => by rw [← HK.out.1, HP.out]; exact hst.1⟩
    unfold hdO
    rw [if_neg h32, if_neg h36, if_neg h40]
    by_cases h4 : xs.length = 40
    · rw [if_neg (by omega), if_pos h4]
    · rw [if_pos (by omega), if_neg h4]; rfl
  have hfin := Lib.hid hfin
  clear hst hH5 hR5 hT5 hH4 hR4 hT4 HU
  go_wp2_with fail
  go_end0
  exact hfin.out
end Go.Proofs.YtgdnolondfnbkaaDoor
