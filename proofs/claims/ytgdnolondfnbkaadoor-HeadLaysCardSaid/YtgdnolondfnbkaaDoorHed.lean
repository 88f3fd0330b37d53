import Derived.Test.YtgdnolondfnbkaaDoorHec
/-
  head.Read.
-/
namespace Go.Proofs.YtgdnolondfnbkaaDoor
open Go.RowKit

def zdh : List Int := List.replicate 32 0
theorem zdh_len : zdh.length = 32 := by simp [zdh]
theorem PH.later {H n : Nat} {xs : List Int} {o : Option (Nat × Int)} {W W' : World} (h : PH H xs o W) (ht : Turn (fun q => n ≤ q) W W') (hH : H < n) : PH H xs o W' := ⟨h.1, fun h4 => (h.2 h4).turn ht (by omega)⟩
/-- what a header is read as -/
def hdR (xs : List Int) : List Value := if xs.length = 40 then hdC (xs.take 32) (wordI xs 32) (wordI xs 36) else hdC zdh 0 0
theorem hdC_one (dh : List Int) (pn n : Int) : ∀ v ∈ hdC dh pn n, v.oneCell' = true := by
  intro v hv
  rcases List.mem_append.1 hv with h | h
  · exact ints_one .u8 dh v h
  · simp only [List.mem_cons, List.not_mem_nil, or_false] at h
    rcases h with rfl | rfl <;> rfl
theorem hdO_some (k : Nat) (h : ¬ k = 40) : ∃ j z, hdO k = some (j, z) := by
  unfold hdO
  by_cases h1 : k < 32
  · exact ⟨_, _, by rw [if_pos h1]⟩
  · by_cases h2 : k < 36
    · exact ⟨_, _, by rw [if_neg h1, if_pos h2]⟩
    · by_cases h3 : k < 40
      · exact ⟨_, _, by rw [if_neg h1, if_neg h2, if_pos h3]⟩
      · exact ⟨_, _, by rw [if_neg h1, if_neg h2, if_neg h3, if_neg h]⟩
set_option maxRecDepth 100000 in
set_option maxHeartbeats 3200000 in
theorem hread_any (E : Nat → Addr) (A : Option Addr) (xs : List Int) (ca : Nat) (w : World) (hA : SlRead w A (ints .u8 xs)) (hx : Byts xs) (hl : xs.length ≤ 1000) (hE : ErrsAt E w) :
    Calls Tryd.prog 7 #[.slice A xs.length ca] w fun e w' => ∃ u, e = .returned (.tuple #[.agg (hdR xs).toArray, u]) ∧ TellR E (hdO xs.length) u w' ∧ Below w.heap.size w w' := by
  have hmf : ∀ (fn : Fn) (first cap : Array Value) (w : World), (Instr.makeFunc fn first cap).run Tryd.prog w = .ok (.func fn first cap) w := fun _ _ _ _ => rfl
  have hinf : (Tryd.prog.info? 26).map (·.size) = some 34 := by kernel_rfl
  have hzz : (hdC zdh 0 0).toArray = Array.replicate 32 (.int .u8 0) ++ #[.int .u32 0, .int .u32 0] := by kernel_rfl
  go_enter Tryd.func7, Tryd.ntmps7
  go_upto_region 2 with (fail)
  obtain ⟨Z, hZ⟩ : ∃ Z, Z = w.heap.size := ⟨_, rfl⟩
  obtain ⟨H, hH⟩ : ∃ H, H = w.heap.size + 1 := ⟨_, rfl⟩
  refine wp_world (fun V => Below w.heap.size w V ∧ V.heap[Z]? = some (.cells (hdC zdh 0 0).toArray 26 (0, 0)) ∧ HdM V H zdh 0 0 ∧ V.heap.size = w.heap.size + 2) ?_ ?_
  · refine ⟨(below_alc w _).alloc (by simp) _, by rw [hZ]; exact (heap2_0 w _ _).trans rfl, ?_, by simp⟩
    rw [hH]
    exact ⟨range_new (cs := hdC zdh 0 0) ((heap2_1 w _ _).trans rfl), fun o => by simp [go_sem], zdh_len⟩
  rintro V ⟨hbV, hZV, hHV, hVs⟩
  rw [← hH, ← hZ]
  have hnum : w.heap.size ≤ Z ∧ Z < H ∧ H < V.heap.size := by omega
  clear hZ hH hVs
  have hEV := hE.below hbV
  have hTr : ¬ 0 = H := by have : 0 < w.heap.size := cell_lt (hE.c 3 (by decide)); omega
  go_wp2_with fail
  refine (cread_any E 18 #[.pointer (some ⟨H, 0, none⟩)] A xs ca V (fun q => q = H) (fun o V => PH H xs o V) (fun _ _ => by kernel_rfl) (hA.below hbV) (by omega) (fun _ => hEV.c 3 (by decide)) hTr (fun q hq => by omega) (fun o W W' hp _ ht => hp.later ht (by omega)) ?_).mono ?_
  · intro w1 R A1 c1 hb1 hR hRV hA1
    have hbw := hbV.trans (hb1.mono hbV.size)
    exact hread1_any hR (hHV.turn (Turn.of_below (F := fun _ => False) hb1) id) (fun U hU => hE.below (hU.below hbw hbw.size (fun q hq => by omega))) hx hl (by omega) (fun a ha => by have := hA1 a ha; omega)
  rintro e W ⟨o, v, rfl, htell, hp, ht⟩
  have hbW : Below w.heap.size w W := ht.below hbV hbV.size (fun q hq => by omega)
  have hZW := (ht.block Z (by omega) (by omega)).trans hZV
  obtain ⟨rfl, hp2⟩ := hp
  clear hbV hZV hHV hEV ht hTr
  by_cases h40 : xs.length = 40
  · have hM := hp2 h40
    have ho : hdO xs.length = none := by unfold hdO; rw [if_neg (by omega), if_neg (by omega), if_neg (by omega), if_pos h40]
    rw [ho] at htell
    obtain rfl : v = .nilIface := htell
    obtain ⟨cs, hcs⟩ : ∃ cs, cs = hdC (xs.take 32) (wordI xs 32) (wordI xs 36) := ⟨_, rfl⟩
    have hr : hdR xs = cs := by rw [hcs]; unfold hdR; rw [if_pos h40]
    have hrg := hM.r
    have hcl : cs.length = 34 := by rw [hcs]; exact hdC_len _ _ _ hM.l
    have hone : ∀ v ∈ cs, v.oneCell' = true := by rw [hcs]; exact hdC_one _ _ _
    rw [← hcs] at hrg
    have HF := Lib.hid (And.intro hr (And.intro ho (setRow_below hbW Z hnum.1 cs.toArray)))
    have HL := Lib.hid hcl
    clear hr hcs hM hp2 ho hcl h40
    go_wp2_with (first | (refine wpList_load_mid rfl 26 _ rfl H 0 rfl cs _ hrg Tryd.underlying26 rfl (by rw [HL.out]; exact hinf) ?_) | (refine wpList_store_row rfl 26 _ _ rfl Z cs.toArray rfl rfl _ _ hZW (by rw [List.size_toArray, HL.out]; exact hinf) (by simp [HL.out, hdC_len _ _ _ zdh_len]) (all_oneCell_toArray hone) ?_))
    refine bodyPost_ret (results_row_tmp rfl _ _ Z _ _ _ _ rfl (setRow_heap _ _ _ _ _ _ hZW) _ rfl Tryd.underlying26 rfl (by rw [List.size_toArray, HL.out]; exact hinf)) rfl ?_
    rw [HF.out.1, HF.out.2.1]
    exact ⟨.nilIface, rfl, rfl, HF.out.2.2⟩
  · obtain ⟨j, z, ho⟩ := hdO_some xs.length h40
    have hr : hdR xs = hdC zdh 0 0 := by unfold hdR; rw [if_neg h40]
    have ho2 := ho
    rw [ho] at htell
    obtain ⟨hj, bt, rfl, hat⟩ := htell
    have hne : ¬ bt = Z := fun e => by
      have h1 := hat.p
      have h2 : W.cell? ⟨Z, 0, none⟩ = some (.int .u8 0) := by
        unfold World.cell?
        simp only [hZW]
        rfl
      rw [e, h2] at h1
      cases h1
    have hat2 : AtAt bt z (errV (E j)) (W.setRow Z (hdC zdh 0 0).toArray) := ⟨(World.cell?_of_block (setRow_other W Z bt _ hne)).trans hat.p, (World.cell?_of_block (setRow_other W Z bt _ hne)).trans hat.e⟩
    have HF := Lib.hid (And.intro hr (And.intro ho2 (And.intro hj (And.intro hat2 (setRow_below hbW Z hnum.1 (hdC zdh 0 0).toArray)))))
    have hone : (hdC zdh 0 0).toArray.all (·.oneCell') = true := all_oneCell_toArray (hdC_one _ _ _)
    clear hr ho ho2 hat hat2 hne hp2 hzz
    go_wp2_with (refine wpList_store_row rfl 26 _ _ rfl Z (hdC zdh 0 0).toArray rfl (by kernel_rfl) _ _ hZW (by kernel_rfl) rfl hone ?_)
    refine bodyPost_ret (results_row_tmp rfl _ _ Z _ _ _ _ rfl (setRow_heap _ _ _ _ _ _ hZW) _ rfl Tryd.underlying26 rfl (by kernel_rfl)) rfl ?_
    rw [HF.out.1, HF.out.2.1]
    exact ⟨atV bt, rfl, ⟨HF.out.2.2.1, bt, rfl, HF.out.2.2.2.1⟩, HF.out.2.2.2.2⟩
end Go.Proofs.YtgdnolondfnbkaaDoor
