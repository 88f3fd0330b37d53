import Derived.Test.YtjgjaefbbhffbaaDoorCop
import Derived.Test.YtjgjaefbbhffbaaDoorCon
/-
  CodeLists.
-/
namespace Go.Proofs.YtjgjaefbbhffbaaDoor
open Go.RowKit

/-- what CodeLists knows behind read -/
def PL (Gb : Nat) (G0 : Value) (xs ys : List Int) (n m : Int) (lo : Nat) (o : Option (Nat × Int)) (V : World) : Prop :=
  (m < n ∧ o = some (1, 1) ∧ VarS V Gb G0) ∨ (n ≤ m ∧ (ys.length : Int) < n ∧ o = some (2, 1) ∧ VarS V Gb G0) ∨
  (n ≤ m ∧ ∃ (k : Nat) (A : Option Addr) (c : Nat), n = (k : Int) ∧ k ≤ ys.length ∧ (o = if 1 + 4 + k < xs.length then some (3, ((1 + 4 + k : Nat) : Int)) else none) ∧ VarS V Gb (.slice A k c) ∧ SlRead V A (ints .u8 (ys.take k)) ∧ ∀ a, A = some a → lo ≤ a.block)
theorem PL.later {Gb N lo : Nat} {G0 : Value} {xs ys : List Int} {n m : Int} {o : Option (Nat × Int)} {W W' : World} (h : PL Gb G0 xs ys n m lo o W) (ht : Turn (fun q => N ≤ q ∧ q < lo) W W') (hG : Gb < N) : PL Gb G0 xs ys n m lo o W' := by
  rcases h with ⟨h1, h2, h3⟩ | ⟨h1, h2, h3, h4⟩ | ⟨h1, k, A, c, h2, h3, h4, h5, h6, h7⟩
  · exact .inl ⟨h1, h2, h3.turn ht (by omega)⟩
  · exact .inr (.inl ⟨h1, h2, h3, h4.turn ht (by omega)⟩)
  · exact .inr (.inr ⟨h1, k, A, c, h2, h3, h4, h5.turn ht (by omega), h6.turn ht (fun _ a ha => by have := h7 a ha; omega), h7⟩)
set_option maxRecDepth 100000 in
set_option maxHeartbeats 1600000 in
theorem lists1_any {E : Nat → Addr} {w : World} {R Mb Gb c : Nat} {A : Option Addr} {xs ys : List Int} {n m : Int} {G0 : Value} (hR : RdS w R A xs 0 c) (hE2 : ∀ V, Turn (fun q => q = Gb ∨ q = R) w V → ErrsAt E V) (hx : Byts xs) (hl : xs.length = 5 + ys.length) (hy : ys = xs.drop 5) (hl2 : ys.length ≤ 40) (h7 : byteI xs 0 = 7) (hn : wordI xs 1 = n)
    (hM : VarS w Mb (.int .i64 m)) (hG : VarS w Gb G0) (hMR : Mb ≠ R) (hGR : Gb ≠ R) (hAG : ∀ a, A = some a → a.block ≠ Gb) (hGA : ∃ B cB nB, G0 = .slice B nB cB) :
    Calls Tryd.prog 42 #[.pointer (some ⟨R, 0, none⟩), .pointer (some ⟨Mb, 0, none⟩), .pointer (some ⟨Gb, 0, none⟩)] w fun e w2 => ∃ o, Turn (fun q => q = Gb ∨ q = R) w w2 ∧ EndsAs E R A xs c w.heap.size o e w2 ∧ PL Gb G0 xs ys n m w.heap.size o w2 := by
  have H := ru8_ok hR hx (by omega) (by omega)
  rw [h7] at H
  clear h7
  obtain ⟨GB, GC, GN, rfl⟩ := hGA
  go_enter Tryd.func42, Tryd.ntmps42
  go_wp2_with fail
  refine H.mono ?_
  rintro e W1 ⟨rfl, hR1, hT1⟩
  have hM1 := hM.turn hT1 hMR
  have hG1 := hG.turn hT1 hGR
  have hT1 : Turn (fun q => q = Gb ∨ q = R) w W1 := hT1.sub (fun q hq => .inr hq)
  have hE1 := hE2 W1 hT1
  have cM := hM1.c
  clear H hR hM hG
  by_cases hb : m < n
  · have H2 := rlist_big hR1 hE1 hx (by omega) (by omega) m (by rw [hn]; exact hb)
    have hs := hT1.size
    go_wp2_with fail
    refine H2.mono ?_
    intro e W2 hf
    have hfin : ∃ o, Turn (fun q => q = Gb ∨ q = R) w W2 ∧ EndsAs E R A xs c w.heap.size o e W2 ∧ PL Gb (.slice GB GN GC) xs ys n m w.heap.size o W2 :=
      ⟨_, hT1.and (Turn.of_below hf.below), EndsAs.fell hf (by decide) hs, .inl ⟨hb, rfl, hG1.below hf.below⟩⟩
    obtain ⟨bt, rfl, _⟩ := hf
    have hfin := Lib.hid hfin
    go_wp2_with fail
    exact ⟨rfl, hfin.out⟩
  by_cases hs : (ys.length : Int) < n
  · have H2 := rlist_long hR1 hE1 hx (by omega) (by omega) m (by rw [hn]; omega)
    have hs1 := hT1.size
    go_wp2_with fail
    refine H2.mono ?_
    intro e W2 hf
    have hfin : ∃ o, Turn (fun q => q = Gb ∨ q = R) w W2 ∧ EndsAs E R A xs c w.heap.size o e W2 ∧ PL Gb (.slice GB GN GC) xs ys n m w.heap.size o W2 :=
      ⟨_, hT1.and (Turn.of_below hf.below), EndsAs.fell hf (by decide) hs1, .inr (.inl ⟨by omega, hs, rfl, hG1.below hf.below⟩)⟩
    obtain ⟨bt, rfl, _⟩ := hf
    have hfin := Lib.hid hfin
    go_wp2_with fail
    exact ⟨rfl, hfin.out⟩
  · have hw0 := hx.word 1
    rw [hn] at hw0
    obtain ⟨k, hk⟩ := Int.eq_ofNat_of_zero_le hw0.1
    have H2 := rlist_ok hR1 hx (by omega) k (by omega) m (by rw [hn]; exact hk) (by omega)
    have hsz := hT1.size
    have HN := Lib.hid (And.intro hk (And.intro hb (And.intro hs hy)))
    clear hk hb hs hw0 hn hx hy
    go_wp2_with fail
    refine H2.mono ?_
    rintro e W2 ⟨v, rfl, hown, hR2, hT2⟩
    obtain ⟨Av, cv, rfl, _, _, hAv⟩ := own_slice hown
    have hrd := SlRead.of_own hown
    have hG2 := hG1.turn hT2 hGR
    have cG := hG2.c
    have fG := hG2.f
    have hst := set_turn W2 Gb 0 (.slice Av k cv)
    have hgl := hG1.lt
    have hfin : ∃ o, Turn (fun q => q = Gb ∨ q = R) w (W2.setCell ⟨Gb, 0, none⟩ (.slice Av k cv)) ∧ EndsAs E R A xs c w.heap.size o (.returned (.tuple #[])) (W2.setCell ⟨Gb, 0, none⟩ (.slice Av k cv)) ∧ PL Gb (.slice GB GN GC) xs ys n m w.heap.size o (W2.setCell ⟨Gb, 0, none⟩ (.slice Av k cv)) := by
      obtain ⟨hk, hb, hs, hy⟩ := HN.out
      have hrd2 := hrd.turn hst (fun _ a ha => by have := (hAv a ha).1; omega)
      rw [show xs.drop (0 + 1 + 4) = ys by rw [hy]] at hrd2
      exact ⟨_, (hT1.and (hT2.sub (fun q hq => .inr hq))).and (hst.sub (fun q hq => .inl hq)), .inl ⟨rfl, 1 + 4 + k, hR2.turn hst (Ne.symm hGR) hAG, rfl⟩, .inr (.inr ⟨by omega, k, Av, cv, hk, by omega, rfl, hG2.set _, hrd2, fun a ha => by have := (hAv a ha).1; omega⟩)⟩
    have hfin := Lib.hid hfin
    clear hst hG2 hG1 hT2 hT1 hR2 hR1 hown hrd hAv H2 hE2 hM1 hE1
    go_wp2_with fail
    go_end0
    exact hfin.out
theorem byts_of {xs : List Int} (h : ∀ x ∈ xs, (Lit.int .u8 x).wf = true) : Byts xs := fun x hx => by
  have := h x hx
  simp [Lit.wf, IntKind.min, IntKind.max, IntKind.bits, IntKind.signed] at this
  omega
theorem Turn.ge {n : Nat} {w w' : World} (h : Below n w w') : Turn (fun q => n ≤ q) w w' := ⟨h.os, h.tape, h.output, h.size, fun q _ hF => h.block q (by omega)⟩
theorem sliceAt_hk {P : Program} {t e : TypeId} (hu : P.underlying t = some (.slice e)) (hs : (P.info? e).map (·.size) = some 1) (kk : IntKind) (A : Option Addr) (n cap k : Nat) (z : Int) (hz : z = k) (hk : k ≤ cap) (w : World) :
    (Instr.sliceAt t (.slice A n cap) none (some (.int kk z)) none).run P w = .ok (.slice A k cap) w := by
  subst hz
  have e2 : P.elem t = e := by simp [Program.elem, hu]
  rw [run_sliceAt_slice (h := by rw [e2]; exact hu), run_slice_h (P := P) w t A n cap (by rw [e2]; exact hu) kk (k : Int) (by omega) (by omega), e2]
  obtain ⟨i, hi, hz⟩ := Option.map_eq_some_iff.1 hs
  cases A <;> simp [sizeOf, typeInfo, hi, hz, Result.andThen, sliced, Addr.add]
theorem cvt_u32i (n : Int) (h : 0 ≤ n ∧ n < 4294967296) (w : World) : (convert 35 3 (.int .u32 n)).run Tryd.prog w = .ok (.int .i64 n) w := by
  have h1 := Tryd.underlying35
  have h2 := Tryd.underlying3
  have e : IntKind.i64.wrap n = n := IntWalk.i64_in _ (by omega)
  simp [convert, run_underlying h1, run_underlying h2, Conv.intToInt, e]
set_option maxRecDepth 100000 in
set_option maxHeartbeats 6400000 in
theorem lists_walk (E : Nat → Addr) (A : Option Addr) (ys : List Int) (ca : Nat) (most n : Int) (w : World) (hA : SlRead w A (ints .u8 ys)) (hca : ys.length ≤ ca) (hyb : Byts ys) (hn : 0 ≤ n ∧ n < 4294967296) (hE : ErrsAt E w) :
    Calls Tryd.prog 7 #[.slice A ys.length ca, .int .i64 most, .int .u32 n] w fun e w' => e = .returned (.bool true) ∧ Below w.heap.size w w' := by
  have hAlt : 0 < ys.length → ∀ a, A = some a → a.block < w.heap.size := fun h0 a ha => by
    obtain ⟨b, o, e, hlt, _⟩ := hA (by simpa using h0)
    rw [e] at ha; cases ha; exact hlt
  go_enter Tryd.func7, Tryd.ntmps7
  go_upto_region 1 with (fail)
  refine wp_world (fun V => Below w.heap.size w V ∧ VarS V w.heap.size (.int .i64 most)) ⟨below_alc w _, ⟨by simp [go_sem], by simp [go_sem]⟩⟩ ?_
  rintro W0 ⟨hb0, hM0⟩
  go_wp2_with fail
  refine (first_any W0).mono ?_
  rintro e W1 ⟨rfl, hb⟩
  have hM1 := hM0.below hb
  have hb1 := hb0.trans (hb.mono hb0.size)
  have cM := hM1.c
  clear hM0 hb hb0
  by_cases hl : ys.length ≤ 40
  case neg =>
    go_wp2_with fail
    go_ret
    exact ⟨rfl, hb1⟩
  obtain ⟨m, hm, hm0, hm50⟩ : ∃ m, most % 50 = m ∧ 0 ≤ m ∧ m < 50 := ⟨_, rfl, by omega, by omega⟩
  have HN := num_lit most 50 m W1 (by omega) hm
  clear hm
  go_wp2_with fail
  refine HN.mono ?_
  rintro e W2 ⟨rfl, md, rfl⟩
  have hb2 : Below w.heap.size w (W1.drewN md) := hb1.trans ((Below.drewNr md).mono hb1.size)
  have hM2 := hM1.below (Below.drewNr md)
  generalize W1.drewN md = W2 at *
  have cM := hM2.c
  have fM := hM2.f
  clear HN hb1 hM1
  go_upto_region 8 with (fail)
  obtain ⟨Wb, hWb⟩ : ∃ Wb, Wb = W2.heap.size := ⟨_, rfl⟩
  have hst := set_turn W2 w.heap.size 0 (.int .i64 m)
  have hss : (W2.setCell ⟨w.heap.size, 0, none⟩ (.int .i64 m)).heap.size = W2.heap.size := by simp [World.setCell]
  have hsn := below_alc (W2.setCell ⟨w.heap.size, 0, none⟩ (.int .i64 m)) (.cells #[.slice none 0 0] 26)
  refine wp_world (fun V => Below w.heap.size w V ∧ VarS V w.heap.size (.int .i64 m) ∧ WrS V Wb Wb [] (.slice none 0 0) ∧ V.heap.size = Wb + 1) ?_ ?_
  · have hw0 := hb2.size
    refine ⟨(hst.below hb2 hw0 (fun q hq => by omega)).trans (hsn.mono (by rw [hss]; exact hw0)), (hM2.set _).below hsn, ?_, ?_⟩
    · rw [hWb, ← hss]
      exact ⟨by simp [go_sem], by simp [go_sem], World.ownsRow_nil _ _ _ _, by simp [Value.ownBlock], Nat.le_refl _⟩
    · rw [hWb, ← hss]; simp
  rintro V ⟨hbV, hMV, hw, hVs⟩
  have hMW : w.heap.size < Wb := by rw [hWb]; exact hM2.lt
  rw [show W2.heap.size = Wb from hWb.symm]
  clear hst hsn hss hM2 hb2 cM fM hWb
  go_wp2_with fail
  refine (wu8_any 7 Wb Wb [] _ V hw (by omega) (by simp)).mono ?_
  rintro e V1 ⟨rfl, v1, hw1, ht1, _⟩
  have hW1 : Below Wb V V1 := ht1.below (Below.refl _ _) (by omega) (fun q hq => (hw.ltF hq).1)
  clear hw ht1
  rw [show ([] : List Int) ++ [7 % 256] = [7] by decide] at hw1
  go_wp2_with fail
  refine (wu32_any n Wb Wb [7] _ V1 hw1 (Nat.le_trans (by omega) hW1.size) (by simp)).mono ?_
  rintro e V2 ⟨rfl, v2, hw2, ht2, _⟩
  have hW2 : Below Wb V V2 := ht2.below hW1 (by have := hW1.size; omega) (fun q hq => (hw1.ltF hq).1)
  have hr2 := hA.below (hbV.trans (hW2.mono (Nat.le_of_lt hMW)))
  clear hw1 ht2 hW1
  go_wp2_with fail
  refine (wraw_any A ys ca Wb Wb ([7] ++ le4 n) _ V2 hw2 (Nat.le_trans (by omega) hW2.size) (by simp [le4]) hr2 (by omega)).mono ?_
  rintro e V3 ⟨rfl, v3, hw3, ht3, _⟩
  have hW3 : Below Wb V V3 := ht3.below hW2 (by have := hW2.size; omega) (fun q hq => (hw2.ltF hq).1)
  clear hw2 ht3 hW2 hr2
  have hxl : (([7] ++ le4 n) ++ ys).length = 5 + ys.length := by simp [le4]; omega
  have hxd : ys = (([7] ++ le4 n) ++ ys).drop 5 := rfl
  have hxb : Byts (([7] ++ le4 n) ++ ys) := by
    intro x hx
    simp only [List.mem_append] at hx
    rcases hx with (hx | hx) | hx
    · obtain rfl : x = 7 := by simpa using hx
      omega
    · exact le4_byts n x hx
    · exact hyb x hx
  have hx7 : byteI (([7] ++ le4 n) ++ ys) 0 = 7 := rfl
  have hxw : wordI (([7] ++ le4 n) ++ ys) 1 = n := by
    show n % 256 + n / 256 % 256 * 256 + n / 65536 % 256 * 65536 + n / 16777216 % 256 * 16777216 = n
    omega
  generalize ([7] ++ le4 n) ++ ys = xs at *
  have HX := Lib.hid (And.intro hxl (And.intro hxd (And.intro hx7 hxw)))
  have hx45 : xs.length ≤ 45 := by omega
  clear hxl hxd hx7 hxw
  go_wp2_with fail
  refine (wbytes_any _ _ xs v3 V3 hw3 (by omega)).mono ?_
  rintro e V4 ⟨v4, rfl, hown, hb4⟩
  obtain ⟨A4, c4, rfl, _, _, hAlt0⟩ := own_slice hown
  have hA4 : ∀ a, A4 = some a → a.block < V4.heap.size := fun a ha => (hAlt0 a ha).2
  have hrd := SlRead.of_own hown
  have hW4 : Below Wb V V4 := hW3.trans (hb4.mono (by have := hW3.size; omega))
  have hV4s := hW4.size
  clear hAlt0 hown hw3 hb4 hW3
  go_upto_region 13 with (fail)
  obtain ⟨D, hD⟩ : ∃ D, D = V4.heap.size + 1 := ⟨_, rfl⟩
  obtain ⟨G, hG⟩ : ∃ G, G = V4.heap.size := ⟨_, rfl⟩
  refine wp_world (fun V => Below w.heap.size w V ∧ VarS V w.heap.size (.int .i64 m) ∧ SlRead V A4 (ints .u8 xs) ∧ VarS V D (.slice (some ⟨G, 0, none⟩) 3 3) ∧ V.heap.size = D + 1) ?_ ?_
  · have hbb : Below V4.heap.size V4 ((V4.alloc (.cells #[.int .u8 1, .int .u8 2, .int .u8 3] 5)).alloc (.cells #[.slice (some ⟨V4.heap.size, 0, none⟩) 3 3] 23)) := (below_alc V4 _).alloc (by simp) _
    have hbW : Below Wb V ((V4.alloc (.cells #[.int .u8 1, .int .u8 2, .int .u8 3] 5)).alloc (.cells #[.slice (some ⟨V4.heap.size, 0, none⟩) 3 3] 23)) := hW4.trans (hbb.mono (by omega))
    refine ⟨hbV.trans (hbW.mono (Nat.le_of_lt hMW)), hMV.turn (Turn.ge hbW) (by omega), hrd.below hbb, ?_, ?_⟩
    · rw [hD, hG]; exact ⟨by simp [go_sem], by simp [go_sem]⟩
    · rw [hD]; simp
  rintro U0 ⟨hb0, hM0, hr0, hG0, hs0⟩
  have hwD : w.heap.size < D := by omega
  have hA4D : ∀ a, A4 = some a → a.block < D := fun a ha => by have := hA4 a ha; omega
  rw [← hD, ← hG]
  clear hD hG hW4 hrd hMV hbV hVs hA4 hV4s
  have hEU := hE.below hb0
  have hTr : ¬ 4 = D := by have : 4 < w.heap.size := cell_lt (hE.c 3 (by decide)); omega
  go_wp2_with fail
  refine (lread2_any E 42 #[.pointer (some ⟨w.heap.size, 0, none⟩), .pointer (some ⟨D, 0, none⟩)] A4 xs c4 U0 (fun q => q = D) (fun lo o V => PL D (.slice (some ⟨G, 0, none⟩) 3 3) xs ys n m lo o V) (fun _ _ => by kernel_rfl) hr0 (by omega) (fun _ => hEU.c 3 (by decide)) hTr (fun q hq => by omega) (fun lo o W W' hp ht => hp.later ht (by omega)) ?_).mono ?_
  · intro w1 R A1 c1 hb1 hR hRV hA1
    obtain ⟨hxl, hxd, hx7, hxw⟩ := HX.out
    exact lists1_any hR (fun U hU => hE.below (hU.below (hb0.trans (hb1.mono hb0.size)) (Nat.le_trans hb0.size hb1.size) (fun q hq => by omega))) hxb hxl hxd (by omega) hx7 hxw (hM0.below hb1) (hG0.below hb1) (by omega) (by omega) (fun a ha => by have := hA1 a ha; omega) ⟨_, _, _, rfl⟩
  rintro e W5 ⟨u, rfl, lo, o, hlo, htell, hp, ht⟩
  have hM5 := hM0.turn ht (by omega)
  have hb5 : Below w.heap.size w W5 := ht.below hb0 hb0.size (fun q hq => by omega)
  have hE5 := hE.below hb5
  have hr5 := hA.below hb5
  have HWR : Hid (wrap64 n = n ∧ IntKind.i64.wrap n = n) := Lib.hid ⟨by unfold wrap64; omega, IntWalk.i64_in _ (by omega)⟩
  clear ht hr0 hM0 hG0 hEU hxb hA4D hb0
  rcases hp with ⟨h1, rfl, hG5⟩ | ⟨h1, h2, rfl, hG5⟩ | ⟨h1, k, Ak, ck, hnk, h3, rfl, hG5, hrk, hAk⟩
  · obtain ⟨_, bt, rfl, hat⟩ := htell
    go_wp2_with fail
    refine (faulta_any E bt 1 1 (by decide) W5 hE5 hat).mono ?_
    rintro e W6 ⟨rfl, hb6⟩
    have hz := heap_alloc_new W6 (.cells #[.int .i64 0, .bool false, .int .i64 0] 42)
    go_upto_region 15 with (refine wpList_store_row rfl 42 _ _ rfl _ (frow 102 true 1) rfl rfl _ _ hz (by kernel_rfl) rfl (frow_one _ _ _) ?_)
    obtain ⟨Q, hQ⟩ : ∃ Q, Q = W6.heap.size := ⟨_, rfl⟩
    refine wp_world (fun V => Below W5.heap.size W5 V ∧ V.heap[Q]? = some (.cells (frow 102 true 1) 42 (0, 0))) ⟨by rw [alloc_setRow]; exact hb6.alloc hb6.size _, by rw [alloc_setRow, hQ]; exact heap_alloc_new _ _⟩ ?_
    rw [← hQ]
    clear hz hb6 hQ
    rintro U ⟨hbU, hzU⟩
    have cM := (hbU.cell (p := ⟨w.heap.size, 0, none⟩) hM5.lt).trans hM5.c
    have cD := (hbU.cell (p := ⟨D, 0, none⟩) (VarS.lt hG5)).trans hG5.c
    have hEU := hE5.below hbU
    have hbw := hb5.trans (hbU.mono hb5.size)
    have hatU := hat.below hbU
    have HB := Lib.hid hbw
    clear hbw hbU hM5 hG5 hb5 hE5 hat hzU
    obtain ⟨hwr, hwi⟩ := HWR.out
    go_wp2_with fail
    refine (placed_any 102 1 U (by decide)).mono ?_
    rintro e V1 ⟨rfl, hb1⟩
    have cD := (hb1.cell (p := ⟨D, 0, none⟩) (cell_lt cD)).trans cD
    have hsm := same_at E bt 1 1 (by decide) V1 (hEU.below hb1) (hatU.below hb1)
    have HB := Lib.hid (HB.out.trans (hb1.mono HB.out.size))
    clear hb1 hEU hatU
    go_wp2_with fail
    refine hsm.mono ?_
    rintro e V2 ⟨rfl, hb2⟩
    have cD := (hb2.cell (p := ⟨D, 0, none⟩) (cell_lt cD)).trans cD
    have HB := Lib.hid (HB.out.trans (hb2.mono HB.out.size))
    clear hb2 hsm
    go_wp2_with fail
    go_ret
    exact ⟨rfl, HB.out⟩
  · obtain ⟨_, bt, rfl, hat⟩ := htell
    go_wp2_with fail
    refine (faulta_any E bt 2 1 (by decide) W5 hE5 hat).mono ?_
    rintro e W6 ⟨rfl, hb6⟩
    have hz := heap_alloc_new W6 (.cells #[.int .i64 0, .bool false, .int .i64 0] 42)
    go_upto_region 15 with (refine wpList_store_row rfl 42 _ _ rfl _ (frow 103 true 1) rfl rfl _ _ hz (by kernel_rfl) rfl (frow_one _ _ _) ?_)
    obtain ⟨Q, hQ⟩ : ∃ Q, Q = W6.heap.size := ⟨_, rfl⟩
    refine wp_world (fun V => Below W5.heap.size W5 V ∧ V.heap[Q]? = some (.cells (frow 103 true 1) 42 (0, 0))) ⟨by rw [alloc_setRow]; exact hb6.alloc hb6.size _, by rw [alloc_setRow, hQ]; exact heap_alloc_new _ _⟩ ?_
    rw [← hQ]
    clear hz hb6 hQ
    rintro U ⟨hbU, hzU⟩
    have cM := (hbU.cell (p := ⟨w.heap.size, 0, none⟩) hM5.lt).trans hM5.c
    have cD := (hbU.cell (p := ⟨D, 0, none⟩) (VarS.lt hG5)).trans hG5.c
    have hEU := hE5.below hbU
    have hbw := hb5.trans (hbU.mono hb5.size)
    have hatU := hat.below hbU
    have HB := Lib.hid hbw
    clear hbw hbU hM5 hG5 hb5 hE5 hat hzU
    obtain ⟨hwr, hwi⟩ := HWR.out
    go_wp2_with fail
    refine (placed_any 103 1 U (by decide)).mono ?_
    rintro e V1 ⟨rfl, hb1⟩
    have cD := (hb1.cell (p := ⟨D, 0, none⟩) (cell_lt cD)).trans cD
    have hsm := same_at E bt 2 1 (by decide) V1 (hEU.below hb1) (hatU.below hb1)
    have HB := Lib.hid (HB.out.trans (hb1.mono HB.out.size))
    clear hb1 hEU hatU
    go_wp2_with fail
    refine hsm.mono ?_
    rintro e V2 ⟨rfl, hb2⟩
    have cD := (hb2.cell (p := ⟨D, 0, none⟩) (cell_lt cD)).trans cD
    have HB := Lib.hid (HB.out.trans (hb2.mono HB.out.size))
    clear hb2 hsm
    go_wp2_with fail
    go_ret
    exact ⟨rfl, HB.out⟩
  · have hn3 : n ≤ (ys.length : Int) := by omega
    rcases Nat.lt_or_ge k ys.length with hk | hk
    · skip
      have hcd : 1 + 4 + k < xs.length := by have := HX.out.1; omega
      have hz5 : ((1 + 4 + k : Nat) : Int) = 5 + n := by omega
      have hk3 : n < (ys.length : Int) := by omega
      rw [if_pos hcd, hz5] at htell
      have hsl := fun w => sliceAt_hk (P := Tryd.prog) Tryd.underlying23 (by kernel_rfl) .u32 A ys.length ca k n hnk (by omega) w
      have hlk : (ys.take k).length = k := by simp; omega
      have HLK := Lib.hid hlk
      clear hcd hz5 hnk hlk
      obtain ⟨_, bt, rfl, hat⟩ := htell
      go_wp2_with fail
      refine (faulta_any E bt 3 (5 + n) (by decide) W5 hE5 hat).mono ?_
      rintro e W6 ⟨rfl, hb6⟩
      have hz := heap_alloc_new W6 (.cells #[.int .i64 0, .bool false, .int .i64 0] 42)
      go_upto_region 15 with (refine wpList_store_row rfl 42 _ _ rfl _ (frow 104 true (5 + n)) rfl rfl _ _ hz (by kernel_rfl) rfl (frow_one _ _ _) ?_)
      obtain ⟨Q, hQ⟩ : ∃ Q, Q = W6.heap.size := ⟨_, rfl⟩
      refine wp_world (fun V => Below W5.heap.size W5 V ∧ V.heap[Q]? = some (.cells (frow 104 true (5 + n)) 42 (0, 0))) ⟨by rw [alloc_setRow]; exact hb6.alloc hb6.size _, by rw [alloc_setRow, hQ]; exact heap_alloc_new _ _⟩ ?_
      rw [← hQ]
      clear hz hb6 hQ
      rintro U ⟨hbU, hzU⟩
      have cM := (hbU.cell (p := ⟨w.heap.size, 0, none⟩) hM5.lt).trans hM5.c
      have cD := (hbU.cell (p := ⟨D, 0, none⟩) (VarS.lt hG5)).trans hG5.c
      have hEU := hE5.below hbU
      have hbw := hb5.trans (hbU.mono hb5.size)
      have q0 : U.cell? ⟨Q, 0, none⟩ = some (.int .i64 104) := by simp [World.cell?, hzU, frow]
      have q2 : U.cell? ⟨Q, 2, none⟩ = some (.int .i64 (5 + n)) := by simp [World.cell?, hzU, frow]
      have hQl := cell_lt q0
      have d0 := cD
      have hDl := cell_lt d0
      have hSB : ∀ V, Below U.heap.size U V → Quiets Tryd.prog 19 #[.slice Ak k ck, .slice A k ca] V (.bool true) := fun V hV => by
        have hh := same_eq Ak A (ys.take k) ck ca V ((hrk.below hbU).below hV) (((hr5.take k).below hbU).below hV) (by rw [HLK.out]; omega)
        rw [HLK.out] at hh
        exact hh
      have HB := Lib.hid hbw
      clear hbw hbU hM5 hG5 hb5 hE5 hat hzU hEU hrk hr5 cD
      obtain ⟨hwr, hwi⟩ := HWR.out
      go_upto_region 20 with (fail)
      clear hwr hwi
      refine wp_region_noPanic ?_
      refine wp_region_held_drew (S := fun V => Below U.heap.size U V) (by kernel_rfl) (Below.drewNr (w := U) 1) (fun hHeld => ?_)
      refine held_move 0 (Go.Operand.tmp 7) (some 73) (.bool true) (by kernel_rfl) (by kernel_rfl) (by kernel_rfl) (by kernel_rfl) (by kernel_rfl) (fun _ _ _ _ _ h => h) hHeld ?_
      refine held_move 1 (Go.Operand.tmp 73) (some 74) (.bool true) (by kernel_rfl) (by kernel_rfl) (by kernel_rfl) (by kernel_rfl) (by kernel_rfl) (fun _ _ _ _ _ h => h) hHeld ?_
      refine held_field 2 42 (Go.Operand.tmp 12) 0 (some 75) (.pointer (some ⟨Q, 0, none⟩)) (.pointer (some ⟨Q, 0, none⟩)) (by kernel_rfl) (by kernel_rfl) (fun w => by kernel_rfl) (by kernel_rfl) (by kernel_rfl) (by kernel_rfl) (fun _ _ _ _ _ h => h) hHeld ?_
      refine held_cell 3 3 (Go.Operand.tmp 75) (some 76) (.pointer (some ⟨Q, 0, none⟩)) (.int .i64 104) (by kernel_rfl) (by kernel_rfl) (fun V hV => load_i64 Q 0 V _ ((hV.cell (p := ⟨Q, 0, none⟩) hQl).trans q0)) (by kernel_rfl) (by kernel_rfl) (by kernel_rfl) (fun _ _ _ _ _ h => h) hHeld ?_
      refine held_bin 4 Go.BinOp.eql 3 (Go.Operand.tmp 76) (Go.Operand.const (Go.Value.int Go.IntKind.i64 104)) 3 (some 77) (.int .i64 104) (Go.Value.int Go.IntKind.i64 104) (.bool true) (by kernel_rfl) (by kernel_rfl) (fun w => by kernel_rfl) (by kernel_rfl) (by kernel_rfl) (by kernel_rfl) (fun _ _ _ _ _ h => h) hHeld ?_
      refine held_pick 5 (Go.Operand.tmp 74) (Go.Operand.tmp 77) (Go.Operand.const (Go.Value.bool false)) (some 78) true (.bool true) (by kernel_rfl) (by kernel_rfl) (by kernel_rfl) (by kernel_rfl) (by kernel_rfl) (by kernel_rfl) (fun _ _ _ _ _ h => h) hHeld ?_
      refine held_move 6 (Go.Operand.tmp 78) (some 79) (.bool true) (by kernel_rfl) (by kernel_rfl) (by kernel_rfl) (by kernel_rfl) (by kernel_rfl) (fun _ _ _ _ _ h => h) hHeld ?_
      refine held_field 7 42 (Go.Operand.tmp 12) 2 (some 80) (.pointer (some ⟨Q, 0, none⟩)) (.pointer (some ⟨Q, 2, none⟩)) (by kernel_rfl) (by kernel_rfl) (fun w => by kernel_rfl) (by kernel_rfl) (by kernel_rfl) (by kernel_rfl) (fun _ _ _ _ _ h => h) hHeld ?_
      refine held_cell 8 3 (Go.Operand.tmp 80) (some 81) (.pointer (some ⟨Q, 2, none⟩)) (.int .i64 (5 + n)) (by kernel_rfl) (by kernel_rfl) (fun V hV => load_i64 Q 2 V _ ((hV.cell (p := ⟨Q, 2, none⟩) hQl).trans q2)) (by kernel_rfl) (by kernel_rfl) (by kernel_rfl) (fun _ _ _ _ _ h => h) hHeld ?_
      refine held_move 9 (Go.Operand.tmp 2) (some 82) (.int .u32 n) (by kernel_rfl) (by kernel_rfl) (by kernel_rfl) (by kernel_rfl) (by kernel_rfl) (fun _ _ _ _ _ h => h) hHeld ?_
      refine held_any 10 (Go.Op.convert 35 3 (Go.Operand.tmp 82)) (some 83) (.int .i64 n) (by kernel_rfl) (by kernel_rfl) (by kernel_rfl) (by kernel_rfl) (fun _ _ _ _ _ h => h) hHeld (fun o ho w _ => exec_cvt (vx := .int .u32 n) ho (by kernel_rfl) (cvt_u32i _ hn w)) ?_
      refine held_bin 11 Go.BinOp.add 3 (Go.Operand.const (Go.Value.int Go.IntKind.i64 5)) (Go.Operand.tmp 83) 3 (some 84) (Go.Value.int Go.IntKind.i64 5) (.int .i64 n) (.int .i64 (5 + n)) (by kernel_rfl) (by kernel_rfl) (fun w => add_int _ _ _ w _ _ _ rfl (by omega) (by omega)) (by kernel_rfl) (by kernel_rfl) (by kernel_rfl) (fun _ _ _ _ _ h => h) hHeld ?_
      refine held_bin 12 Go.BinOp.eql 3 (Go.Operand.tmp 81) (Go.Operand.tmp 84) 3 (some 85) (.int .i64 (5 + n)) (.int .i64 (5 + n)) (.bool true) (by kernel_rfl) (by kernel_rfl) (fun w => eql_int _ _ _ w _ _ _ _ (by simp)) (by kernel_rfl) (by kernel_rfl) (by kernel_rfl) (fun _ _ _ _ _ h => h) hHeld ?_
      refine held_pick 13 (Go.Operand.tmp 79) (Go.Operand.tmp 85) (Go.Operand.const (Go.Value.bool false)) (some 86) true (.bool true) (by kernel_rfl) (by kernel_rfl) (by kernel_rfl) (by kernel_rfl) (by kernel_rfl) (by kernel_rfl) (fun _ _ _ _ _ h => h) hHeld ?_
      refine held_move 14 (Go.Operand.tmp 86) (some 87) (.bool true) (by kernel_rfl) (by kernel_rfl) (by kernel_rfl) (by kernel_rfl) (by kernel_rfl) (fun _ _ _ _ _ h => h) hHeld ?_
      refine held_cell 15 23 (Go.Operand.tmp 10) (some 88) (.pointer (some ⟨D, 0, none⟩)) (.slice Ak k ck) (by kernel_rfl) (by kernel_rfl) (fun V hV => load_slice D 0 V 23 (fun w => by kernel_rfl) _ ((hV.cell (p := ⟨D, 0, none⟩) hDl).trans d0)) (by kernel_rfl) (by kernel_rfl) (by kernel_rfl) (fun _ _ _ _ _ h => h) hHeld ?_
      refine held_move 16 (Go.Operand.tmp 0) (some 89) (.slice A ys.length ca) (by kernel_rfl) (by kernel_rfl) (by kernel_rfl) (by kernel_rfl) (by kernel_rfl) (fun _ _ _ _ _ h => h) hHeld ?_
      refine held_move 17 (Go.Operand.tmp 2) (some 90) (.int .u32 n) (by kernel_rfl) (by kernel_rfl) (by kernel_rfl) (by kernel_rfl) (by kernel_rfl) (fun _ _ _ _ _ h => h) hHeld ?_
      refine held_slice 18 23 (Go.Operand.tmp 89) none (some (Go.Operand.tmp 90)) none (some 91) (.slice A ys.length ca) none (some (.int .u32 n)) none (.slice A k ca) (by kernel_rfl) (by kernel_rfl) (hsl) (by kernel_rfl) (by kernel_rfl) (by kernel_rfl) (fun _ _ _ _ _ h => h) hHeld ?_
      refine held_call 19 19 #[Go.Operand.tmp 88, Go.Operand.tmp 91] #[23, 23] (some 92) #[.slice Ak k ck, .slice A k ca] _ (by kernel_rfl) (by kernel_rfl) (by kernel_rfl) (by kernel_rfl) (hSB _ hHeld) ?_
      rintro e Y1 ⟨rfl, mm, rfl⟩
      refine ⟨_, rfl, hHeld.trans ((Below.drewNr mm).mono hHeld.size), fun hHeld => ?_⟩
      refine held_pick 20 (Go.Operand.tmp 87) (Go.Operand.tmp 92) (Go.Operand.const (Go.Value.bool false)) (some 93) true (.bool true) (by kernel_rfl) (by kernel_rfl) (by kernel_rfl) (by kernel_rfl) (by kernel_rfl) (by kernel_rfl) (fun _ _ _ _ _ h => h) hHeld ?_
      refine held_assign 21 (Go.Operand.tmp 93) (some 6) (.bool true) (by kernel_rfl) (by kernel_rfl) (by kernel_rfl) (by kernel_rfl) (by kernel_rfl) (fun _ _ _ _ _ h => h) hHeld ?_
      refine wpAnyH_done (by kernel_rfl) ?_ _
      refine NoPanic.normal ?_
      simp only [put_list, List.set_cons_zero, List.set_cons_succ]
      go_wp2_with fail
      go_ret
      exact ⟨rfl, HB.out.trans (hHeld.mono HB.out.size)⟩
    · skip
      have hcd : ¬ 1 + 4 + k < xs.length := by have := HX.out.1; omega
      rw [if_neg hcd] at htell
      clear hcd
      obtain rfl : u = .nilIface := htell
      have hkl : k = ys.length := by omega
      have hk4 : (ys.length : Int) ≤ n := by omega
      rw [hkl] at hG5 hrk
      rw [List.take_length] at hrk
      clear hkl hnk hk
      go_wp2_with fail
      refine (faultn_any W5).mono ?_
      rintro e W6 ⟨rfl, hb6⟩
      have hz := heap_alloc_new W6 (.cells #[.int .i64 0, .bool false, .int .i64 0] 42)
      go_upto_region 15 with (refine wpList_store_row rfl 42 _ _ rfl _ (frow 0 false 0) rfl rfl _ _ hz (by kernel_rfl) rfl (frow_one _ _ _) ?_)
      obtain ⟨Q, hQ⟩ : ∃ Q, Q = W6.heap.size := ⟨_, rfl⟩
      refine wp_world (fun V => Below W5.heap.size W5 V ∧ V.heap[Q]? = some (.cells (frow 0 false 0) 42 (0, 0))) ⟨by rw [alloc_setRow]; exact hb6.alloc hb6.size _, by rw [alloc_setRow, hQ]; exact heap_alloc_new _ _⟩ ?_
      rw [← hQ]
      clear hz hb6 hQ
      rintro U ⟨hbU, hzU⟩
      have cM := (hbU.cell (p := ⟨w.heap.size, 0, none⟩) hM5.lt).trans hM5.c
      have cD := (hbU.cell (p := ⟨D, 0, none⟩) (VarS.lt hG5)).trans hG5.c
      have hEU := hE5.below hbU
      have hbw := hb5.trans (hbU.mono hb5.size)
      have hSB := same_eq Ak A ys ck ca U (hrk.below hbU) (hr5.below hbU) (by omega)
      have HB := Lib.hid hbw
      clear hbw hbU hM5 hG5 hb5 hE5 hzU hEU hrk hr5
      obtain ⟨hwr, hwi⟩ := HWR.out
      go_wp2_with fail
      refine hSB.mono ?_
      rintro e Y1 ⟨rfl, mm, rfl⟩
      have HB := Lib.hid (HB.out.trans ((Below.drewNr (w := U) mm).mono HB.out.size))
      go_wp2_with fail
      go_ret
      exact ⟨rfl, HB.out⟩
end Go.Proofs.YtjgjaefbbhffbaaDoor
