import Derived.Test.YtffkjbbhbpaacaaGreatDoorFrm
import Derived.Test.YtffkjbbhbpaacaaGreatDoorVar
import Derived.Test.YtffkjbbhbpaacaaGreatDoorUcd
import Derived.Test.YtffkjbbhbpaacaaGreatDoorCop
/-
  frame: a request's bytes, a response's, the program's and the document's.
  frame: readKind; what is read within.
  frame: ReadRequest, ReadResponse.
-/
namespace Go.Proofs.YtffkjbbhbpaacaaGreatDoor
open Go.RowKit

theorem wr_new {w : World} {t : TypeId} {o : Obj} {k : Nat} (h : w.heap.size = k) : WrS ((w.alloc o).alloc (.cells #[.slice none 0 0] t)) (k + 1) (k + 1) [] (.slice none 0 0) := by
  subst h
  exact ⟨by simp [go_sem], by simp [go_sem], World.ownsRow_nil _ _ _ _, by simp [Value.ownBlock], Nat.le_refl _⟩
theorem sl_lt {w : World} {A : Option Addr} {ys : List Int} (h : SlRead w A (ints .u8 ys)) : 0 < ys.length → ∀ a, A = some a → a.block < w.heap.size := fun h0 a ha => by
  obtain ⟨b, o, e, hlt, _⟩ := h (by simpa using h0)
  rw [ha] at e
  injection e with e
  subst e
  exact hlt
set_option maxRecDepth 100000 in
set_option maxHeartbeats 1600000 in
theorem dreq_any (op : Int) (f : Nat → BitVec 8) (off n : Int) (A : Option Addr) (ys : List Int) (c : Nat) (w : World) (hA : SlRead w A (ints .u8 ys)) (hl : ys.length ≤ 100000) :
    Calls Tryz.prog 14 #[.agg (rqA op f off n (.slice A ys.length c))] w fun e w' => ∃ v, e = .returned v ∧ w'.ownsRow w.heap.size 5 1 v (45 + ys.length) (ints .u8 (rqB op f off n ys)) ∧ Below w.heap.size w w' := by
  have hsl := slice_blob
  have hAl := sl_lt hA
  go_enter Tryz.func14, Tryz.ntmps14
  go_upto_region 2 with (fail)
  obtain ⟨Q, hQ⟩ : ∃ H, H = w.heap.size := ⟨_, rfl⟩
  obtain ⟨Wb, hWb⟩ : ∃ H, H = w.heap.size + 1 := ⟨_, rfl⟩
  refine wp_world (fun V => Below w.heap.size w V ∧ V.heap[Q]? = some (.cells (rqA op f off n (.slice A ys.length c)) 40 (0, 0)) ∧ WrS V Wb Wb [] (.slice none 0 0) ∧ V.heap.size = Q + 2) ?_ ?_
  · rw [hQ, hWb]
    exact ⟨(below_alc w _).trans ((below_alc _ _).mono (by simp)), heap2_0 _ _ _, wr_new rfl, by simp⟩
  rintro V0 ⟨hb0, hq0, hw0, hs0⟩
  rw [← hWb, ← hQ]
  have hQW : Q < Wb := by omega
  have hwQ : w.heap.size ≤ Q := by omega
  have hs0 : Wb ≤ V0.heap.size := by omega
  have hAQ : 0 < ys.length → ∀ a, A = some a → a.block < Q := fun h0 a ha => by have := hAl h0 a ha; omega
  have hwW : w.heap.size ≤ Wb := by omega
  have hA0 := hA.below hb0
  clear hWb hQ hA hAl
  obtain ⟨zs1, hz1⟩ : ∃ zs, zs = [] ++ [op % 256] := ⟨_, rfl⟩
  have cc := cell_heap hq0 (rq_c0 _ _ _ _ _)
  have HC := du8_any op Wb Wb [] _ V0 hw0 hs0 (by simp)
  rw [← hz1] at HC
  have HL1 : Hid (zs1.length = 1) := Lib.hid (by rw [hz1]; simp)
  have HZ1 := Lib.hid hz1
  clear hz1
  go_wp2_with fail
  refine HC.mono ?_
  rintro e V1 ⟨rfl, v1, hw1, ht, _⟩
  have hq1 := (ht.block Q (by omega) (fun hh => by have := (hw0.ltF hh).1; omega)).trans hq0
  have hb1 : Below w.heap.size w V1 := ht.below hb0 hb0.size (fun q hq => by have := (hw0.ltF hq).1; omega)
  have hs1 : Wb ≤ V1.heap.size := Nat.le_trans hs0 ht.size
  have hA1 := hA0.turn ht (fun h0 a ha hh => by have := (hw0.ltF hh).1; have := hAQ (by simpa using h0) a ha; omega)
  clear HC ht hw0 hq0 hb0 hs0 hA0 cc
  obtain ⟨zs2, hz2⟩ : ∃ zs, zs = zs1 ++ fB f := ⟨_, rfl⟩
  have hk : SlRead V1 (some ⟨Q, 1, none⟩) (ints .u8 (fB f)) := fun _ => ⟨Q, 1, rfl, lt_heap hq1, fun j u hu => rq_blob hq1 j u (by rw [← hu, fB_arr]; simp [arr8])⟩
  have HC := draw_any (some ⟨Q, 1, none⟩) (fB f) 32 Wb Wb zs1 _ V1 hw1 hs1 (by rw [HL1.out]; omega) hk (by rw [fB_len]; omega)
  rw [fB_len] at HC
  rw [← hz2] at HC
  have HL2 : Hid (zs2.length = 33) := Lib.hid (by rw [hz2]; simp [fB_len, HL1.out])
  have HZ2 := Lib.hid hz2
  clear hz2
  go_wp2_with fail
  refine HC.mono ?_
  rintro e V2 ⟨rfl, v2, hw2, ht, _⟩
  have hq2 := (ht.block Q (by omega) (fun hh => by have := (hw1.ltF hh).1; omega)).trans hq1
  have hb2 : Below w.heap.size w V2 := ht.below hb1 hb1.size (fun q hq => by have := (hw1.ltF hq).1; omega)
  have hs2 : Wb ≤ V2.heap.size := Nat.le_trans hs1 ht.size
  have hA2 := hA1.turn ht (fun h0 a ha hh => by have := (hw1.ltF hh).1; have := hAQ (by simpa using h0) a ha; omega)
  clear HC ht hw1 hq1 hb1 hs1 hA1 hk
  obtain ⟨zs3, hz3⟩ : ∃ zs, zs = zs2 ++ le4 off := ⟨_, rfl⟩
  have cc := cell_heap hq2 (rq_c33 _ _ _ _ _)
  have HC := du32_any off Wb Wb zs2 _ V2 hw2 hs2 (by rw [HL2.out]; omega)
  rw [← hz3] at HC
  have HL3 : Hid (zs3.length = 37) := Lib.hid (by rw [hz3]; simp [le4, HL2.out])
  have HZ3 := Lib.hid hz3
  clear hz3
  go_wp2_with fail
  refine HC.mono ?_
  rintro e V3 ⟨rfl, v3, hw3, ht, _⟩
  have hq3 := (ht.block Q (by omega) (fun hh => by have := (hw2.ltF hh).1; omega)).trans hq2
  have hb3 : Below w.heap.size w V3 := ht.below hb2 hb2.size (fun q hq => by have := (hw2.ltF hq).1; omega)
  have hs3 : Wb ≤ V3.heap.size := Nat.le_trans hs2 ht.size
  have hA3 := hA2.turn ht (fun h0 a ha hh => by have := (hw2.ltF hh).1; have := hAQ (by simpa using h0) a ha; omega)
  clear HC ht hw2 hq2 hb2 hs2 hA2 cc
  obtain ⟨zs4, hz4⟩ : ∃ zs, zs = zs3 ++ le4 n := ⟨_, rfl⟩
  have cc := cell_heap hq3 (rq_c34 _ _ _ _ _)
  have HC := du32_any n Wb Wb zs3 _ V3 hw3 hs3 (by rw [HL3.out]; omega)
  rw [← hz4] at HC
  have HL4 : Hid (zs4.length = 41) := Lib.hid (by rw [hz4]; simp [le4, HL3.out])
  have HZ4 := Lib.hid hz4
  clear hz4
  go_wp2_with fail
  refine HC.mono ?_
  rintro e V4 ⟨rfl, v4, hw4, ht, _⟩
  have hq4 := (ht.block Q (by omega) (fun hh => by have := (hw3.ltF hh).1; omega)).trans hq3
  have hb4 : Below w.heap.size w V4 := ht.below hb3 hb3.size (fun q hq => by have := (hw3.ltF hq).1; omega)
  have hs4 : Wb ≤ V4.heap.size := Nat.le_trans hs3 ht.size
  have hA4 := hA3.turn ht (fun h0 a ha hh => by have := (hw3.ltF hh).1; have := hAQ (by simpa using h0) a ha; omega)
  clear HC ht hw3 hq3 hb3 hs3 hA3 cc
  obtain ⟨zs5, hz5⟩ : ∃ zs, zs = zs4 ++ lstI ys := ⟨_, rfl⟩
  have cc := cell_heap hq4 (rq_c35 _ _ _ _ _)
  have HC := dlist_any A ys c Wb Wb zs4 _ V4 hw4 hs4 (by rw [HL4.out]; omega) hA4 (by omega) (fun h0 a ha hh => by have := (hw4.ltF hh).1; have := hAQ h0 a ha; omega)
  rw [← hz5] at HC
  have HZ5 := Lib.hid hz5
  clear hz5
  go_wp2_with fail
  refine HC.mono ?_
  rintro e V5 ⟨rfl, v5, hw5, ht, _⟩
  have hq5 := (ht.block Q (by omega) (fun hh => by have := (hw4.ltF hh).1; omega)).trans hq4
  have hb5 : Below w.heap.size w V5 := ht.below hb4 hb4.size (fun q hq => by have := (hw4.ltF hq).1; omega)
  have hs5 : Wb ≤ V5.heap.size := Nat.le_trans hs4 ht.size
  clear HC ht hw4 hq4 hb4 hs4 hA4 cc
  have hfull : zs5 = rqB op f off n ys := by rw [HZ5.out, HZ4.out, HZ3.out, HZ2.out, HZ1.out]; rfl
  have hfl : zs5.length = 45 + ys.length := by rw [hfull]; exact rqB_len _ _ _ _ _
  have cw := hw5.c
  have HG := Lib.hid (And.intro (ownsRow_lower hw5.own hwW) hb5)
  have HF := Lib.hid (And.intro hfull hfl)
  clear hfull hfl hw5 hb5 hq5
  go_wp2_with fail
  go_ret
  have h := HG.out
  rw [HF.out.2, HF.out.1] at h
  exact ⟨_, rfl, h⟩
set_option maxRecDepth 100000 in
set_option maxHeartbeats 1600000 in
theorem dresp_any (code n : Int) (A : Option Addr) (ys : List Int) (c : Nat) (w : World) (hA : SlRead w A (ints .u8 ys)) (hl : ys.length ≤ 100000) :
    Calls Tryz.prog 29 #[.agg (rsA code n (.slice A ys.length c))] w fun e w' => ∃ v, e = .returned v ∧ w'.ownsRow w.heap.size 5 1 v (9 + ys.length) (ints .u8 (rsB code n ys)) ∧ Below w.heap.size w w' := by
  have hAl := sl_lt hA
  go_enter Tryz.func29, Tryz.ntmps29
  go_upto_region 2 with (fail)
  obtain ⟨Q, hQ⟩ : ∃ H, H = w.heap.size := ⟨_, rfl⟩
  obtain ⟨Wb, hWb⟩ : ∃ H, H = w.heap.size + 1 := ⟨_, rfl⟩
  refine wp_world (fun V => Below w.heap.size w V ∧ V.heap[Q]? = some (.cells (rsA code n (.slice A ys.length c)) 44 (0, 0)) ∧ WrS V Wb Wb [] (.slice none 0 0) ∧ V.heap.size = Q + 2) ?_ ?_
  · rw [hQ, hWb]
    exact ⟨(below_alc w _).trans ((below_alc _ _).mono (by simp)), heap2_0 _ _ _, wr_new rfl, by simp⟩
  rintro V0 ⟨hb0, hq0, hw0, hs0⟩
  rw [← hWb, ← hQ]
  have hQW : Q < Wb := by omega
  have hwQ : w.heap.size ≤ Q := by omega
  have hs0 : Wb ≤ V0.heap.size := by omega
  have hAQ : 0 < ys.length → ∀ a, A = some a → a.block < Q := fun h0 a ha => by have := hAl h0 a ha; omega
  have hwW : w.heap.size ≤ Wb := by omega
  have hA0 := hA.below hb0
  clear hWb hQ hA hAl
  obtain ⟨zs1, hz1⟩ : ∃ zs, zs = [] ++ [code % 256] := ⟨_, rfl⟩
  have cc := cell_heap hq0 (rs_c0 _ _ _)
  have HC := du8_any code Wb Wb [] _ V0 hw0 hs0 (by simp)
  rw [← hz1] at HC
  have HL1 : Hid (zs1.length = 1) := Lib.hid (by rw [hz1]; simp)
  have HZ1 := Lib.hid hz1
  clear hz1
  go_wp2_with fail
  refine HC.mono ?_
  rintro e V1 ⟨rfl, v1, hw1, ht, _⟩
  have hq1 := (ht.block Q (by omega) (fun hh => by have := (hw0.ltF hh).1; omega)).trans hq0
  have hb1 : Below w.heap.size w V1 := ht.below hb0 hb0.size (fun q hq => by have := (hw0.ltF hq).1; omega)
  have hs1 : Wb ≤ V1.heap.size := Nat.le_trans hs0 ht.size
  have hA1 := hA0.turn ht (fun h0 a ha hh => by have := (hw0.ltF hh).1; have := hAQ (by simpa using h0) a ha; omega)
  clear HC ht hw0 hq0 hb0 hs0 hA0 cc
  obtain ⟨zs2, hz2⟩ : ∃ zs, zs = zs1 ++ le4 n := ⟨_, rfl⟩
  have cc := cell_heap hq1 (rs_c1 _ _ _)
  have HC := du32_any n Wb Wb zs1 _ V1 hw1 hs1 (by rw [HL1.out]; omega)
  rw [← hz2] at HC
  have HL2 : Hid (zs2.length = 5) := Lib.hid (by rw [hz2]; simp [le4, HL1.out])
  have HZ2 := Lib.hid hz2
  clear hz2
  go_wp2_with fail
  refine HC.mono ?_
  rintro e V2 ⟨rfl, v2, hw2, ht, _⟩
  have hq2 := (ht.block Q (by omega) (fun hh => by have := (hw1.ltF hh).1; omega)).trans hq1
  have hb2 : Below w.heap.size w V2 := ht.below hb1 hb1.size (fun q hq => by have := (hw1.ltF hq).1; omega)
  have hs2 : Wb ≤ V2.heap.size := Nat.le_trans hs1 ht.size
  have hA2 := hA1.turn ht (fun h0 a ha hh => by have := (hw1.ltF hh).1; have := hAQ (by simpa using h0) a ha; omega)
  clear HC ht hw1 hq1 hb1 hs1 hA1 cc
  obtain ⟨zs3, hz3⟩ : ∃ zs, zs = zs2 ++ lstI ys := ⟨_, rfl⟩
  have cc := cell_heap hq2 (rs_c2 _ _ _)
  have HC := dlist_any A ys c Wb Wb zs2 _ V2 hw2 hs2 (by rw [HL2.out]; omega) hA2 (by omega) (fun h0 a ha hh => by have := (hw2.ltF hh).1; have := hAQ h0 a ha; omega)
  rw [← hz3] at HC
  have HZ3 := Lib.hid hz3
  clear hz3
  go_wp2_with fail
  refine HC.mono ?_
  rintro e V3 ⟨rfl, v3, hw3, ht, _⟩
  have hq3 := (ht.block Q (by omega) (fun hh => by have := (hw2.ltF hh).1; omega)).trans hq2
  have hb3 : Below w.heap.size w V3 := ht.below hb2 hb2.size (fun q hq => by have := (hw2.ltF hq).1; omega)
  have hs3 : Wb ≤ V3.heap.size := Nat.le_trans hs2 ht.size
  clear HC ht hw2 hq2 hb2 hs2 hA2 cc
  have hfull : zs3 = rsB code n ys := by rw [HZ3.out, HZ2.out, HZ1.out]; rfl
  have hfl : zs3.length = 9 + ys.length := by rw [hfull]; exact rsB_len _ _ _
  have cw := hw3.c
  have HG := Lib.hid (And.intro (ownsRow_lower hw3.own hwW) hb3)
  have HF := Lib.hid (And.intro hfull hfl)
  clear hfull hfl hw3 hb3 hq3
  go_wp2_with fail
  go_ret
  have h := HG.out
  rw [HF.out.2, HF.out.1] at h
  exact ⟨_, rfl, h⟩
section
variable {E : Nat → Addr} {w : World} {R : Nat} {A : Option Addr} {xs : List Int} {p c : Nat}
theorem rkind_no (h : RdS w R A xs p c) (hE : ErrsAt E w) (hl : xs.length ≤ 100000) (hp : xs.length ≤ p) (a b : Int) : Calls Tryz.prog 23 #[.pointer (some ⟨R, 0, none⟩), .int .i64 a, .int .i64 b] w (FellAt E w 2 p) := by
  have H8 := ru8_no h hE hl hp
  have HA := rat_any h
  go_enter Tryz.func23, Tryz.ntmps23
  go_wp2_with fail
  refine HA.mono ?_
  rintro e W ⟨rfl, rfl⟩
  go_wp2_with fail
  refine H8.mono ?_
  intro e W1 hf
  have hg := hf
  obtain ⟨bt, rfl, _⟩ := hf
  have hg := Lib.hid hg
  go_wp2_with fail
  exact ⟨rfl, hg.out⟩
theorem rkind_bad (h : RdS w R A xs p c) (hE2 : ∀ V, Turn (· = R) w V → ErrsAt E V) (hx : Byts xs) (hl : xs.length ≤ 100000) (hp : p < xs.length) (a b : Int) (hv : byteI xs p < a ∨ b < byteI xs p) :
    Calls Tryz.prog 23 #[.pointer (some ⟨R, 0, none⟩), .int .i64 a, .int .i64 b] w fun e w' => ∃ V, Turn (· = R) w V ∧ FellAt E V 4 p e w' := by
  have H8 := ru8_ok h hx hl hp
  have HA := rat_any h
  go_enter Tryz.func23, Tryz.ntmps23
  go_wp2_with fail
  refine HA.mono ?_
  rintro e W ⟨rfl, rfl⟩
  go_wp2_with fail
  refine H8.mono ?_
  rintro e W1 ⟨rfl, hR1, hT⟩
  have hk : W1.cell? ⟨1, 0, none⟩ = some (errV (E 4)) := (hE2 W1 hT).c 4 (by decide)
  generalize byteI xs p = x at *
  have HT := Lib.hid hT
  clear H8 HA hR1 hT h hE2
  rcases hv with hv | hv
  · go_wp2_with fail
    refine (fail_any (p : Int) (E 4) _).mono ?_
    rintro e V ⟨rfl, rfl⟩
    have HG := Lib.hid (FellAt.of (E := E) 4 (p : Int) (Below.refl _ W1))
    go_wp2_with fail
    exact ⟨rfl, W1, HT.out, HG.out⟩
  · by_cases h2 : x < a
    · go_wp2_with fail
      refine (fail_any (p : Int) (E 4) _).mono ?_
      rintro e V ⟨rfl, rfl⟩
      have HG := Lib.hid (FellAt.of (E := E) 4 (p : Int) (Below.refl _ W1))
      go_wp2_with fail
      exact ⟨rfl, W1, HT.out, HG.out⟩
    · go_wp2_with fail
      refine (fail_any (p : Int) (E 4) _).mono ?_
      rintro e V ⟨rfl, rfl⟩
      have HG := Lib.hid (FellAt.of (E := E) 4 (p : Int) (Below.refl _ W1))
      go_wp2_with fail
      exact ⟨rfl, W1, HT.out, HG.out⟩
theorem rkind_ok (h : RdS w R A xs p c) (hx : Byts xs) (hl : xs.length ≤ 100000) (hp : p < xs.length) (a b : Int) (hv : a ≤ byteI xs p ∧ byteI xs p ≤ b) :
    Calls Tryz.prog 23 #[.pointer (some ⟨R, 0, none⟩), .int .i64 a, .int .i64 b] w fun e w' => e = .returned (.int .i64 (byteI xs p)) ∧ RdS w' R A xs (p + 1) c ∧ Turn (· = R) w w' := by
  have H8 := ru8_ok h hx hl hp
  have HA := rat_any h
  go_enter Tryz.func23, Tryz.ntmps23
  go_wp2_with fail
  refine HA.mono ?_
  rintro e W ⟨rfl, rfl⟩
  go_wp2_with fail
  refine H8.mono ?_
  rintro e W1 ⟨rfl, hR1, hT⟩
  have HF := Lib.hid (And.intro hR1 hT)
  have h1 : ¬ byteI xs p < a := by omega
  have h2 : ¬ b < byteI xs p := by omega
  clear H8 HA hR1 hT h hv
  go_wp2_with fail
  go_ret
  exact ⟨rfl, HF.out⟩
end
/-- as Turn says it of what was made newly within -/
theorem ErrsAt.turn {E : Nat → Addr} {F : Nat → Prop} {w W : World} (h : ErrsAt E w) (ht : Turn F w W) (hF : ∀ q, F q → w.heap.size ≤ q) : ErrsAt E W := h.below (ht.below (Below.refl _ _) (Nat.le_refl _) hF)
theorem rs_set0 (code code' n : Int) (D : Value) : (rsA code n D).setIfInBounds 0 (.int .i64 code') = rsA code' n D := rfl
theorem rs_set1 (code n n' : Int) (D : Value) : (rsA code n D).setIfInBounds 1 (.int .u32 n') = rsA code n' D := rfl
theorem rs_set2 (code n : Int) (D D' : Value) : (rsA code n D).setIfInBounds 2 D' = rsA code n D' := rfl
/-- what Read knows behind it -/
def PQ (LO H : Nat) (xs : List Int) (o : Option (Nat × Int)) (V : World) : Prop := o = reqO xs ∧ (o = none → ∃ v, V.heap[H]? = some (.cells (rqA (byteI xs 0) (bF xs 1) (wordI xs 33) (wordI xs 37) v) 40 (0, 0)) ∧ V.ownsRow LO 5 1 v (xs.length - 45) (ints .u8 (xs.drop 45)) ∧ v.ownBlock ≠ some H)
/-- what Read knows behind it -/
def PS (LO H : Nat) (xs : List Int) (o : Option (Nat × Int)) (V : World) : Prop := o = rspO xs ∧ (o = none → ∃ v, V.heap[H]? = some (.cells (rsA (byteI xs 0) (wordI xs 1) v) 44 (0, 0)) ∧ V.ownsRow LO 5 1 v (xs.length - 9) (ints .u8 (xs.drop 9)) ∧ v.ownBlock ≠ some H)
set_option maxRecDepth 100000 in
set_option maxHeartbeats 3200000 in
theorem fresp1_any {E : Nat → Addr} {w : World} {LO R H c : Nat} {A : Option Addr} {xs : List Int} (hR : RdS w R A xs 0 c) (hLO : LO ≤ w.heap.size) (hq0 : w.heap[H]? = some (.cells (rsA 0 0 (.slice none 0 0)) 44 (0, 0))) (hE2 : ∀ V, Turn (fun q => q = H ∨ q = R) w V → ErrsAt E V) (hx : Byts xs) (hl : xs.length ≤ 1000) (hHR : ¬ H = R) (hA : ∀ a, A = some a → ¬ a.block = H) :
    Calls Tryz.prog 22 #[.pointer (some ⟨R, 0, none⟩), .pointer (some ⟨H, 0, none⟩)] w fun e w2 => ∃ o, Turn (fun q => q = H ∨ q = R) w w2 ∧ EndsAs E R A xs c w.heap.size o e w2 ∧ PS LO H xs o w2 := by
  have hE := hE2 w (Turn.of_below (Below.refl _ _))
  have hlt := lt_heap hq0
  have hT0 : Turn (fun q => q = H ∨ q = R) w w := Turn.of_below (Below.refl _ _)
  have hR0 := hR
  clear hR
  go_enter Tryz.func22, Tryz.ntmps22
  go_wp2_with fail
  refine (errlist_any E _ hE).mono ?_
  rintro e V0 ⟨rfl, hV0⟩
  have hb0 : Below w.heap.size w V0 := by rw [hV0]; exact below_alc _ _
  have hRv := hR0.below hb0
  have hEv := hE.below hb0
  have hqv := (hb0.block H hlt).trans hq0
  have hE3 : ∀ V, Turn (· = R) V0 V → ErrsAt E V := fun V h => hE2 V ((Turn.of_below hb0).trans h (fun q hq => .inl (.inr hq)))
  have HV0 := Lib.hid hV0
  clear hV0
  by_cases h1 : xs.length < 1
  · have HF := rkind_no hRv hEv (by omega) (by omega) 0 19
    go_wp2_with fail
    refine HF.mono ?_
    intro e W1 hf
    have hfin : ∃ o, Turn (fun q => q = H ∨ q = R) w W1 ∧ EndsAs E R A xs c w.heap.size o e W1 ∧ PS LO H xs o W1 := ⟨_, Turn.of_below (hb0.trans (hf.below.mono hb0.size)), EndsAs.fell hf (by decide) hb0.size, by unfold rspO; rw [if_pos h1]; rfl, fun h => nomatch h⟩
    obtain ⟨bt, rfl, _⟩ := hf
    have hfin := Lib.hid hfin
    go_wp2_with fail
    exact ⟨rfl, hfin.out⟩
  by_cases hk : byteI xs 0 < 0 ∨ 19 < byteI xs 0
  · have HF := rkind_bad hRv hE3 hx (by omega) (by omega) 0 19 hk
    go_wp2_with fail
    refine HF.mono ?_
    rintro e W1 ⟨V, hTV, hf⟩
    have hbv := hf.below
    have hfin : ∃ o, Turn (fun q => q = H ∨ q = R) w W1 ∧ EndsAs E R A xs c w.heap.size o e W1 ∧ PS LO H xs o W1 := ⟨_, (Turn.of_below hb0).trans ((hTV.sub (fun _ hq => .inr hq)).and (Turn.of_below hbv)) (fun _ hq => .inl hq), EndsAs.fell hf (by decide) (Nat.le_trans hb0.size hTV.size), by unfold rspO; rw [if_neg h1, if_pos hk]; rfl, fun h => nomatch h⟩
    obtain ⟨bt, rfl, _⟩ := hf
    have hfin := Lib.hid hfin
    go_wp2_with fail
    exact ⟨rfl, hfin.out⟩
  have HK := rkind_ok hRv hx (by omega) (by omega) 0 19 (by omega)
  go_wp2_with fail
  refine HK.mono ?_
  rintro e W1 ⟨rfl, hR1, hT1⟩
  have hq1 := (hT1.block H (lt_heap hqv) hHR).trans hqv
  obtain ⟨op, hop⟩ : ∃ op, op = byteI xs 0 := ⟨_, rfl⟩
  rw [← hop]
  have HOP := Lib.hid hop
  have HKN := Lib.hid hk
  clear hop hk HK
  have cc := cell_heap hq1 (rs_c0 _ _ _)
  have ff := thaw_heap hq1 0
  go_upto_region 1 with (fail)
  refine wp_world (fun V => V.heap[H]? = some (.cells (rsA op 0 (.slice none 0 0)) 44 (0, 0)) ∧ RdS V R A xs 1 c ∧ Turn (fun q => q = H ∨ q = R) w V) ⟨?_, hR1.turn (set_turnH _ H 0 _) (Ne.symm hHR) hA, ?_⟩ ?_
  · have := heap_setCell_same _ H 0 _ _ (.int .i64 op) hq1
    rw [rs_set0] at this
    exact this
  · exact ((Turn.of_below hb0).and (hT1.sub (fun _ hq => .inr hq))).and ((set_turnH _ H 0 _).sub (fun _ hq => .inl hq))
  clear cc ff hq1 hR1 hT1 hqv hRv hEv hE3 hb0 HV0
  rintro V2 ⟨hq4, hR4, hT4⟩
  by_cases h5 : xs.length < 5
  · have HF := ru32_no hR4 (hE2 V2 hT4) (by omega) (by omega)
    go_wp2_with fail
    refine HF.mono ?_
    intro e W1 hf
    have hfin : ∃ o, Turn (fun q => q = H ∨ q = R) w W1 ∧ EndsAs E R A xs c w.heap.size o e W1 ∧ PS LO H xs o W1 := ⟨_, hT4.and (Turn.of_below hf.below), EndsAs.fell hf (by decide) hT4.size, by unfold rspO; rw [if_neg h1, if_neg HKN.out, if_pos h5]; rfl, fun h => nomatch h⟩
    obtain ⟨bt, rfl, _⟩ := hf
    have hfin := Lib.hid hfin
    go_wp2_with fail
    exact ⟨rfl, hfin.out⟩
  have HU := ru32_ok hR4 hx (by omega) (by omega)
  go_wp2_with fail
  refine HU.mono ?_
  rintro e W2 ⟨rfl, hR5, hT5⟩
  have hq5 := (hT5.block H (lt_heap hq4) hHR).trans hq4
  obtain ⟨n, hnm⟩ : ∃ x, x = wordI xs 1 := ⟨_, rfl⟩
  rw [← hnm]
  have Hn := Lib.hid hnm
  clear hnm HU
  have cc := cell_heap hq5 (rs_c1 _ _ _)
  have ff := thaw_heap hq5 1
  go_upto_region 2 with (fail)
  refine wp_world (fun V => V.heap[H]? = some (.cells (rsA op n (.slice none 0 0)) 44 (0, 0)) ∧ RdS V R A xs 5 c ∧ Turn (fun q => q = H ∨ q = R) w V) ⟨?_, hR5.turn (set_turnH _ H 1 _) (Ne.symm hHR) hA, (hT4.and (hT5.sub (fun _ hq => .inr hq))).and ((set_turnH _ H 1 _).sub (fun _ hq => .inl hq))⟩ ?_
  · have := heap_setCell_same _ H 1 _ _ (.int .u32 n) hq5
    rw [rs_set1] at this
    exact this
  clear cc ff hq5 hR5 hT5 hq4 hR4 hT4
  rintro V3 ⟨hq6, hR6, hT6⟩
  by_cases l1 : xs.length < 5 + 4
  · have HF := rlist_no4 hR6 (hE2 V3 hT6) (by omega) 200 (by omega)
    go_wp2_with fail
    refine HF.mono ?_
    intro e W1 hf
    have hfin : ∃ o, Turn (fun q => q = H ∨ q = R) w W1 ∧ EndsAs E R A xs c w.heap.size o e W1 ∧ PS LO H xs o W1 := ⟨_, hT6.and (Turn.of_below hf.below), EndsAs.fell hf (by decide) hT6.size, by unfold rspO lstO; rw [if_neg h1, if_neg HKN.out, if_neg h5, if_pos l1], fun h => nomatch h⟩
    obtain ⟨bt, rfl, _⟩ := hf
    have hfin := Lib.hid hfin
    go_wp2_with fail
    exact ⟨rfl, hfin.out⟩
  by_cases l2 : 200 < wordI xs 5
  · have HF := rlist_big hR6 (hE2 V3 hT6) hx (by omega) (by omega) 200 l2
    go_wp2_with fail
    refine HF.mono ?_
    intro e W1 hf
    have hfin : ∃ o, Turn (fun q => q = H ∨ q = R) w W1 ∧ EndsAs E R A xs c w.heap.size o e W1 ∧ PS LO H xs o W1 := ⟨_, hT6.and (Turn.of_below hf.below), EndsAs.fell hf (by decide) hT6.size, by unfold rspO lstO; rw [if_neg h1, if_neg HKN.out, if_neg h5, if_neg l1, if_pos l2], fun h => nomatch h⟩
    obtain ⟨bt, rfl, _⟩ := hf
    have hfin := Lib.hid hfin
    go_wp2_with fail
    exact ⟨rfl, hfin.out⟩
  replace l2 := Int.not_lt.1 l2
  by_cases l3 : (xs.length : Int) - (5 : Nat) - 4 < wordI xs 5
  · have HF := rlist_long hR6 (hE2 V3 hT6) hx (by omega) (by omega) 200 ⟨by omega, l3⟩
    go_wp2_with fail
    refine HF.mono ?_
    intro e W1 hf
    have hfin : ∃ o, Turn (fun q => q = H ∨ q = R) w W1 ∧ EndsAs E R A xs c w.heap.size o e W1 ∧ PS LO H xs o W1 := ⟨_, hT6.and (Turn.of_below hf.below), EndsAs.fell hf (by decide) hT6.size, by unfold rspO lstO; rw [if_neg h1, if_neg HKN.out, if_neg h5, if_neg l1, if_neg (Int.not_lt.2 l2), if_pos l3], fun h => nomatch h⟩
    obtain ⟨bt, rfl, _⟩ := hf
    have hfin := Lib.hid hfin
    go_wp2_with fail
    exact ⟨rfl, hfin.out⟩
  replace l3 := Int.not_lt.1 l3
  obtain ⟨m, hm⟩ : ∃ m : Nat, wordI xs 5 = m := ⟨(wordI xs 5).toNat, by have := hx.word 5; omega⟩
  have HL := rlist_ok hR6 hx (by omega) m (by omega) 200 hm (by omega)
  have hlo := hT6.size
  go_wp2_with fail
  refine HL.mono ?_
  rintro e W2 ⟨v1, rfl, hown, hR7, hT7⟩
  have hq7 := (hT7.block H (lt_heap hq6) hHR).trans hq6
  obtain ⟨A2, c2, rfl, _, _, hA2⟩ := own_slice hown
  have hob : (Value.slice A2 m c2).ownBlock ≠ some H := fun hh => by
    rcases A2 with _ | a
    · simp [Value.ownBlock] at hh
    · simp [Value.ownBlock] at hh
      have := (hA2 a rfl).1
      omega
  have cc := cell_heap hq7 (rs_c2 _ _ _)
  have ff := thaw_heap hq7 2
  have hset := heap_setCell_same _ H 2 _ _ (.slice A2 m c2) hq7
  rw [rs_set2] at hset
  have hstT := set_turnH W2 H 2 (.slice A2 m c2)
  have hfin : ∃ o, Turn (fun q => q = H ∨ q = R) w (W2.setCell ⟨H, 2, none⟩ (.slice A2 m c2)) ∧ EndsAs E R A xs c w.heap.size o (.returned (.tuple #[])) (W2.setCell ⟨H, 2, none⟩ (.slice A2 m c2)) ∧ PS LO H xs o (W2.setCell ⟨H, 2, none⟩ (.slice A2 m c2)) := by
    refine ⟨_, (hT6.and (hT7.sub (fun _ hq => .inr hq))).and (hstT.sub (fun _ hq => .inl hq)), .inl ⟨rfl, 5 + 4 + m, hR7.turn hstT (Ne.symm hHR) hA, rfl⟩, ?_, fun hn => ?_⟩
    · unfold rspO lstO
      rw [if_neg h1, if_neg HKN.out, if_neg h5, if_neg l1, if_neg (Int.not_lt.2 l2), if_neg (Int.not_lt.2 l3), hm]
      by_cases h4 : 5 + 4 + m < xs.length
      · rw [if_pos h4, if_pos (by omega)]
        congr 2
      · rw [if_neg h4, if_neg (by omega)]
    · have h4 : ¬ 5 + 4 + m < xs.length := fun h => by rw [if_pos h] at hn; cases hn
      have h5 : xs.length - 9 = m := by omega
      rw [← HOP.out, ← Hn.out, h5]
      refine ⟨_, hset, ?_, hob⟩
      have h6 : (xs.drop (5 + 4)).take m = xs.drop 9 := List.take_of_length_le (by simp; omega)
      rw [h6] at hown
      exact ownsRow_lower (own_kept hown fun k hk => (heap_setCell_other W2 ⟨H, 2, none⟩ k _ (fun e => hob (by rw [hk, e])))) (Nat.le_trans hLO hlo)
  have hfin := Lib.hid hfin
  clear hset hstT hob hq7 hR7 hT7 hq6 hR6 hT6 HL hown hA2
  go_wp2_with fail
  go_end0
  exact hfin.out
theorem own_lowlt {w : World} {base n size : Nat} {t : TypeId} {v : Value} {xs : List Value} (h : w.ownsRow base t size v n xs) {k : Nat} (hk : v.ownBlock = some k) : base ≤ k ∧ k < w.heap.size := by
  obtain ⟨A, c, rfl, _, _, h1⟩ := own_slice h
  rcases A with _ | a
  · simp [Value.ownBlock] at hk
  · simp [Value.ownBlock] at hk
    subst hk
    exact h1 a rfl
/-- what bytes are read as, in memory -/
def RqP (xs : List Int) (LO : Nat) (r : Array Value) (W : World) : Prop := (reqO xs = none ∧ ∃ D, r = rqA (byteI xs 0) (bF xs 1) (wordI xs 33) (wordI xs 37) D ∧ W.ownsRow LO 5 1 D (xs.length - 45) (ints .u8 (xs.drop 45))) ∨ (reqO xs ≠ none ∧ r = rqA 0 zf 0 0 (.slice none 0 0))
/-- what bytes are read as, in memory -/
def RsP (xs : List Int) (LO : Nat) (r : Array Value) (W : World) : Prop := (rspO xs = none ∧ ∃ D, r = rsA (byteI xs 0) (wordI xs 1) D ∧ W.ownsRow LO 5 1 D (xs.length - 9) (ints .u8 (xs.drop 9))) ∨ (rspO xs ≠ none ∧ r = rsA 0 0 (.slice none 0 0))
set_option maxRecDepth 100000 in
set_option maxHeartbeats 3200000 in
theorem fresp_read (E : Nat → Addr) (A : Option Addr) (xs : List Int) (ca : Nat) (w : World) (hA : SlRead w A (ints .u8 xs)) (hx : Byts xs) (hl : xs.length ≤ 1000) (hE : ErrsAt E w) :
    Calls Tryz.prog 12 #[.slice A xs.length ca] w fun e w' => ∃ r u, e = .returned (.tuple #[.agg r, u]) ∧ RsP xs w.heap.size r w' ∧ TellR E (rspO xs) u w' ∧ Below w.heap.size w w' := by
  have hmf : ∀ (fn : Fn) (first cap : Array Value) (w : World), (Instr.makeFunc fn first cap).run Tryz.prog w = .ok (.func fn first cap) w := fun _ _ _ _ => rfl
  go_enter Tryz.func12, Tryz.ntmps12
  go_upto_region 2 with (fail)
  obtain ⟨Z, hZ⟩ : ∃ Z, Z = w.heap.size := ⟨_, rfl⟩
  obtain ⟨H, hH⟩ : ∃ H, H = w.heap.size + 1 := ⟨_, rfl⟩
  refine wp_world (fun V => Below w.heap.size w V ∧ V.heap[Z]? = some (.cells (rsA 0 0 (.slice none 0 0)) 44 (0, 0)) ∧ V.heap[H]? = some (.cells (rsA 0 0 (.slice none 0 0)) 44 (0, 0)) ∧ V.heap.size = w.heap.size + 2) ?_ ?_
  · exact ⟨(below_alc w _).alloc (by simp) _, by rw [hZ]; exact (heap2_0 w _ _).trans rfl, by rw [hH]; exact (heap2_1 w _ _).trans rfl, by simp⟩
  rintro V ⟨hbV, hZV, hHV, hVs⟩
  rw [← hH, ← hZ]
  have hnum : w.heap.size ≤ Z ∧ Z < H ∧ H < V.heap.size := by omega
  clear hZ hH hVs
  have hEV := hE.below hbV
  have hTr : ¬ 0 = H := by have : 0 < w.heap.size := cell_lt (hE.c 3 (by decide)); omega
  go_wp2_with fail
  refine (cread2_any E 22 #[.pointer (some ⟨H, 0, none⟩)] A xs ca V (fun q => q = H) (fun lo o V => PS lo H xs o V) (fun _ _ => by kernel_rfl) (hA.below hbV) (by omega) (fun _ => hEV.c 3 (by decide)) hTr (fun q hq => by omega) ?_ ?_).mono ?_
  · rintro lo o W W' ⟨h1, h2⟩ ht
    refine ⟨h1, fun hn => ?_⟩
    obtain ⟨v, hv, hown, hne⟩ := h2 hn
    refine ⟨v, (ht.block H (lt_heap hv) (fun h => by omega)).trans hv, ?_, hne⟩
    exact own_kept hown (fun k hk => by
      have hlo := own_lowlt hown hk
      exact ht.block k hlo.2 (fun h => by omega))
  · intro w1 R A1 c1 hb1 hR hRV hA1
    have hbw := hbV.trans (hb1.mono hbV.size)
    exact fresp1_any hR (Nat.le_refl _) ((hb1.block H (by omega)).trans hHV) (fun U hU => hE.below (hU.below hbw hbw.size (fun q hq => by omega))) hx hl (by omega) (fun a ha => by have := hA1 a ha; omega)
  rintro e W ⟨lo, o, v, rfl, hlo, htell, hp, ht⟩
  have hbW : Below w.heap.size w W := ht.below hbV hbV.size (fun q hq => by omega)
  have hZW := (ht.block Z (by omega) (by omega)).trans hZV
  obtain ⟨rfl, hp2⟩ := hp
  clear hbV hZV hHV hEV ht hTr
  by_cases h40 : rspO xs = none
  · obtain ⟨D, hHW, hown, _⟩ := hp2 h40
    rw [h40] at htell
    obtain rfl : v = .nilIface := htell
    obtain ⟨AD, cD, rfl, _⟩ := ownsRow_form hown
    have hownZ := own_kept (w' := W.setRow Z (rsA (byteI xs 0) (wordI xs 1) (.slice AD (xs.length - 9) cD))) hown (fun k hk => setRow_other _ Z k _ (fun e => by have := own_lowlt hown hk; omega))
    have HF := Lib.hid (And.intro h40 (And.intro (ownsRow_lower hownZ (show w.heap.size ≤ lo by omega)) (setRow_below hbW Z hnum.1 (rsA (byteI xs 0) (wordI xs 1) (.slice AD (xs.length - 9) cD)))))
    clear hp2 h40 hown hownZ hbW
    go_wp2_with (first | (refine wpList_load_row rfl 44 _ rfl H rfl _ _ _ _ hHW Tryz.underlying44 rfl (rs_info _ _ _) ?_) | (refine wpList_store_row rfl 44 _ _ rfl Z (rsA (byteI xs 0) (wordI xs 1) (.slice AD (xs.length - 9) cD)) rfl rfl _ _ hZW (rs_info _ _ _) rfl (rs_one _ _ _ _ _) ?_))
    refine bodyPost_ret (results_row_tmp rfl _ _ Z _ _ _ _ rfl (setRow_heap _ _ _ _ _ _ hZW) _ rfl Tryz.underlying44 rfl (rs_info _ _ _)) rfl ?_
    refine ⟨_, _, rfl, .inl ⟨HF.out.1, _, rfl, HF.out.2.1⟩, ?_, HF.out.2.2⟩
    rw [HF.out.1]
    rfl
  · obtain ⟨⟨j, z⟩, ho⟩ := Option.ne_none_iff_exists'.1 h40
    have ho2 := ho
    rw [ho] at htell
    obtain ⟨hj, bt, rfl, hat⟩ := htell
    have hne : ¬ bt = Z := fun e => by
      have h1 := hat.p
      have h2 : W.cell? ⟨Z, 0, none⟩ = some (.int .i64 0) := cell_heap hZW (rs_c0 _ _ _)
      have h3 := hat.e
      rw [e] at h1 h3
      have h4 : W.cell? ⟨Z, 1, none⟩ = some (.int .u32 0) := cell_heap hZW (rs_c1 _ _ _)
      rw [h3] at h4
      cases h4
    have hat2 : AtAt bt z (errV (E j)) (W.setRow Z (rsA 0 0 (.slice none 0 0))) := ⟨(World.cell?_of_block (setRow_other W Z bt _ hne)).trans hat.p, (World.cell?_of_block (setRow_other W Z bt _ hne)).trans hat.e⟩
    have HF := Lib.hid (And.intro h40 (And.intro ho2 (And.intro hj (And.intro hat2 (setRow_below hbW Z hnum.1 (rsA 0 0 (.slice none 0 0)))))))
    clear h40 ho ho2 hat hat2 hne hp2
    go_wp2_with (first | (refine wpList_build rfl 44 _ rfl #[] (by kernel_rfl) (.agg (rsA 0 0 (.slice none 0 0))) (fun w => by kernel_rfl) ?_) | (refine wpList_store_row rfl 44 _ _ rfl Z (rsA 0 0 (.slice none 0 0)) rfl rfl _ _ hZW (rs_info _ _ _) rfl (rs_one _ _ _ _ _) ?_))
    refine bodyPost_ret (results_row_tmp rfl _ _ Z _ _ _ _ rfl (setRow_heap _ _ _ _ _ _ hZW) _ rfl Tryz.underlying44 rfl (rs_info _ _ _)) rfl ?_
    refine ⟨_, _, rfl, .inr ⟨HF.out.1, rfl⟩, ?_, HF.out.2.2.2.2⟩
    rw [HF.out.2.1]
    exact ⟨HF.out.2.2.1, bt, rfl, HF.out.2.2.2.1⟩
end Go.Proofs.YtffkjbbhbpaacaaGreatDoor
