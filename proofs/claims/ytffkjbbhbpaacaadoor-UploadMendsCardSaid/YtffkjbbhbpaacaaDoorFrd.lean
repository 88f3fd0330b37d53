import Derived.Test.YtffkjbbhbpaacaaDoorFrm
import Derived.Test.YtffkjbbhbpaacaaDoorUcd
/-
  frame: a request's bytes, a response's, the program's and the document's.
  what is read: a request, a response.
-/
namespace Go.Proofs.YtffkjbbhbpaacaaDoor
open Go.RowKit

theorem wr_new {w : World} {t : TypeId} {o : Obj} {k : Nat} (h : w.heap.size = k) : WrS ((w.alloc o).alloc (.cells #[.slice none 0 0] t)) (k + 1) (k + 1) [] (.slice none 0 0) := by
  subst h
  exact ⟨by simp [go_sem], by simp [go_sem], World.ownsRow_nil _ _ _ _, by simp [Value.ownBlock], Nat.le_refl _⟩
theorem sl_lt {w : World} {A : Option Addr} {ys : List Int} (h : SlRead w A (ints .u8 ys)) : 0 < ys.length → ∀ a, A = some a → a.block < w.heap.size := fun h0 a ha => by
  obtain ⟨b, o, e, hlt, _⟩ := h (by simpa using h0)
  rw [ha] at e
  injection e with e
  subst e
  exact hlt
set_option maxRecDepth 100000 in
set_option maxHeartbeats 1600000 in
theorem dreq_any (op : Int) (f : Nat → BitVec 8) (off n : Int) (A : Option Addr) (ys : List Int) (c : Nat) (w : World) (hA : SlRead w A (ints .u8 ys)) (hl : ys.length ≤ 100000) :
    Calls Tryd.prog 27 #[.agg (rqA op f off n (.slice A ys.length c))] w fun e w' => ∃ v, e = .returned v ∧ w'.ownsRow w.heap.size 5 1 v (45 + ys.length) (ints .u8 (rqB op f off n ys)) ∧ Below w.heap.size w w' := by
  have hsl := slice_blob
  have hAl := sl_lt hA
  go_enter Tryd.func27, Tryd.ntmps27
  go_upto_region 2 with (fail)
  obtain ⟨Q, hQ⟩ : ∃ H, H = w.heap.size := ⟨_, rfl⟩
  obtain ⟨Wb, hWb⟩ : ∃ H, H = w.heap.size + 1 := ⟨_, rfl⟩
  refine wp_world (fun V => Below w.heap.size w V ∧ V.heap[Q]? = some (.cells (rqA op f off n (.slice A ys.length c)) 40 (0, 0)) ∧ WrS V Wb Wb [] (.slice none 0 0) ∧ V.heap.size = Q + 2) ?_ ?_
  · rw [hQ, hWb]
    exact ⟨(below_alc w _).trans ((below_alc _ _).mono (by simp)), heap2_0 _ _ _, wr_new rfl, by simp⟩
  rintro V0 ⟨hb0, hq0, hw0, hs0⟩
  rw [← hWb, ← hQ]
  have hQW : Q < Wb := by omega
  have hwQ : w.heap.size ≤ Q := by omega
  have hs0 : Wb ≤ V0.heap.size := by omega
  have hAQ : 0 < ys.length → ∀ a, A = some a → a.block < Q := fun h0 a ha => by have := hAl h0 a ha; omega
  have hwW : w.heap.size ≤ Wb := by omega
  have hA0 := hA.below hb0
  clear hWb hQ hA hAl
  obtain ⟨zs1, hz1⟩ : ∃ zs, zs = [] ++ [op % 256] := ⟨_, rfl⟩
  have cc := cell_heap hq0 (rq_c0 _ _ _ _ _)
  have HC := du8_any op Wb Wb [] _ V0 hw0 hs0 (by simp)
  rw [← hz1] at HC
  have HL1 : Hid (zs1.length = 1) := Lib.hid (by rw [hz1]; simp)
  have HZ1 := Lib.hid hz1
  clear hz1
  go_wp2_with fail
  refine HC.mono ?_
  rintro e V1 ⟨rfl, v1, hw1, ht, _⟩
  have hq1 := (ht.block Q (by omega) (fun hh => by have := (hw0.ltF hh).1; omega)).trans hq0
  have hb1 : Below w.heap.size w V1 := ht.below hb0 hb0.size (fun q hq => by have := (hw0.ltF hq).1; omega)
  have hs1 : Wb ≤ V1.heap.size := Nat.le_trans hs0 ht.size
  have hA1 := hA0.turn ht (fun h0 a ha hh => by have := (hw0.ltF hh).1; have := hAQ (by simpa using h0) a ha; omega)
  clear HC ht hw0 hq0 hb0 hs0 hA0 cc
  obtain ⟨zs2, hz2⟩ : ∃ zs, zs = zs1 ++ fB f := ⟨_, rfl⟩
  have hk : SlRead V1 (some ⟨Q, 1, none⟩) (ints .u8 (fB f)) := fun _ => ⟨Q, 1, rfl, lt_heap hq1, fun j u hu => rq_blob hq1 j u (by rw [← hu, fB_arr]; simp [arr8])⟩
  have HC := draw_any (some ⟨Q, 1, none⟩) (fB f) 32 Wb Wb zs1 _ V1 hw1 hs1 (by rw [HL1.out]; omega) hk (by rw [fB_len]; omega)
  rw [fB_len] at HC
  rw [← hz2] at HC
  have HL2 : Hid (zs2.length = 33) := Lib.hid (by rw [hz2]; simp [fB_len, HL1.out])
  have HZ2 := Lib.hid hz2
  clear hz2
  go_wp2_with fail
  refine HC.mono ?_
  rintro e V2 ⟨rfl, v2, hw2, ht, _⟩
  have hq2 := (ht.block Q (by omega) (fun hh => by have := (hw1.ltF hh).1; omega)).trans hq1
  have hb2 : Below w.heap.size w V2 := ht.below hb1 hb1.size (fun q hq => by have := (hw1.ltF hq).1; omega)
  have hs2 : Wb ≤ V2.heap.size := Nat.le_trans hs1 ht.size
  have hA2 := hA1.turn ht (fun h0 a ha hh => by have := (hw1.ltF hh).1; have := hAQ (by simpa using h0) a ha; omega)
  clear HC ht hw1 hq1 hb1 hs1 hA1 hk
  obtain ⟨zs3, hz3⟩ : ∃ zs, zs = zs2 ++ le4 off := ⟨_, rfl⟩
  have cc := cell_heap hq2 (rq_c33 _ _ _ _ _)
  have HC := du32_any off Wb Wb zs2 _ V2 hw2 hs2 (by rw [HL2.out]; omega)
  rw [← hz3] at HC
  have HL3 : Hid (zs3.length = 37) := Lib.hid (by rw [hz3]; simp [le4, HL2.out])
  have HZ3 := Lib.hid hz3
  clear hz3
  go_wp2_with fail
  refine HC.mono ?_
  rintro e V3 ⟨rfl, v3, hw3, ht, _⟩
  have hq3 := (ht.block Q (by omega) (fun hh => by have := (hw2.ltF hh).1; omega)).trans hq2
  have hb3 : Below w.heap.size w V3 := ht.below hb2 hb2.size (fun q hq => by have := (hw2.ltF hq).1; omega)
  have hs3 : Wb ≤ V3.heap.size := Nat.le_trans hs2 ht.size
  have hA3 := hA2.turn ht (fun h0 a ha hh => by have := (hw2.ltF hh).1; have := hAQ (by simpa using h0) a ha; omega)
  clear HC ht hw2 hq2 hb2 hs2 hA2 cc
  obtain ⟨zs4, hz4⟩ : ∃ zs, zs = zs3 ++ le4 n := ⟨_, rfl⟩
  have cc := cell_heap hq3 (rq_c34 _ _ _ _ _)
  have HC := du32_any n Wb Wb zs3 _ V3 hw3 hs3 (by rw [HL3.out]; omega)
  rw [← hz4] at HC
  have HL4 : Hid (zs4.length = 41) := Lib.hid (by rw [hz4]; simp [le4, HL3.out])
  have HZ4 := Lib.hid hz4
  clear hz4
  go_wp2_with fail
  refine HC.mono ?_
  rintro e V4 ⟨rfl, v4, hw4, ht, _⟩
  have hq4 := (ht.block Q (by omega) (fun hh => by have := (hw3.ltF hh).1; omega)).trans hq3
  have hb4 : Below w.heap.size w V4 := ht.below hb3 hb3.size (fun q hq => by have := (hw3.ltF hq).1; omega)
  have hs4 : Wb ≤ V4.heap.size := Nat.le_trans hs3 ht.size
  have hA4 := hA3.turn ht (fun h0 a ha hh => by have := (hw3.ltF hh).1; have := hAQ (by simpa using h0) a ha; omega)
  clear HC ht hw3 hq3 hb3 hs3 hA3 cc
  obtain ⟨zs5, hz5⟩ : ∃ zs, zs = zs4 ++ lstI ys := ⟨_, rfl⟩
  have cc := cell_heap hq4 (rq_c35 _ _ _ _ _)
  have HC := dlist_any A ys c Wb Wb zs4 _ V4 hw4 hs4 (by rw [HL4.out]; omega) hA4 (by omega) (fun h0 a ha hh => by have := (hw4.ltF hh).1; have := hAQ h0 a ha; omega)
  rw [← hz5] at HC
  have HZ5 := Lib.hid hz5
  clear hz5
  go_wp2_with fail
  refine HC.mono ?_
  rintro e V5 ⟨rfl, v5, hw5, ht, _⟩
  have hq5 := (ht.block Q (by omega) (fun hh => by have := (hw4.ltF hh).1; omega)).trans hq4
  have hb5 : Below w.heap.size w V5 := ht.below hb4 hb4.size (fun q hq => by have := (hw4.ltF hq).1; omega)
  have hs5 : Wb ≤ V5.heap.size := Nat.le_trans hs4 ht.size
  clear HC ht hw4 hq4 hb4 hs4 hA4 cc
  have hfull : zs5 = rqB op f off n ys := by rw [HZ5.out, HZ4.out, HZ3.out, HZ2.out, HZ1.out]; rfl
  have hfl : zs5.length = 45 + ys.length := by rw [hfull]; exact rqB_len _ _ _ _ _
  have cw := hw5.c
  have HG := Lib.hid (And.intro (ownsRow_lower hw5.own hwW) hb5)
  have HF := Lib.hid (And.intro hfull hfl)
  clear hfull hfl hw5 hb5 hq5
  go_wp2_with fail
  go_ret
  have h := HG.out
  rw [HF.out.2, HF.out.1] at h
  exact ⟨_, rfl, h⟩
set_option maxRecDepth 100000 in
set_option maxHeartbeats 1600000 in
theorem dresp_any (code n : Int) (A : Option Addr) (ys : List Int) (c : Nat) (w : World) (hA : SlRead w A (ints .u8 ys)) (hl : ys.length ≤ 100000) :
    Calls Tryd.prog 49 #[.agg (rsA code n (.slice A ys.length c))] w fun e w' => ∃ v, e = .returned v ∧ w'.ownsRow w.heap.size 5 1 v (9 + ys.length) (ints .u8 (rsB code n ys)) ∧ Below w.heap.size w w' := by
  have hAl := sl_lt hA
  go_enter Tryd.func49, Tryd.ntmps49
  go_upto_region 2 with (fail)
  obtain ⟨Q, hQ⟩ : ∃ H, H = w.heap.size := ⟨_, rfl⟩
  obtain ⟨Wb, hWb⟩ : ∃ H, H = w.heap.size + 1 := ⟨_, rfl⟩
  refine wp_world (fun V => Below w.heap.size w V ∧ V.heap[Q]? = some (.cells (rsA code n (.slice A ys.length c)) 47 (0, 0)) ∧ WrS V Wb Wb [] (.slice none 0 0) ∧ V.heap.size = Q + 2) ?_ ?_
  · rw [hQ, hWb]
    exact ⟨(below_alc w _).trans ((below_alc _ _).mono (by simp)), heap2_0 _ _ _, wr_new rfl, by simp⟩
  rintro V0 ⟨hb0, hq0, hw0, hs0⟩
  rw [← hWb, ← hQ]
  have hQW : Q < Wb := by omega
  have hwQ : w.heap.size ≤ Q := by omega
  have hs0 : Wb ≤ V0.heap.size := by omega
  have hAQ : 0 < ys.length → ∀ a, A = some a → a.block < Q := fun h0 a ha => by have := hAl h0 a ha; omega
  have hwW : w.heap.size ≤ Wb := by omega
  have hA0 := hA.below hb0
  clear hWb hQ hA hAl
  obtain ⟨zs1, hz1⟩ : ∃ zs, zs = [] ++ [code % 256] := ⟨_, rfl⟩
  have cc := cell_heap hq0 (rs_c0 _ _ _)
  have HC := du8_any code Wb Wb [] _ V0 hw0 hs0 (by simp)
  rw [← hz1] at HC
  have HL1 : Hid (zs1.length = 1) := Lib.hid (by rw [hz1]; simp)
  have HZ1 := Lib.hid hz1
  clear hz1
  go_wp2_with fail
  refine HC.mono ?_
  rintro e V1 ⟨rfl, v1, hw1, ht, _⟩
  have hq1 := (ht.block Q (by omega) (fun hh => by have := (hw0.ltF hh).1; omega)).trans hq0
  have hb1 : Below w.heap.size w V1 := ht.below hb0 hb0.size (fun q hq => by have := (hw0.ltF hq).1; omega)
  have hs1 : Wb ≤ V1.heap.size := Nat.le_trans hs0 ht.size
  have hA1 := hA0.turn ht (fun h0 a ha hh => by have := (hw0.ltF hh).1; have := hAQ (by simpa using h0) a ha; omega)
  clear HC ht hw0 hq0 hb0 hs0 hA0 cc
  obtain ⟨zs2, hz2⟩ : ∃ zs, zs = zs1 ++ le4 n := ⟨_, rfl⟩
  have cc := cell_heap hq1 (rs_c1 _ _ _)
  have HC := du32_any n Wb Wb zs1 _ V1 hw1 hs1 (by rw [HL1.out]; omega)
  rw [← hz2] at HC
  have HL2 : Hid (zs2.length = 5) := Lib.hid (by rw [hz2]; simp [le4, HL1.out])
  have HZ2 := Lib.hid hz2
  clear hz2
  go_wp2_with fail
  refine HC.mono ?_
  rintro e V2 ⟨rfl, v2, hw2, ht, _⟩
  have hq2 := (ht.block Q (by omega) (fun hh => by have := (hw1.ltF hh).1; omega)).trans hq1
  have hb2 : Below w.heap.size w V2 := ht.below hb1 hb1.size (fun q hq => by have := (hw1.ltF hq).1; omega)
  have hs2 : Wb ≤ V2.heap.size := Nat.le_trans hs1 ht.size
  have hA2 := hA1.turn ht (fun h0 a ha hh => by have := (hw1.ltF hh).1; have := hAQ (by simpa using h0) a ha; omega)
  clear HC ht hw1 hq1 hb1 hs1 hA1 cc
  obtain ⟨zs3, hz3⟩ : ∃ zs, zs = zs2 ++ lstI ys := ⟨_, rfl⟩
  have cc := cell_heap hq2 (rs_c2 _ _ _)
  have HC := dlist_any A ys c Wb Wb zs2 _ V2 hw2 hs2 (by rw [HL2.out]; omega) hA2 (by omega) (fun h0 a ha hh => by have := (hw2.ltF hh).1; have := hAQ h0 a ha; omega)
  rw [← hz3] at HC
  have HZ3 := Lib.hid hz3
  clear hz3
  go_wp2_with fail
  refine HC.mono ?_
  rintro e V3 ⟨rfl, v3, hw3, ht, _⟩
  have hq3 := (ht.block Q (by omega) (fun hh => by have := (hw2.ltF hh).1; omega)).trans hq2
  have hb3 : Below w.heap.size w V3 := ht.below hb2 hb2.size (fun q hq => by have := (hw2.ltF hq).1; omega)
  have hs3 : Wb ≤ V3.heap.size := Nat.le_trans hs2 ht.size
  clear HC ht hw2 hq2 hb2 hs2 hA2 cc
  have hfull : zs3 = rsB code n ys := by rw [HZ3.out, HZ2.out, HZ1.out]; rfl
  have hfl : zs3.length = 9 + ys.length := by rw [hfull]; exact rsB_len _ _ _
  have cw := hw3.c
  have HG := Lib.hid (And.intro (ownsRow_lower hw3.own hwW) hb3)
  have HF := Lib.hid (And.intro hfull hfl)
  clear hfull hfl hw3 hb3 hq3
  go_wp2_with fail
  go_ret
  have h := HG.out
  rw [HF.out.2, HF.out.1] at h
  exact ⟨_, rfl, h⟩
theorem own_lowlt {w : World} {base n size : Nat} {t : TypeId} {v : Value} {xs : List Value} (h : w.ownsRow base t size v n xs) {k : Nat} (hk : v.ownBlock = some k) : base ≤ k ∧ k < w.heap.size := by
  obtain ⟨A, c, rfl, _, _, h1⟩ := own_slice h
  rcases A with _ | a
  · simp [Value.ownBlock] at hk
  · simp [Value.ownBlock] at hk
    subst hk
    exact h1 a rfl
theorem rs_set0 (code code' n : Int) (D : Value) : (rsA code n D).setIfInBounds 0 (.int .i64 code') = rsA code' n D := rfl
theorem rs_set1 (code n n' : Int) (D : Value) : (rsA code n D).setIfInBounds 1 (.int .u32 n') = rsA code n' D := rfl
theorem rs_set2 (code n : Int) (D D' : Value) : (rsA code n D).setIfInBounds 2 D' = rsA code n D' := rfl
def RqP (xs : List Int) (LO : Nat) (r : Array Value) (W : World) : Prop := (reqO xs = none ∧ ∃ D, r = rqA (byteI xs 0) (bF xs 1) (wordI xs 33) (wordI xs 37) D ∧ W.ownsRow LO 5 1 D (xs.length - 45) (ints .u8 (xs.drop 45))) ∨ (reqO xs ≠ none ∧ r = rqA 0 zf 0 0 (.slice none 0 0))
def RsP (xs : List Int) (LO : Nat) (r : Array Value) (W : World) : Prop := (rspO xs = none ∧ ∃ D, r = rsA (byteI xs 0) (wordI xs 1) D ∧ W.ownsRow LO 5 1 D (xs.length - 9) (ints .u8 (xs.drop 9))) ∨ (rspO xs ≠ none ∧ r = rsA 0 0 (.slice none 0 0))
end Go.Proofs.YtffkjbbhbpaacaaDoor
