import Derived.Test.YtffkjbbhbpaacaaDoorUsr
/-
  both Ups, method by method: what is asked, what an answer leads to.
-/
namespace Go.Proofs.YtffkjbbhbpaacaaDoor
open Go.RowKit
/-- what is asked -/
structure RqV where
  op : Int
  f : Nat → BitVec 8
  off : Int
  n : Int
  is : Bool
  ys : List Int
def askV (ph at' b : Int) (S : Nat) (f : Nat → BitVec 8) (xs : List Int) : RqV :=
  if b ≠ 0 ∨ ph < 0 ∨ 5 ≤ ph then ⟨0, zf, 0, 0, false, []⟩ else if ph = 0 then ⟨5, f, 0, 0, true, []⟩ else if ph = 1 then ⟨1, f, 0, S, true, []⟩ else if ph = 2 then ⟨2, f, at', 0, true, prt xs at'.toNat⟩ else if ph = 3 then ⟨3, f, 0, 0, true, []⟩ else ⟨6, f, 0, 0, true, []⟩
def AskP (w : World) (V : RqV) (e : Ending) (w' : World) : Prop := ∃ A l c, e = .returned (.tuple #[.agg (rqA V.op V.f V.off V.n (.slice A l c)), .bool V.is]) ∧ l = V.ys.length ∧ SlRead w' A (ints .u8 V.ys) ∧ Below w.heap.size w w'
theorem AskP.nil {w w' : World} {op : Int} {f : Nat → BitVec 8} {off n : Int} {is : Bool} {e : Ending} (h1 : e = .returned (.tuple #[.agg (rqA op f off n (.slice none 0 0)), .bool is])) (hb : Below w.heap.size w w') : AskP w ⟨op, f, off, n, is, []⟩ e w' :=
  ⟨none, 0, 0, h1, rfl, fun h => absurd h (by simp [ints]), hb⟩
theorem prt_len (xs : List Int) (k : Nat) : (prt xs k).length ≤ 200 := by
  unfold prt
  split
  · simp
  · rw [List.length_take]; omega
theorem ask_len (ph at' b : Int) (S : Nat) (f : Nat → BitVec 8) (xs : List Int) : (askV ph at' b S f xs).ys.length ≤ 200 := by
  unfold askV
  repeat' split
  all_goals first | exact prt_len _ _ | simp
section
variable {w : World} {g : Nat} {ph at' a b : Int}
theorem uask_any (h : UpH w g ph at' a b) (f : Nat → BitVec 8) (Bl : Option Addr) (S cb : Nat) (xs : List Int) (hS : S = xs.length) (hc : S ≤ cb) (h9 : S ≤ 900) (hat : 0 ≤ at' ∧ at' ≤ 900) (hB : SlRead w Bl (ints .u8 xs)) :
    Calls Tryd.prog 9 #[.pointer (some ⟨g, 0, none⟩), .agg (arr8 32 f), .slice Bl S cb] w (AskP w (askV ph at' b S f xs)) := by
  unfold askV
  by_cases hno : b ≠ 0 ∨ ph < 0 ∨ 5 ≤ ph
  · rw [if_pos hno]
    by_cases hb : b = 0
    · exact (ask_off w g ph at' a b h f Bl S cb hb (by omega)).mono fun e w' ⟨h1, h2⟩ => .nil h1 h2
    · exact (ask_wait w h f Bl S cb hb).mono fun e w' ⟨h1, h2⟩ => .nil h1 h2
  · rw [if_neg hno]
    have hb : b = 0 := by omega
    by_cases e0 : ph = 0
    · subst e0
      rw [if_pos rfl]
      exact (ask_0 w h f Bl S cb hb rfl).mono fun e w' ⟨h1, h2⟩ => .nil h1 h2
    rw [if_neg e0]
    by_cases e1 : ph = 1
    · subst e1
      rw [if_pos rfl]
      exact (ask_1 w h f Bl S cb hb rfl (by omega)).mono fun e w' ⟨h1, h2⟩ => .nil h1 h2
    rw [if_neg e1]
    by_cases e2 : ph = 2
    · subst e2
      rw [if_pos rfl]
      obtain ⟨k, rfl⟩ : ∃ k : Nat, at' = (k : Int) := ⟨at'.toNat, by omega⟩
      rw [show ((k : Int)).toNat = k from rfl]
      exact ask_2 w g (k : Int) a b h f Bl S cb (prt xs k) hb (by omega) (fun W hbW => part_any Bl xs S cb k hS hc h9 W (hB.below hbW))
    rw [if_neg e2]
    by_cases e3 : ph = 3
    · subst e3
      rw [if_pos rfl]
      exact (ask_3 w h f Bl S cb hb rfl).mono fun e w' ⟨h1, h2⟩ => .nil h1 h2
    rw [if_neg e3]
    obtain rfl : ph = 4 := by omega
    exact (ask_4 w h f Bl S cb hb rfl).mono fun e w' ⟨h1, h2⟩ => .nil h1 h2
theorem dask_any (h : DpH w g ph at' a b) (f : Nat → BitVec 8) (Bl : Option Addr) (S cb : Nat) (xs : List Int) (hS : S = xs.length) (hc : S ≤ cb) (h9 : S ≤ 900) (hat : 0 ≤ at' ∧ at' ≤ 900) (hB : SlRead w Bl (ints .u8 xs)) :
    Calls Tryd.prog 10 #[.pointer (some ⟨g, 0, none⟩), .agg (arr8 32 f), .slice Bl S cb] w (AskP w (askV ph at' b S f xs)) := by
  unfold askV
  by_cases hno : b ≠ 0 ∨ ph < 0 ∨ 5 ≤ ph
  · rw [if_pos hno]
    exact (dask_none w h f Bl S cb hno).mono fun e w' ⟨h1, h2⟩ => .nil h1 h2
  · rw [if_neg hno]
    have hb : b = 0 := by omega
    by_cases e0 : ph = 0
    · subst e0
      rw [if_pos rfl]
      exact (dask_0 w h f Bl S cb hb).mono fun e w' ⟨h1, h2⟩ => .nil h1 h2
    rw [if_neg e0]
    by_cases e1 : ph = 1
    · subst e1
      rw [if_pos rfl]
      exact (dask_1 w h f Bl S cb hb (by omega)).mono fun e w' ⟨h1, h2⟩ => .nil h1 h2
    rw [if_neg e1]
    by_cases e2 : ph = 2
    · subst e2
      rw [if_pos rfl]
      obtain ⟨k, rfl⟩ : ∃ k : Nat, at' = (k : Int) := ⟨at'.toNat, by omega⟩
      rw [show ((k : Int)).toNat = k from rfl]
      by_cases hk : k < S
      · exact dask_2_yes w h f Bl S cb hb k rfl (by omega) xs hS hk hc h9 hB
      · have ep : prt xs k = [] := by
          unfold prt
          split
          · rfl
          · rw [List.drop_eq_nil_of_le (by omega)]; simp
        rw [ep]
        exact (dask_2_no w h f Bl S cb hb k rfl (by omega) (by omega)).mono fun e w' ⟨h1, h2⟩ => .nil h1 h2
    rw [if_neg e2]
    by_cases e3 : ph = 3
    · subst e3
      rw [if_pos rfl]
      exact (dask_3 w h f Bl S cb hb).mono fun e w' ⟨h1, h2⟩ => .nil h1 h2
    rw [if_neg e3]
    obtain rfl : ph = 4 := by omega
    exact (dask_4 w h f Bl S cb hb).mono fun e w' ⟨h1, h2⟩ => .nil h1 h2
/-- what an answer leads to -/
structure AnV where
  e : Bool
  ph : Int
  at' : Int
  a : Int
  b : Int
def ansV (ph at' a b t code n : Int) (d : Bool) : AnV :=
  if ph < 0 ∨ 5 ≤ ph then ⟨false, ph, at', a, b⟩ else match nAll ph at' t code n d with
    | none => ⟨decide (10 < a + 1), ph, at', a + 1, delayN (a + 1)⟩
    | some (p, q) => ⟨false, p, q, 0, 0⟩
theorem uans_any (E : Nat → Addr) (hE : ErrsAt E w) (h : UpH w g ph at' a b) (ha : -1000000 ≤ a ∧ a ≤ 1000000) (t code n : Int) (hn : 0 ≤ n ∧ n < 4294967296) (D : Value) (d : Bool) (hD : DatF w D d) :
    Calls Tryd.prog 14 #[.pointer (some ⟨g, 0, none⟩), .int .i64 t, .agg (rv code n D)] w fun e w' => e = .returned (.bool (ansV ph at' a b t code n d).e) ∧ UpH w' g (ansV ph at' a b t code n d).ph (ansV ph at' a b t code n d).at' (ansV ph at' a b t code n d).a (ansV ph at' a b t code n d).b ∧ Turn (· = g) w w' := by
  unfold ansV
  by_cases hno : ph < 0 ∨ 5 ≤ ph
  · rw [if_pos hno]
    refine (answer_off w h hno code n D t).mono ?_
    rintro e w' ⟨rfl, hb⟩
    exact ⟨rfl, h.below hb, Turn.of_below hb⟩
  · rw [if_neg hno]
    have hph : 0 ≤ ph ∧ ph < 5 := by omega
    have haf : ∀ W, Below w.heap.size w W → UpH W g ph at' a b → Calls Tryd.prog 33 #[.pointer (some ⟨g, 0, none⟩), .int .i64 t, .agg (rv code n D)] W fun e w' => e = .returned (upR a b (nAll ph at' t code n d)) ∧ Below W.heap.size W w' := fun W hb hW => by
      unfold nAll
      by_cases e0 : ph = 0
      · subst e0
        rw [if_pos rfl]
        exact after0_u E W (hE.below hb) hW code n D t hn d (hD.below hb) _ rfl
      · rw [if_neg e0]
        exact after_u E W (hE.below hb) hW (by omega) code n D t hn _ rfl
    cases hX : nAll ph at' t code n d with
    | none =>
      rw [hX] at haf
      exact answer_no E w hE h hph code n D t ha haf
    | some pq =>
      rcases pq with ⟨p, q⟩
      rw [hX] at haf
      exact answer_yes E w hE h hph code n D t p q haf
theorem dans_any (h : DpH w g ph at' a b) (ha : -1000000 ≤ a ∧ a ≤ 1000000) (t code n : Int) (hn : 0 ≤ n ∧ n < 4294967296) (D : Value) (d : Bool) (hD : DatF w D d) :
    Calls Tryd.prog 15 #[.pointer (some ⟨g, 0, none⟩), .int .i64 t, .agg (rv code n D)] w fun e w' => e = .returned (.bool (ansV ph at' a b t code n d).e) ∧ DpH w' g (ansV ph at' a b t code n d).ph (ansV ph at' a b t code n d).at' (ansV ph at' a b t code n d).a (ansV ph at' a b t code n d).b ∧ Turn (· = g) w w' := by
  unfold ansV
  by_cases hno : ph < 0 ∨ 5 ≤ ph
  · rw [if_pos hno]
    refine (danswer_off w h hno code n D t).mono ?_
    rintro e w' ⟨rfl, hb⟩
    exact ⟨rfl, h.below hb, Turn.of_below hb⟩
  · rw [if_neg hno]
    have hph : 0 ≤ ph ∧ ph < 5 := by omega
    have haf : ∀ W, Below w.heap.size w W → DpH W g ph at' a b → Calls Tryd.prog 36 #[.pointer (some ⟨g, 0, none⟩), .int .i64 t, .agg (rv code n D)] W fun e w' => e = .returned (nR (nAll ph at' t code n d)) ∧ Below W.heap.size W w' := fun W hb hW => next_d W g ph at' a b hW hph t code n hn D d (hD.below hb) _ rfl
    cases hX : nAll ph at' t code n d with
    | none =>
      rw [hX] at haf
      exact danswer_no w h hph code n D t ha haf
    | some pq =>
      rcases pq with ⟨p, q⟩
      rw [hX] at haf
      exact danswer_yes w h hph code n D t p q haf
end
/-- the ranges -/
structure RgU (ph at' a b : Int) (i : Nat) : Prop where
  p : -1 ≤ ph ∧ ph ≤ 6
  t : 0 ≤ at' ∧ at' ≤ 900
  a : 0 ≤ a ∧ a ≤ i
  b : 0 ≤ b ∧ b ≤ 64
theorem delay_rg (t : Int) : 0 ≤ delayN t ∧ delayN t ≤ 64 := by
  by_cases h1 : t ≤ 1
  · rw [show delayN t = 1 from if_pos h1]; decide
  · by_cases h7 : 7 ≤ t
    · rw [delay_top t h7]; decide
    · obtain rfl | rfl | rfl | rfl | rfl : t = 2 ∨ t = 3 ∨ t = 4 ∨ t = 5 ∨ t = 6 := by omega
      all_goals decide
theorem fill_rg {n t p q : Int} (hn : 0 ≤ n) (ht : t ≤ 900) (h : fillN n t = some (p, q)) : (p = 2 ∨ p = 3) ∧ 0 ≤ q ∧ q ≤ 900 := by
  unfold fillN at h
  split at h
  · cases h
  · simp only [Option.some.injEq, Prod.mk.injEq] at h
    obtain ⟨rfl, rfl⟩ := h
    exact ⟨by split <;> simp, hn, by omega⟩
theorem nAll_rg {ph at' t code n p q : Int} {d : Bool} (hat : 0 ≤ at' ∧ at' ≤ 900) (hn : 0 ≤ n) (ht : t ≤ 900) (h : nAll ph at' t code n d = some (p, q)) : (-1 ≤ p ∧ p ≤ 6) ∧ 0 ≤ q ∧ q ≤ 900 := by
  have key : ∀ {x y : Int} {X : Option (Int × Int)}, X = some (p, q) → (X = some (x, at') → -1 ≤ x ∧ x ≤ 6) → True := fun _ _ => trivial
  clear key
  have hf : ∀ {X}, X = fillN n t → X = some (p, q) → (-1 ≤ p ∧ p ≤ 6) ∧ 0 ≤ q ∧ q ≤ 900 := fun e1 e2 => by
    obtain ⟨h1, h2⟩ := fill_rg hn ht (e1 ▸ e2)
    exact ⟨by omega, h2⟩
  unfold nAll nAfter nStat nOpen nPut nCommit nDelete at h
  repeat' split at h
  all_goals first
    | exact hf rfl h
    | cases h
  all_goals exact ⟨by omega, by omega⟩
theorem RgU.next {ph at' a b : Int} {i : Nat} (h : RgU ph at' a b i) (t code n : Int) (d : Bool) (hn : 0 ≤ n) (ht : t ≤ 900) : RgU (ansV ph at' a b t code n d).ph (ansV ph at' a b t code n d).at' (ansV ph at' a b t code n d).a (ansV ph at' a b t code n d).b (i + 1) := by
  unfold ansV
  split
  · exact ⟨h.p, h.t, ⟨h.a.1, by have := h.a.2; simp; omega⟩, h.b⟩
  · cases hX : nAll ph at' t code n d with
    | none => exact ⟨h.p, h.t, ⟨by have := h.a.1; simp; omega, by have := h.a.2; simp; omega⟩, delay_rg _⟩
    | some pq =>
      rcases pq with ⟨p, q⟩
      obtain ⟨h1, h2⟩ := nAll_rg h.t hn ht hX
      exact ⟨h1, h2, ⟨by simp, by simp; omega⟩, by simp⟩
end Go.Proofs.YtffkjbbhbpaacaaDoor
