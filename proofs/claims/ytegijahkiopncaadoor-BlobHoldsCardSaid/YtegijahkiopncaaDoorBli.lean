import Derived.Test.YtegijahkiopncaaDoorBlh
/-
  blob: the store beside the errors, behind a world.
-/
namespace Go.Proofs.YtegijahkiopncaaDoor
open Go.RowKit
/-- the store, all of whose blocks are newer than w0 -/
structure Sto (E : Nat → Addr) (w0 W : World) (S : Nat) (q l : Int) (V : Value) (es : List Be) : Prop where
  er : ErrsAt E w0
  be : Below w0.heap.size w0 W
  st : StS W S q l V es
  lo : ∀ k, stF S V es k → w0.heap.size ≤ k
section
variable {E : Nat → Addr} {w0 W : World} {S : Nat} {q l : Int} {V : Value} {es : List Be}
theorem Sto.errs (h : Sto E w0 W S q l V es) : ErrsAt E W := h.er.below h.be
theorem Sto.gne (h : Sto E w0 W S q l V es) {i : Nat} {e : Be} (hi : es[i]? = some e) : ∀ j, j < 19 → gE j ≠ e.g := fun j hj y => by
  have h1 := h.er.ltG hj
  have h2 := h.lo e.g (.inr (.inr ⟨i, e, hi, .inl rfl⟩))
  omega
theorem Sto.step (h : Sto E w0 W S q l V es) {W' : World} {V' : Value} {es' : List Be} {G : Nat → Prop} (hs : StS W' S q l V' es') (ht : Turn G W W') (hF : ∀ k, G k → stF S V es k) (hn : ∀ k, stF S V' es' k → stF S V es k ∨ W.heap.size ≤ k) : Sto E w0 W' S q l V' es' :=
  ⟨h.er, ht.below h.be h.be.size (fun k hk => h.lo k (hF k hk)), hs, fun k hk => (hn k hk).elim (h.lo k) (fun h2 => Nat.le_trans h.be.size h2)⟩
theorem Sto.below (h : Sto E w0 W S q l V es) {W' : World} (hb : Below W.heap.size W W') : Sto E w0 W' S q l V es := h.step (G := fun _ => False) (h.st.below hb) (Turn.of_below hb) (fun _ h => h.elim) (fun _ hk => .inl hk)
theorem Sto.keep (h : Sto E w0 W S q l V es) {W' : World} (hb : Below w0.heap.size w0 W') (hk : ∀ k, stF S V es k → W'.heap[k]? = W.heap[k]?) : Sto E w0 W' S q l V es := ⟨h.er, hb, h.st.keep hk, h.lo⟩
theorem stF_set {i : Nat} {e e' : Be} (hi : es[i]? = some e) (hg : e'.g = e.g) {n : Nat} (hD : ∀ k, e'.D.ownBlock = some k → e.D.ownBlock = some k ∨ n ≤ k) (k : Nat) (hk : stF S V (es.set i e') k) : stF S V es k ∨ n ≤ k := by
  rcases hk with h | h | ⟨j, x, hx, h⟩
  · exact .inl (.inl h)
  · exact .inl (.inr (.inl h))
  · rw [List.getElem?_set] at hx
    by_cases hj : i = j
    · subst hj
      rw [if_pos rfl, if_pos (List.getElem?_eq_some_iff.1 hi).1] at hx
      obtain rfl := Option.some.inj hx
      rcases h with h | h
      · exact .inl (.inr (.inr ⟨i, e, hi, .inl (h.trans hg)⟩))
      · rcases hD k h with h | h
        · exact .inl (.inr (.inr ⟨i, e, hi, .inr h⟩))
        · exact .inr h
    · rw [if_neg hj] at hx
      exact .inl (.inr (.inr ⟨j, x, hx, h⟩))
theorem Sto.used (h : Sto E w0 W S q l V es) {W' : World} {i : Nat} {e : Be} (hi : es[i]? = some e) (hs : StS W' S q l V (es.set i e.used)) (ht : Turn (· = e.g) W W') : Sto E w0 W' S q l V (es.set i e.used) :=
  h.step hs ht (fun _ hk => .inr (.inr ⟨i, e, hi, .inl hk⟩)) (stF_set (e' := e.used) hi rfl (fun _ hk => .inl hk))
theorem Sto.new (hE : ErrsAt E W) {W' : World} (hst : W'.heap[W.heap.size]? = some (.cells (stA q l (.slice none 0 0)) 59 (0, 0))) (hb : Below W.heap.size W W') : Sto E W W' W.heap.size q l (.slice none 0 0) [] :=
  ⟨hE, hb, ⟨hst, World.ownsRow_nil _ _ _ _, fun i e h => by simp at h, fun i e h => by simp at h, fun i j e e' _ h => by simp at h, fun i j e e' _ h => by simp at h⟩, fun k hk => by
    rcases hk with rfl | h | ⟨i, e, h, _⟩
    · exact Nat.le_refl _
    · cases h
    · simp at h⟩
theorem stF_at {i : Nat} {e : Be} (hi : es[i]? = some e) (k : Nat) (hk : k = e.g) : stF S V es k := .inr (.inr ⟨i, e, hi, .inl hk⟩)
/-- what is of another type isn't the store's -/
theorem StS.not (h : StS W S q l V es) {X : Nat} {c : Array Value} {t : TypeId} (hX : W.heap[X]? = some (.cells c t (0, 0))) (h1 : t ≠ 59) (h2 : t ≠ 60) (h3 : t ≠ 63) (h4 : t ≠ 5) : ¬ stF S V es X := by
  rintro (hk | hk | ⟨i, e, he, hk | hk⟩)
  · exact ty_ne hX h.st h1 hk
  · obtain ⟨cur, hc⟩ := own_cells h.own hk
    exact ty_ne hX hc h2 rfl
  · exact ty_ne hX (h.ent i e he) h3 hk
  · obtain ⟨cur, hc⟩ := own_cells (h.byt i e he) hk
    exact ty_ne hX hc h4 rfl
/-- a boxed id stays -/
theorem id_stays (h : Sto E w0 W S q l V es) {W' : World} (ht : Turn (stF S V es) W W') {X : Nat} {c : Array Value} (hX : W.heap[X]? = some (.cells c 26 (0, 0))) : W'.heap[X]? = some (.cells c 26 (0, 0)) :=
  (ht.block X (lt_heap hX) (h.st.not hX (by decide) (by decide) (by decide) (by decide))).trans hX
theorem s_new (hE : ErrsAt E W) (h1 : 1 ≤ l) : Calls Tryd.prog 11 #[.int .i64 q, .int .i64 l] W fun r W' => r = .returned (.pointer (some ⟨W.heap.size, 0, none⟩)) ∧ Sto E W W' W.heap.size q l (.slice none 0 0) [] :=
  (new_b q l h1 W).mono fun _ _ ⟨a, b, c⟩ => ⟨a, Sto.new hE b c⟩
theorem s_range (h : Sto E w0 W S q l V es) (k : Nat → BitVec 8) (n : Int) (hn : n < 1 ∨ 30000 < n) : Calls Tryd.prog 12 #[.pointer (some ⟨S, 0, none⟩), .agg (arr8 32 k), .int .i64 n] W fun r W' => r = .returned (errV (E 1)) ∧ Sto E w0 W' S q l V es ∧ Turn (stF S V es) W W' :=
  (open_range E h.errs k n hn).mono fun _ _ ⟨a, b⟩ => ⟨a, h.below b, Turn.of_below b⟩
theorem s_open (h : Sto E w0 W S q l V es) (k : Nat → BitVec 8) (n : Int) (h1 : 1 ≤ n) (h2 : n ≤ 30000) (hl : es.length ≤ 16) {i : Nat} {e : Be} (hf : es.findIdx? (Be.is k) = some i) (hi : es[i]? = some e) : Calls Tryd.prog 12 #[.pointer (some ⟨S, 0, none⟩), .agg (arr8 32 k), .int .i64 n] W fun r W' => r = .returned (errV (E 14)) ∧ Sto E w0 W' S q l V (es.set i e.used) ∧ Turn (stF S V es) W W' :=
  (open_open E h.errs h.st hl k n h1 h2 hf hi (h.gne hi)).mono fun _ _ ⟨a, b, c⟩ => ⟨a, h.used hi b c, c.mono (stF_at hi)⟩
theorem s_limit (h : Sto E w0 W S q l V es) (k : Nat → BitVec 8) (n : Int) (h1 : 1 ≤ n) (h2 : n ≤ 30000) (hl : es.length = 16) (hf : es.findIdx? (Be.is k) = none) : Calls Tryd.prog 12 #[.pointer (some ⟨S, 0, none⟩), .agg (arr8 32 k), .int .i64 n] W fun r W' => r = .returned (errV (E 17)) ∧ Sto E w0 W' S q l V es ∧ Turn (stF S V es) W W' :=
  (open_limit E h.errs h.st hl k n h1 h2 hf).mono fun _ _ ⟨a, b⟩ => ⟨a, h.below b, Turn.of_below b⟩
theorem s_full (h : Sto E w0 W S q l V es) (k : Nat → BitVec 8) (n : Int) (h1 : 1 ≤ n) (h2 : n ≤ 30000) (hl : es.length < 16) (hF : Few es) (hf : es.findIdx? (Be.is k) = none) (hq : q < sumN es + n) : Calls Tryd.prog 12 #[.pointer (some ⟨S, 0, none⟩), .agg (arr8 32 k), .int .i64 n] W fun r W' => r = .returned (errV (E 6)) ∧ Sto E w0 W' S q l V es ∧ Turn (stF S V es) W W' :=
  (open_full E h.errs h.st hl hF k n h1 h2 hf hq).mono fun _ _ ⟨a, b⟩ => ⟨a, h.below b, Turn.of_below b⟩
/-- what a new blob of k is, at block g -/
abbrev newB (g : Nat) (k : Nat → BitVec 8) (n : Int) : Be := ⟨g, k, n, .slice none 0 0, [], false, 0⟩
theorem s_ok (h : Sto E w0 W S q l V es) (k : Nat → BitVec 8) (n : Int) (h1 : 1 ≤ n) (h2 : n ≤ 30000) (hl : es.length < 16) (hF : Few es) (hf : es.findIdx? (Be.is k) = none) (hq : sumN es + n ≤ q) :
    Calls Tryd.prog 12 #[.pointer (some ⟨S, 0, none⟩), .agg (arr8 32 k), .int .i64 n] W fun r W' => r = .returned .nilIface ∧ ∃ V' g, W.heap.size ≤ g ∧ Sto E w0 W' S q l V' (es ++ [newB g k n]) ∧ Turn (stF S V es) W W' ∧ (∀ x, V'.ownBlock = some x → V.ownBlock = some x ∨ W.heap.size ≤ x) := by
  refine (open_ok h.st hl hF k n h1 h2 hf hq).mono ?_
  rintro r W' ⟨a, V', g, hg, b, c, d⟩
  have hG : ∀ k, (k = S ∨ V.ownBlock = some k) → stF S V es k := fun k hk => hk.elim (.inl) (fun h => .inr (.inl h))
  refine ⟨a, V', g, hg, h.step b c hG (fun x hx => ?_), c.mono hG, d⟩
  rcases hx with hx | hx | ⟨j, y, hy, hx⟩
  · exact .inl (.inl hx)
  · exact (d x hx).elim (fun h => .inl (.inr (.inl h))) .inr
  · by_cases hj : j < es.length
    · rw [List.getElem?_append_left hj] at hy
      exact .inl (.inr (.inr ⟨j, y, hy, hx⟩))
    · rw [List.getElem?_append_right (by omega)] at hy
      have hlt := (List.getElem?_eq_some_iff.1 hy).1
      simp only [List.length_singleton] at hlt
      rw [show j - es.length = 0 by omega] at hy
      obtain rfl := Option.some.inj hy
      rcases hx with hx | hx
      · exact .inr (by rw [hx]; exact hg)
      · cases hx
theorem s_statN (h : Sto E w0 W S q l V es) (k : Nat → BitVec 8) (hl : es.length ≤ 16) (hf : es.findIdx? (Be.is k) = none) : Calls Tryd.prog 17 #[.pointer (some ⟨S, 0, none⟩), .agg (arr8 32 k)] W fun r W' => r = .returned (.tuple #[.int .i64 0, .bool false, errV (E 13)]) ∧ Sto E w0 W' S q l V es ∧ Turn (stF S V es) W W' :=
  (statN E h.errs h.st hl k hf).mono fun _ _ ⟨a, b⟩ => ⟨a, h.below b, Turn.of_below b⟩
theorem s_putN (h : Sto E w0 W S q l V es) (k : Nat → BitVec 8) (off : Int) (A : Option Addr) (m cb : Nat) (hl : es.length ≤ 16) (hf : es.findIdx? (Be.is k) = none) : Calls Tryd.prog 14 #[.pointer (some ⟨S, 0, none⟩), .agg (arr8 32 k), .int .i64 off, .slice A m cb] W fun r W' => r = .returned (.tuple #[.int .i64 0, errV (E 13)]) ∧ Sto E w0 W' S q l V es ∧ Turn (stF S V es) W W' :=
  (putN E h.errs h.st hl k off A m cb hf).mono fun _ _ ⟨a, b⟩ => ⟨a, h.below b, Turn.of_below b⟩
theorem s_getN (h : Sto E w0 W S q l V es) (k : Nat → BitVec 8) (off n : Int) (hl : es.length ≤ 16) (hf : es.findIdx? (Be.is k) = none) : Calls Tryd.prog 15 #[.pointer (some ⟨S, 0, none⟩), .agg (arr8 32 k), .int .i64 off, .int .i64 n] W fun r W' => r = .returned (.tuple #[.slice none 0 0, errV (E 13)]) ∧ Sto E w0 W' S q l V es ∧ Turn (stF S V es) W W' :=
  (getN E h.errs h.st hl k off n hf).mono fun _ _ ⟨a, b⟩ => ⟨a, h.below b, Turn.of_below b⟩
theorem s_commitN (h : Sto E w0 W S q l V es) (k : Nat → BitVec 8) (hl : es.length ≤ 16) (hf : es.findIdx? (Be.is k) = none) : Calls Tryd.prog 16 #[.pointer (some ⟨S, 0, none⟩), .agg (arr8 32 k)] W fun r W' => r = .returned (errV (E 13)) ∧ Sto E w0 W' S q l V es ∧ Turn (stF S V es) W W' :=
  (commitN E h.errs h.st hl k hf).mono fun _ _ ⟨a, b⟩ => ⟨a, h.below b, Turn.of_below b⟩
theorem s_stat (h : Sto E w0 W S q l V es) (k : Nat → BitVec 8) (hl : es.length ≤ 16) {i : Nat} {e : Be} (hf : es.findIdx? (Be.is k) = some i) (hi : es[i]? = some e) : Calls Tryd.prog 17 #[.pointer (some ⟨S, 0, none⟩), .agg (arr8 32 k)] W fun r W' => r = .returned (.tuple #[.int .i64 e.bs.length, .bool e.done, .nilIface]) ∧ Sto E w0 W' S q l V (es.set i e.used) ∧ Turn (stF S V es) W W' :=
  (stat_some h.st hl k hf hi).mono fun _ _ ⟨a, b, c⟩ => ⟨a, h.used hi b c, c.mono (stF_at hi)⟩
theorem s_putE (h : Sto E w0 W S q l V es) (k : Nat → BitVec 8) (off : Int) (A : Option Addr) (m cb : Nat) (hl : es.length ≤ 16) {i : Nat} {e : Be} (hf : es.findIdx? (Be.is k) = some i) (hi : es[i]? = some e) (hd : e.done = false) (hen : 0 ≤ e.n ∧ e.n ≤ 30000) (hbn : (e.bs.length : Int) ≤ e.n)
    (ho : off < 0 ∨ (e.bs.length : Int) < off ∨ e.n < off + m) : Calls Tryd.prog 14 #[.pointer (some ⟨S, 0, none⟩), .agg (arr8 32 k), .int .i64 off, .slice A m cb] W fun r W' => r = .returned (.tuple #[.int .i64 0, errV (E 1)]) ∧ Sto E w0 W' S q l V (es.set i e.used) ∧ Turn (stF S V es) W W' := by
  by_cases h1 : off < 0
  · exact (put_neg h.st hl k hf hi E h.errs (h.gne hi) hd off A m cb h1).mono fun _ _ ⟨a, b, c⟩ => ⟨a, h.used hi b c, c.mono (stF_at hi)⟩
  · by_cases h2 : (e.bs.length : Int) < off
    · exact (put_far h.st hl k hf hi E h.errs (h.gne hi) hd off A m cb (by omega) h2).mono fun _ _ ⟨a, b, c⟩ => ⟨a, h.used hi b c, c.mono (stF_at hi)⟩
    · exact (put_long h.st hl k hf hi E h.errs (h.gne hi) hd off A m cb (by omega) (by omega) (by omega) (by omega)).mono fun _ _ ⟨a, b, c⟩ => ⟨a, h.used hi b c, c.mono (stF_at hi)⟩
theorem s_putS (h : Sto E w0 W S q l V es) (k : Nat → BitVec 8) (off : Int) (A : Option Addr) (m cb : Nat) (hl : es.length ≤ 16) {i : Nat} {e : Be} (hf : es.findIdx? (Be.is k) = some i) (hi : es[i]? = some e) (hd : e.done = true) : Calls Tryd.prog 14 #[.pointer (some ⟨S, 0, none⟩), .agg (arr8 32 k), .int .i64 off, .slice A m cb] W fun r W' => r = .returned (.tuple #[.int .i64 0, errV (E 16)]) ∧ Sto E w0 W' S q l V (es.set i e.used) ∧ Turn (stF S V es) W W' :=
  (put_state h.st hl k hf hi E h.errs (h.gne hi) hd off A m cb).mono fun _ _ ⟨a, b, c⟩ => ⟨a, h.used hi b c, c.mono (stF_at hi)⟩
/-- the blob behind a Put -/
abbrev putB (e : Be) (D' : Value) (off : Nat) (ys : List Int) : Be := ⟨e.g, e.f, e.n, D', over e.bs off ys, false, 0⟩
theorem s_put (h : Sto E w0 W S q l V es) (k : Nat → BitVec 8) (A : Option Addr) (ys : List Int) (m cb off : Nat) (hm : ys.length = m) (hmc : m ≤ cb) (hA : SlRead W A (ints .u8 ys)) (hAb : ∀ b o, A = some ⟨b, o, none⟩ → ¬ stF S V es b) (hl : es.length ≤ 16) {i : Nat} {e : Be} (hf : es.findIdx? (Be.is k) = some i) (hi : es[i]? = some e) (hd : e.done = false)
    (hoff : off ≤ e.bs.length) (hfit : (off : Int) + m ≤ e.n) (hen : 0 ≤ e.n ∧ e.n ≤ 30000) (hbn : (e.bs.length : Int) ≤ e.n) : Calls Tryd.prog 14 #[.pointer (some ⟨S, 0, none⟩), .agg (arr8 32 k), .int .i64 (off : Int), .slice A m cb] W fun r W' => r = .returned (.tuple #[.int .i64 ((over e.bs off ys).length : Int), .nilIface]) ∧ ∃ D', Sto E w0 W' S q l V (es.set i (putB e D' off ys)) ∧ Turn (stF S V es) W W' ∧ (∀ x, D'.ownBlock = some x → e.D.ownBlock = some x ∨ W.heap.size ≤ x) := by
  refine (put_ok h.st hl k hf hi hd A ys m cb off hm hmc hA (fun b o e1 => ⟨fun y => hAb b o e1 (.inr (.inr ⟨i, e, hi, .inl y⟩)), fun y => hAb b o e1 (.inr (.inr ⟨i, e, hi, .inr y⟩))⟩) hoff hfit hen hbn).mono ?_
  rintro r W' ⟨a, D', b, c, d⟩
  have hG : ∀ x, (x = e.g ∨ e.D.ownBlock = some x) → stF S V es x := fun x hx => .inr (.inr ⟨i, e, hi, hx⟩)
  exact ⟨a, D', h.step b c hG (stF_set (e' := putB e D' off ys) hi rfl d), c.mono hG, d⟩
theorem s_used (h : Sto E w0 W S q l V es) (hl : es.length ≤ 16) (hF : Few es) : Calls Tryd.prog 20 #[.pointer (some ⟨S, 0, none⟩)] W fun r W' => r = .returned (.int .i64 (sumN es)) ∧ W' = W := used_b h.st hl hF
end
end Go.Proofs.YtegijahkiopncaaDoor
