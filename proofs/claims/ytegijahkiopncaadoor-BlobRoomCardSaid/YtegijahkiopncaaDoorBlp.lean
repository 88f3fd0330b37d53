import Derived.Test.YtegijahkiopncaaDoorBlo
import Derived.Test.YtegijahkiopncaaDoorSkw
/-
  courierlaw20: BlobRoom.
-/
namespace Go.Proofs.YtegijahkiopncaaDoor
open Go.RowKit
def k3 : Nat → BitVec 8 := fun i => if i = 0 then 3#8 else 0#8
theorem mul_i (t : TypeId) (x y : Operand) (a b c : Int) (h : a * b = c) (h1 : -9223372036854775808 ≤ c) (h2 : c ≤ 9223372036854775807) (w : World) : (do eqGuard .mul t x y (.int .i64 a) (.int .i64 b); binOp .mul t (.int .i64 a) (.int .i64 b) : Sem Value).run Tryd.prog w = .ok (.int .i64 c) w := by
  have hw : IntKind.i64.wrap (a * b) = c := by rw [h]; exact IntWalk.i64_in _ (by omega)
  simp [eqGuard, binOp, Op.intArith, hw]
theorem add_e (t : TypeId) (x y : Operand) (a b c : Int) (h : a + b = c) (h1 : -9223372036854775808 ≤ c) (h2 : c ≤ 9223372036854775807) (w : World) : (do eqGuard .add t x y (.int .i64 a) (.int .i64 b); binOp .add t (.int .i64 a) (.int .i64 b) : Sem Value).run Tryd.prog w = .ok (.int .i64 c) w := by
  subst h
  exact add_i t x y a b h1 h2 w
theorem neq_i (t : TypeId) (x y : Operand) (a : Int) (w : World) : (do eqGuard .neq t x y (.int .i64 a) (.int .i64 a); binOp .neq t (.int .i64 a) (.int .i64 a) : Sem Value).run Tryd.prog w = .ok (.bool false) w := by
  simp [eqGuard, binOp, Op.intCmp]
theorem len_l (ty : TypeId) (A : Option Addr) (c : Nat) (w : World) : (Builtin.len_ #[48] ty #[.slice A 1 c]).run Tryd.prog w = .ok (.int .i64 1) w := by
  simp [Builtin.len_]
  rfl
theorem idx_l (r c : Nat) (w : World) : (Instr.indexAt 48 (.slice (some ⟨r, 0, none⟩) 1 c) (.int .i64 0)).run Tryd.prog w = .ok (.pointer (some ⟨r, 0, none⟩)) w := by
  have hu := Tryd.underlying48
  have e2 : Tryd.prog.elem 48 = 26 := by simp [Program.elem, hu]
  rw [run_indexAt_slice (h := by rw [e2]; exact hu), if_pos (by omega)]
  obtain ⟨i, hi, hz⟩ := Option.map_eq_some_iff.1 (show (Tryd.prog.info? 26).map (·.size) = some 32 by kernel_rfl)
  simp [e2, sizeOf, typeInfo, hi, hz, Result.andThen]
  rfl
theorem sum_all {z : Int} : ∀ (es : List Be), (∀ (j : Nat) (e : Be), es[j]? = some e → e.n = z) → sumN es = (es.length : Int) * z
  | [], _ => by simp [sumN]
  | e :: r, h => by
    have h1 := sum_all r (fun j x hx => h (j + 1) x (by simpa using hx))
    have h2 := h 0 e rfl
    have e3 : sumN (e :: r) = e.n + sumN r := by simp [sumN]
    rw [e3, h1, h2, List.length_cons, show ((r.length + 1 : Nat) : Int) = (r.length : Int) + 1 by omega, Int.add_mul]
    omega
theorem find_none {es : List Be} {k : Nat → BitVec 8} (h : ∀ (j : Nat) (e : Be), es[j]? = some e → Be.is k e = false) : es.findIdx? (Be.is k) = none := by
  rw [List.findIdx?_eq_none_iff]
  intro e he
  obtain ⟨j, hj⟩ := List.getElem?_of_mem he
  exact h j e hj
theorem find_at {es : List Be} {k : Nat → BitVec 8} {i : Nat} {e : Be} (h : es[i]? = some e) (hp : Be.is k e = true) (hn : ∀ (j : Nat) (e' : Be), j < i → es[j]? = some e' → Be.is k e' = false) : es.findIdx? (Be.is k) = some i := by
  have hi := (List.getElem?_eq_some_iff.1 h).1
  rw [List.findIdx?_eq_some_iff_getElem]
  refine ⟨hi, ?_, fun j hj => ?_⟩
  · have := (List.getElem?_eq_some_iff.1 h).2
    rw [this]; exact hp
  · have hj' : j < es.length := by omega
    have := hn j es[j] hj (List.getElem?_eq_getElem hj')
    simp [this]
theorem is_kf {a b : Nat} {e : Be} (he : e.f = kf (a : Int)) (ha : a < 256) (hb : b < 256) (h : a ≠ b) : Be.is (kf (b : Int)) e = false := by
  unfold Be.is
  rw [he]
  exact idl_ne (i := 0) (by decide) (kf_ne (by omega) (by omega) (by omega))
theorem few_two {a b : Be} (h : 0 ≤ a.n ∧ a.n ≤ 30000) (h2 : 0 ≤ b.n ∧ b.n ≤ 30000) : Few [a, b] := ⟨by simp, fun i x hx => by
  rcases i with _ | _ | i
  · obtain rfl := Option.some.inj hx; exact h
  · obtain rfl := Option.some.inj hx; exact h2
  · simp at hx⟩
theorem few_three {a b c : Be} (h : 0 ≤ a.n ∧ a.n ≤ 30000) (h2 : 0 ≤ b.n ∧ b.n ≤ 30000) (h3 : 0 ≤ c.n ∧ c.n ≤ 30000) : Few [a, b, c] := ⟨by simp, fun i x hx => by
  rcases i with _ | _ | _ | i
  · obtain rfl := Option.some.inj hx; exact h
  · obtain rfl := Option.some.inj hx; exact h2
  · obtain rfl := Option.some.inj hx; exact h3
  · simp at hx⟩
theorem sum_two (a b : Be) : sumN [a, b] = a.n + b.n := by simp [sumN]
theorem sum_three (a b c : Be) : sumN [a, b, c] = a.n + b.n + c.n := by simp [sumN]; omega
theorem find_two {a b : Be} {k : Nat → BitVec 8} (h : Be.is k a = false) (h2 : Be.is k b = false) : [a, b].findIdx? (Be.is k) = none := by simp [List.findIdx?_cons, h, h2]
/-- one alone stays -/
theorem filter_one {es : List Be} {p : Be → Bool} {M : Nat} {e : Be} (h : es[M]? = some e) (hp : p e = true) (hn : ∀ (j : Nat) (x : Be), j ≠ M → es[j]? = some x → p x = false) : es.filter p = [e] := by
  have hM := (List.getElem?_eq_some_iff.1 h).1
  have e1 : es = es.take M ++ e :: es.drop (M + 1) := by
    have h2 := (List.getElem?_eq_some_iff.1 h).2
    rw [← h2, ← List.drop_eq_getElem_cons hM, List.take_append_drop]
  have f1 : (es.take M).filter p = [] := by
    rw [List.filter_eq_nil_iff]
    intro x hx
    obtain ⟨j, hj⟩ := List.getElem?_of_mem hx
    rw [List.getElem?_take] at hj
    split at hj
    · simp [hn j x (by omega) hj]
    · cases hj
  have f2 : (es.drop (M + 1)).filter p = [] := by
    rw [List.filter_eq_nil_iff]
    intro x hx
    obtain ⟨j, hj⟩ := List.getElem?_of_mem hx
    rw [List.getElem?_drop] at hj
    simp [hn (M + 1 + j) x (by omega) hj]
  rw [e1, List.filter_append, f1, List.filter_cons, if_pos hp, f2]
  rfl
/-- the blobs while they are opened -/
structure RoomA (es : List Be) (kk : Nat) (z : Int) : Prop where
  len : es.length = kk
  at' : ∀ (j : Nat) (e : Be), es[j]? = some e → e.f = kf (j : Int) ∧ e.n = z ∧ e.idle = 0
theorem RoomA.few {es : List Be} {kk : Nat} {z : Int} (h : RoomA es kk z) (hk : kk ≤ 16) (hz : 0 ≤ z ∧ z ≤ 30000) : Few es := ⟨by rw [h.len]; exact hk, fun i e he => by rw [(h.at' i e he).2.1]; exact hz⟩
theorem RoomA.sum {es : List Be} {kk : Nat} {z : Int} (h : RoomA es kk z) : sumN es = (kk : Int) * z := by rw [sum_all es (fun j e he => (h.at' j e he).2.1), h.len]
theorem RoomA.none {es : List Be} {kk : Nat} {z : Int} (h : RoomA es kk z) {b : Nat} (hb : b < 256) (hk : kk ≤ b) : es.findIdx? (Be.is (kf (b : Int))) = none :=
  find_none fun j e he => is_kf (h.at' j e he).1 (by have := (List.getElem?_eq_some_iff.1 he).1; rw [h.len] at this; omega) hb (by have := (List.getElem?_eq_some_iff.1 he).1; rw [h.len] at this; omega)
theorem RoomA.push {es : List Be} {kk : Nat} {z : Int} (h : RoomA es kk z) (g : Nat) : RoomA (es ++ [newB g (kf (kk : Int)) z]) (kk + 1) z := by
  refine ⟨by simp [h.len], fun j e he => ?_⟩
  by_cases hj : j < es.length
  · rw [List.getElem?_append_left hj] at he
    exact h.at' j e he
  · rw [List.getElem?_append_right (by omega)] at he
    have hlt := (List.getElem?_eq_some_iff.1 he).1
    simp only [List.length_singleton] at hlt
    have hjk : j = kk := by have := h.len; omega
    rw [show j - es.length = 0 by omega] at he
    obtain rfl := Option.some.inj he
    subst hjk
    exact ⟨rfl, rfl, rfl⟩
/-- .. and while time goes by -/
structure RoomB (es : List Be) (i M : Nat) (z : Int) : Prop where
  len : es.length = 16
  at' : ∀ (j : Nat) (e : Be), es[j]? = some e → e.f = kf (j : Int) ∧ e.n = z ∧ e.idle = if j = M then 0 else (i : Int) - 1
theorem RoomB.bound {es : List Be} {i M : Nat} {z : Int} (h : RoomB es i M z) (hi : 1 ≤ i ∧ i ≤ 100) (j : Nat) (e : Be) (he : es[j]? = some e) : 0 ≤ e.idle ∧ e.idle ≤ 1000 := by
  rw [(h.at' j e he).2.2]
  split <;> omega
theorem RoomB.all {es : List Be} {i M : Nat} {z l : Int} (h : RoomB es i M z) (hi : 1 ≤ i) (hl : (i : Int) < l) : ticked es l = es.map Be.tick := by
  unfold ticked
  rw [List.filter_eq_self.2]
  intro e he
  obtain ⟨j, hj⟩ := List.getElem?_of_mem he
  have := (h.at' j e hj).2.2
  unfold Be.stays Be.gone
  rw [this]
  simp
  split <;> omega
theorem RoomB.find {es : List Be} {i M : Nat} {z : Int} (h : RoomB es i M z) (hM : M < 16) : ∃ e, (es.map Be.tick)[M]? = some e ∧ (es.map Be.tick).findIdx? (Be.is (kf (M : Int))) = some M := by
  have hlt : M < (es.map Be.tick).length := by rw [List.length_map, h.len]; exact hM
  have hf : ∀ (j : Nat) (e : Be), (es.map Be.tick)[j]? = some e → e.f = kf (j : Int) := by
    intro j e he
    rw [List.getElem?_map] at he
    obtain ⟨x, hx, rfl⟩ := Option.map_eq_some_iff.1 he
    exact (h.at' j x hx).1
  have h1 : (es.map Be.tick)[M]? = some (es.map Be.tick)[M] := List.getElem?_eq_getElem hlt
  refine ⟨_, h1, find_at h1 (by unfold Be.is; rw [hf M _ h1]; simp) fun j e hj he => is_kf (hf j e he) (by omega) (by omega) (by omega)⟩
theorem RoomB.next {es : List Be} {i M : Nat} {z : Int} (h : RoomB es i M z) {e : Be} (he : (es.map Be.tick)[M]? = some e) : RoomB ((es.map Be.tick).set M e.used) (i + 1) M z := by
  refine ⟨by simp [h.len], fun j x hx => ?_⟩
  rw [List.getElem?_set] at hx
  by_cases hj : M = j
  · subst hj
    rw [if_pos rfl, if_pos (List.getElem?_eq_some_iff.1 he).1] at hx
    obtain rfl := Option.some.inj hx
    rw [List.getElem?_map] at he
    obtain ⟨y, hy, rfl⟩ := Option.map_eq_some_iff.1 he
    obtain ⟨a, b, _⟩ := h.at' M y hy
    exact ⟨a, b, by rw [if_pos rfl]; rfl⟩
  · rw [if_neg hj, List.getElem?_map] at hx
    obtain ⟨y, hy, rfl⟩ := Option.map_eq_some_iff.1 hx
    obtain ⟨a, b, c⟩ := h.at' j y hy
    refine ⟨a, b, ?_⟩
    rw [if_neg (fun q => hj q.symm)] at c ⊢
    show y.idle + 1 = _
    omega
theorem RoomB.last {es : List Be} {i M : Nat} {z : Int} (h : RoomB es i M z) (hM : M < 16) (hi : 2 ≤ i) : ∃ e, ticked es (i : Int) = [e] ∧ e.f = kf (M : Int) ∧ e.n = z := by
  have hlt : M < es.length := by rw [h.len]; exact hM
  have h1 : es[M]? = some es[M] := List.getElem?_eq_getElem hlt
  obtain ⟨a, b, c⟩ := h.at' M _ h1
  refine ⟨es[M].tick, ?_, a, b⟩
  unfold ticked
  rw [filter_one h1 (by unfold Be.stays Be.gone; rw [c]; simp; omega) fun j x hj hx => by
    have := (h.at' j x hx).2.2
    rw [if_neg hj] at this
    unfold Be.stays Be.gone
    rw [this]
    simp]
  rfl
section
variable {E : Nat → Addr} {w0 W : World} {S : Nat} {q l : Int} {V : Value} {es : List Be}
theorem used_z (h : Sto E w0 W S q l V es) (hl : es.length ≤ 16) (hF : Few es) {z : Int} (hs : sumN es = z) : Calls Tryd.prog 20 #[.pointer (some ⟨S, 0, none⟩)] W fun r W' => r = .returned (.int .i64 z) ∧ W' = W := by
  have := s_used h hl hF
  rwa [hs] at this
/-- another store beside one -/
theorem s_new2 (h : Sto E w0 W S q l V es) {q2 l2 : Int} (h1 : 1 ≤ l2) : Calls Tryd.prog 11 #[.int .i64 q2, .int .i64 l2] W fun r W' => r = .returned (.pointer (some ⟨W.heap.size, 0, none⟩)) ∧ Sto E w0 W' W.heap.size q2 l2 (.slice none 0 0) [] ∧ Sto E w0 W' S q l V es := by
  refine (new_b q2 l2 h1 W).mono ?_
  rintro r W' ⟨a, b, c⟩
  have h2 := Sto.new h.errs b c
  refine ⟨a, ⟨h.er, h.be.trans (c.mono h.be.size), h2.st, fun k hk => Nat.le_trans h.be.size (h2.lo k hk)⟩, h.below c⟩
theorem stF_push {V' : Value} {g n : Nat} {k : Nat → BitVec 8} {z : Int} (hg : n ≤ g) (hV : ∀ x, V'.ownBlock = some x → V.ownBlock = some x ∨ n ≤ x) (x : Nat) (hx : stF S V' (es ++ [newB g k z]) x) : stF S V es x ∨ n ≤ x := by
  rcases hx with hx | hx | ⟨j, y, hy, hx⟩
  · exact .inl (.inl hx)
  · exact (hV x hx).elim (fun h => .inl (.inr (.inl h))) .inr
  · by_cases hj : j < es.length
    · rw [List.getElem?_append_left hj] at hy
      exact .inl (.inr (.inr ⟨j, y, hy, hx⟩))
    · rw [List.getElem?_append_right (by omega)] at hy
      have hlt := (List.getElem?_eq_some_iff.1 hy).1
      simp only [List.length_singleton] at hlt
      rw [show j - es.length = 0 by omega] at hy
      obtain rfl := Option.some.inj hy
      rcases hx with hx | hx
      · exact .inr (by rw [hx]; exact hg)
      · cases hx
/-- a store whose blocks another one's step didn't turn -/
theorem Sto.apart (h : Sto E w0 W S q l V es) {W' : World} {G : Nat → Prop} (ht : Turn G W W') (hb : Below w0.heap.size w0 W') (hG : ∀ k, stF S V es k → ¬ G k) : Sto E w0 W' S q l V es := h.keep hb fun k hk => ht.block k (h.st.lt hk) (hG k hk)
/-- two stores: the second one's blocks, itself apart, are newer -/
structure Pair (S : Nat) (V : Value) (es : List Be) (T : Nat) (U : Value) (fs : List Be) (m : Nat) : Prop where
  lt : ∀ k, stF S V es k → k < m
  ge : ∀ k, stF T U fs k → k = T ∨ m ≤ k
  ne : ¬ stF S V es T
theorem Pair.not {T : Nat} {U : Value} {fs : List Be} {m : Nat} (h : Pair S V es T U fs m) (k : Nat) (hk : stF S V es k) : ¬ stF T U fs k := fun hx => by
  have h1 := h.lt k hk
  rcases h.ge k hx with rfl | h2
  · exact h.ne hk
  · omega
theorem Pair.push {T : Nat} {U U' : Value} {fs : List Be} {m n g : Nat} {k : Nat → BitVec 8} {z : Int} (h : Pair S V es T U fs m) (hmn : m ≤ n) (hg : n ≤ g) (hV : ∀ x, U'.ownBlock = some x → U.ownBlock = some x ∨ n ≤ x) : Pair S V es T U' (fs ++ [newB g k z]) m :=
  ⟨h.lt, fun x hx => (stF_push hg hV x hx).elim (h.ge x) (fun h2 => .inr (Nat.le_trans hmn h2)), h.ne⟩
end
/-- what the last region reads -/
def LeftP (r M : Nat) (W : World) : Prop := W.rangeAt r 0 (arr8 32 (kf (M : Int))).toList ∧ ∃ cs, W.heap[r]? = some (.cells cs 26 (0, 0))
theorem LeftP.keep {r M : Nat} {W W' : World} (h : LeftP r M W) (hk : W'.heap[r]? = W.heap[r]?) : LeftP r M W' := by
  obtain ⟨h1, cs, h2⟩ := h
  exact ⟨fun j v hv => (World.cell?_of_block hk).trans (h1 j v hv), cs, hk.trans h2⟩
theorem LeftP.below {r M : Nat} {W W' : World} (h : LeftP r M W) (hb : Below W.heap.size W W') : LeftP r M W' := by
  obtain ⟨_, cs, h2⟩ := id h
  exact h.keep (hb.block r (lt_heap h2))
theorem LeftP.turn {r M : Nat} {W W' : World} {E : Nat → Addr} {w0 : World} {S : Nat} {q l : Int} {V : Value} {es : List Be} (h : LeftP r M W) (hs : Sto E w0 W S q l V es) (ht : Turn (stF S V es) W W') : LeftP r M W' := by
  obtain ⟨_, cs, h2⟩ := id h
  exact h.keep ((id_stays hs ht h2).trans h2.symm)
theorem is_first {e : Be} {k : Nat → BitVec 8} (h : e.f 0 ≠ k 0) : Be.is k e = false := idl_ne (i := 0) (by decide) h
section
variable {E : Nat → Addr} {w0 W : World} {S T : Nat} {q l q2 l2 z : Int} {V : Value} {es : List Be} {i M : Nat}
theorem not_T (h : Sto E w0 W S q l V es) (hT : Sto E w0 W T q2 l2 (.slice none 0 0) []) (hST : S ≠ T) : ¬ stF S V es T := by
  rintro (hx | hx | ⟨j, y, hy, hx | hx⟩)
  · exact hST hx.symm
  · obtain ⟨cur, hc⟩ := own_cells h.st.own hx
    exact ty_ne hT.st.st hc (by decide) rfl
  · exact ty_ne hT.st.st (h.st.ent j y hy) (by decide) hx
  · obtain ⟨cur, hc⟩ := own_cells (h.st.byt j y hy) hx
    exact ty_ne hT.st.st hc (by decide) rfl
theorem only_T (k : Nat) (hk : stF T (.slice none 0 0) [] k) : k = T := by
  rcases hk with rfl | hk | ⟨j, y, hy, _⟩
  · rfl
  · cases hk
  · simp at hy
theorem Pair.new (h : Sto E w0 W S q l V es) (hT : Sto E w0 W T q2 l2 (.slice none 0 0) []) (hST : S ≠ T) : Pair S V es T (.slice none 0 0) [] W.heap.size := ⟨fun _ hk => h.st.lt hk, fun k hk => .inl (only_T k hk), not_T h hT hST⟩
theorem room_tick (h : Sto E w0 W S q l V es) (hr : RoomB es i M z) (hi : 1 ≤ i ∧ i ≤ 100) (hl : (i : Int) < l) : Calls Tryd.prog 21 #[.pointer (some ⟨S, 0, none⟩)] W fun r W' => r = .returned (.int .i64 0) ∧ ∃ V', Sto E w0 W' S q l V' (es.map Be.tick) := by
  refine (s_tick h (by rw [hr.len]; exact Nat.le_refl _) (by rw [hr.len]; decide) (hr.bound hi)).mono ?_
  rw [hr.all hi.1 hl]
  rintro r W' ⟨rfl, V', h1, _⟩
  refine ⟨?_, V', h1⟩
  rw [List.length_map]
  simp
theorem room_stat (h : Sto E w0 W S q l V (es.map Be.tick)) (hr : RoomB es i M z) (hM : M < 16) : Calls Tryd.prog 17 #[.pointer (some ⟨S, 0, none⟩), .agg (arr8 32 (kf (M : Int)))] W fun r W' => ∃ (n : Nat) (b : Bool), r = .returned (.tuple #[.int .i64 (n : Int), .bool b, .nilIface]) ∧ ∃ fs, Sto E w0 W' S q l V fs ∧ RoomB fs (i + 1) M z := by
  obtain ⟨e, he, hf⟩ := hr.find hM
  refine (s_stat h (kf (M : Int)) (by rw [List.length_map, hr.len]; exact Nat.le_refl _) hf he).mono ?_
  rintro r W' ⟨rfl, h1, _⟩
  exact ⟨_, _, rfl, _, h1, hr.next he⟩
theorem room_last (h : Sto E w0 W S q (i : Int) V es) (hr : RoomB es i M z) (hM : M < 16) (hi : 2 ≤ i ∧ i ≤ 100) : Calls Tryd.prog 21 #[.pointer (some ⟨S, 0, none⟩)] W fun r W' => r = .returned (.int .i64 15) ∧ ∃ V' e, Sto E w0 W' S q (i : Int) V' [e] ∧ e.f = kf (M : Int) ∧ e.n = z := by
  obtain ⟨e, he, hf, hn⟩ := hr.last hM hi.1
  refine (s_tick h (by rw [hr.len]; exact Nat.le_refl _) (by rw [hr.len]; decide) (hr.bound (by omega))).mono ?_
  rw [he, hr.len]
  rintro r W' ⟨rfl, V', h1, _⟩
  exact ⟨rfl, V', e, h1, hf, hn⟩
theorem room_all {e : Be} (h : Sto E w0 W S q l V [e]) (hf : e.f = kf (M : Int)) : Calls Tryd.prog 22 #[.pointer (some ⟨S, 0, none⟩)] W fun r W' => ∃ b c, r = .returned (.slice (some ⟨b, 0, none⟩) 1 c) ∧ LeftP b M W' ∧ Sto E w0 W' S q l V [e] := by
  refine (s_all h (by simp)).mono ?_
  rintro r W' ⟨v, rfl, ho, hb⟩
  rcases id ho.2 with ⟨_, h0⟩ | ⟨g, c, cur, rfl, _, hg, _⟩
  · simp at h0
  · refine ⟨g, c, rfl, ⟨fun j v hv => ?_, cur, hg⟩, h.below hb⟩
    have h1 := ho.cells (g := g) rfl j v (by simpa [idsOf, hf] using hv)
    rw [Addr.add_lit] at h1
    exact h1
theorem RoomA.toB {es : List Be} {z : Int} (h : RoomA es 16 z) (M : Nat) : RoomB es 1 M z := ⟨h.len, fun j e he => by
  obtain ⟨a, b, c⟩ := h.at' j e he
  refine ⟨a, b, ?_⟩
  rw [c]
  split <;> rfl⟩
end

set_option maxRecDepth 100000 in
set_option maxHeartbeats 4000000 in
theorem room_walk (E : Nat → Addr) (n life named : Int) (w : World) (hE : ErrsAt E w) : Calls Tryd.prog 4 #[.int .i64 n, .int .i64 life, .int .i64 named] w fun e w' => e = .returned (.bool true) ∧ Below w.heap.size w w' := by
  have hfi := first_b E w hE
  have hnu := fun W => number_any n 90 W (by omega)
  have hmu := fun W => number_any life 10 W (by omega)
  obtain ⟨p, hp⟩ : ∃ p, p = n % 90 := ⟨_, rfl⟩
  obtain ⟨t, ht⟩ : ∃ t, t = life % 10 := ⟨_, rfl⟩
  have hp1 : 0 ≤ p ∧ p < 90 := by omega
  have ht1 : 0 ≤ t ∧ t < 10 := by omega
  rw [← hp] at hnu
  rw [← ht] at hmu
  obtain ⟨zN, hzN⟩ : ∃ z, z = p + 10 := ⟨_, rfl⟩
  obtain ⟨L, hL⟩ : ∃ z : Nat, (z : Int) = t + 2 := ⟨(t + 2).toNat, by omega⟩
  obtain ⟨zL, hzL⟩ : ∃ z, z = (L : Int) := ⟨_, rfl⟩
  obtain ⟨zQ, hzQ⟩ : ∃ z, z = 16 * zN := ⟨_, rfl⟩
  obtain ⟨z2, hz2⟩ : ∃ z, z = 2 * zN := ⟨_, rfl⟩
  obtain ⟨zT, hzT⟩ : ∃ z, z = z2 + 1 := ⟨_, rfl⟩
  have hw1 : wrap64 (p + 10) = zN := by rw [hzN]; unfold wrap64; omega
  have hw2 : wrap64 (t + 2) = zL := by rw [hzL, hL]; unfold wrap64; omega
  have hw3 : wrap64 (16 * zN) = zQ := by rw [hzQ]; unfold wrap64; omega
  have hw4 : wrap64 (2 * zN) = z2 := by rw [hz2]; unfold wrap64; omega
  have hw5 : wrap64 (z2 + 1) = zT := by rw [hzT]; unfold wrap64; omega
  have HQ := Lib.hid (And.intro hzQ (And.intro hz2 (And.intro hzT (And.intro (show 10 ≤ zN ∧ zN ≤ 100 by omega) (And.intro (show 2 ≤ L ∧ L ≤ 11 by omega) hzL)))))
  have HE := Lib.hid hE
  clear hE hp ht hp1 ht1 hzN hL hzL hzQ hz2 hzT
  go_enter Tryd.func4, Tryd.ntmps4
  go_upto_region 6 with (first | (go_at_call 8; refine hfi.mono ?_; rintro e w1 ⟨rfl, hb1⟩; have HB1 := Lib.hid hb1; clear hb1 hfi) | (go_at_call 10; refine (hnu _).mono ?_; rintro e w2 ⟨rfl, q2, rfl⟩; clear hnu) | (go_at_call 10; refine (hmu _).mono ?_; rintro e w3 ⟨rfl, q3, rfl⟩; clear hmu))
  have hbW : Below w.heap.size w (w1.drewN (q2 + q3)) := HB1.out.trans ((Below.drewNr (q2 + q3)).mono HB1.out.size)
  refine wp_world (fun W => Below w.heap.size w W) hbW ?_
  clear hbW HB1
  intro W1 hb1
  have HB1 := Lib.hid hb1
  have hE1 := HE.out.below hb1
  have hnew := Lib.hid (s_new (q := zQ) (l := zL) hE1 (by have := HQ.out; omega))
  obtain ⟨S, hSe⟩ : ∃ S, S = W1.heap.size := ⟨_, rfl⟩
  rw [← hSe] at hnew
  clear hSe hE1 hb1
  go_upto_region 7 with (go_at_call 11; refine hnew.out.mono ?_; rintro r W2 ⟨rfl, hS⟩; clear hnew)
  have hnew := Lib.hid (s_new2 hS (q2 := zT) (l2 := zL) (by have := HQ.out; omega))
  have hST : S ≠ W2.heap.size := fun e => by have := hS.st.lt (k := S) (.inl rfl); omega
  obtain ⟨T, hTe⟩ : ∃ S, S = W2.heap.size := ⟨_, rfl⟩
  rw [← hTe] at hnew hST
  clear hTe
  go_upto_region 11 with (go_at_call 11; refine hnew.out.mono ?_; rintro r W3 ⟨rfl, hT, hS3⟩; clear hnew hS; have hS := hS3; clear hS3)
  have HI := Lib.hid (And.intro hS hT)
  clear hS hT hw1 hw2
  go_loopg [10] 16 (fun gg s10 wr => ∃ kk : Nat, kk ≤ 16 ∧ 16 - kk ≤ gg ∧ s10 = .int .i64 (kk : Int) ∧ ∃ V es, Hid (Sto E W1 wr S zQ zL V es ∧ RoomA es kk zN ∧ Sto E W1 wr T zT zL (.slice none 0 0) []))
  case atStart => exact ⟨0, by omega, by omega, rfl, _, [], HI.out.1, ⟨rfl, fun j e he => by simp at he⟩, HI.out.2⟩
  clear HI
  case round =>
    obtain ⟨kk, hkk, hgg, rfl, V, es, hI⟩ := hrel
    by_cases hlt : kk < 16
    · have hk1 : (kk : Int) < 16 := by omega
      have hkey := keyf_any (kk : Int) wr
      have HX := Lib.hid (fun W (hb : Below wr.heap.size wr W) => s_ok (hI.out.1.below hb) (kf (kk : Int)) zN (by have := HQ.out; omega) (by have := HQ.out; omega) (by rw [hI.out.2.1.len]; exact hlt) (hI.out.2.1.few (by omega) (by have := HQ.out; omega)) (hI.out.2.1.none (by omega) (Nat.le_refl _)) (by
        have h1 := HQ.out
        rw [hI.out.2.1.sum, h1.1]
        have h2 : ((kk : Int) + 1) * zN ≤ 16 * zN := Int.mul_le_mul_of_nonneg_right (by omega) (by omega)
        rw [Int.add_mul] at h2
        omega))
      go_wp2_with (first | (go_at_call 19; refine hkey.mono ?_; rintro r Wk ⟨rfl, hbk⟩; have hcon := HX.out Wk hbk; have HBK := Lib.hid hbk; clear hkey hbk) | (go_at_call 12; refine hcon.mono ?_; rintro r Wo ⟨rfl, V', g, hg, hS2, ht, hv⟩; have HO := Lib.hid (And.intro hg (And.intro hS2 (And.intro ht hv))); clear hcon hg hS2 ht hv))
      go_roundg (16 - (kk + 1))
      case measure => omega
      case rel =>
        obtain ⟨hg, hS2, ht, hv⟩ := HO.out
        have hT1 := hI.out.2.2.below HBK.out
        exact ⟨kk + 1, by omega, by omega, by go_num, V', _, hS2, hI.out.2.1.push g, hT1.apart ht hS2.be fun k hk => by rw [only_T k hk]; exact not_T (hI.out.1.below HBK.out) hT1 hST⟩
    · have hk1 : ¬ (kk : Int) < 16 := by omega
      obtain rfl : kk = 16 := by omega
      have hkey := keyf_any 99 wr
      have HX := Lib.hid (fun W (hb : Below wr.heap.size wr W) => s_limit (hI.out.1.below hb) (kf 99) 1 (by omega) (by omega) hI.out.2.1.len (hI.out.2.1.none (b := 99) (by omega) (by omega)))
      go_upto_region 16 with (first | (go_at_call 19; refine hkey.mono ?_; rintro r Wk ⟨rfl, hbk⟩; have hcon := HX.out Wk hbk; have HBK := Lib.hid hbk; clear hkey hbk) | (go_at_call 12; refine hcon.mono ?_; rintro r Wo ⟨rfl, hS2, ht⟩; have HO := Lib.hid (And.intro hS2 ht); clear hcon hS2 ht))
      obtain ⟨hS0, hT0⟩ : Sto E W1 Wo S zQ zL V es ∧ Sto E W1 Wo T zT zL (.slice none 0 0) [] := by
        have hT1 := hI.out.2.2.below HBK.out
        exact ⟨HO.out.1, hT1.apart HO.out.2 HO.out.1.be fun k hk => by rw [only_T k hk]; exact not_T (hI.out.1.below HBK.out) hT1 hST⟩
      have hp := Pair.new hS0 hT0 hST
      have HA := hI.out.2.1
      have HR := Lib.hid HA
      have hm : Wo.heap.size ≤ Wo.heap.size := Nat.le_refl _
      obtain ⟨m, hme⟩ : ∃ m, m = Wo.heap.size := ⟨_, rfl⟩
      rw [← hme] at hp
      replace hm : m ≤ Wo.heap.size := by omega
      have HP := Lib.hid (And.intro hS0 (And.intro hT0 (And.intro hp hm)))
      clear hS0 hT0 hp hm hme HBK HO HX HA hI hgg hlt hkk
      have hcon := Lib.hid (s_ok HP.out.2.1 k1 zN (by have := HQ.out; omega) (by have := HQ.out; omega) (by simp) few_nil rfl (by have := HQ.out; rw [sum_nil]; omega))
      go_upto_region 17 with (first | (refine wpList_build rfl 26 _ rfl #[(0, .int .u8 1)] (by kernel_rfl) (.agg (arr8 32 k1)) (fun w => by kernel_rfl) ?_) | (go_at_call 12; refine hcon.out.mono ?_; rintro r Wa ⟨rfl, hq⟩; have HX := Lib.hid hq; clear hq))
      obtain ⟨hS, hT, hp, hm⟩ := HP.out
      obtain ⟨U1, g1, hg, hT2, ht, hv⟩ := HX.out
      have HP2 := Lib.hid (And.intro (hS.apart ht hT2.be hp.not) (And.intro (show Sto E W1 Wa T zT zL U1 [newB g1 k1 zN] from hT2) (And.intro (show Pair S V es T U1 [newB g1 k1 zN] m from Pair.push (g := g1) (k := k1) (z := zN) hp hm hg hv) (Nat.le_trans hm ht.size))))
      clear HP HX hcon hS hT hp hm hT2 ht hv hg
      have HP := HP2
      clear HP2
      have hcon := Lib.hid (s_ok HP.out.2.1 k2 zN (by have := HQ.out; omega) (by have := HQ.out; omega) (by simp) (few_one (by have := HQ.out; show 0 ≤ zN ∧ zN ≤ 30000; omega)) (find_no _ _ (is_first (by show k1 0 ≠ k2 0; decide))) (by have := HQ.out; rw [sum_one]; show zN + zN ≤ zT; omega))
      go_upto_region 18 with (first | (refine wpList_build rfl 26 _ rfl #[(0, .int .u8 2)] (by kernel_rfl) (.agg (arr8 32 k2)) (fun w => by kernel_rfl) ?_) | (go_at_call 12; refine hcon.out.mono ?_; rintro r Wb ⟨rfl, hq⟩; have HX := Lib.hid hq; clear hq))
      obtain ⟨hS, hT, hp, hm⟩ := HP.out
      obtain ⟨U2, g2, hg, hT2, ht, hv⟩ := HX.out
      have HP2 := Lib.hid (And.intro (hS.apart ht hT2.be hp.not) (And.intro (show Sto E W1 Wb T zT zL U2 [newB g1 k1 zN, newB g2 k2 zN] from hT2) (And.intro (show Pair S V es T U2 [newB g1 k1 zN, newB g2 k2 zN] m from Pair.push (g := g2) (k := k2) (z := zN) hp hm hg hv) (Nat.le_trans hm ht.size))))
      clear HP HX hcon hS hT hp hm hT2 ht hv hg
      have HP := HP2
      clear HP2
      have hcon := Lib.hid (s_full HP.out.2.1 k3 2 (by decide) (by decide) (by simp) (few_two (by have := HQ.out; show 0 ≤ zN ∧ zN ≤ 30000; omega) (by have := HQ.out; show 0 ≤ zN ∧ zN ≤ 30000; omega)) (find_two (is_first (by show k1 0 ≠ k3 0; decide)) (is_first (by show k2 0 ≠ k3 0; decide))) (by have := HQ.out; rw [sum_two]; show zT < zN + zN + 2; omega))
      go_upto_region 19 with (first | (refine wpList_build rfl 26 _ rfl #[(0, .int .u8 3)] (by kernel_rfl) (.agg (arr8 32 k3)) (fun w => by kernel_rfl) ?_) | (go_at_call 12; refine hcon.out.mono ?_; rintro r Wc ⟨rfl, hq⟩; have HX := Lib.hid hq; clear hq))
      obtain ⟨hS, hT, hp, hm⟩ := HP.out
      obtain ⟨hT2, ht⟩ := HX.out
      have HP2 := Lib.hid (And.intro (hS.apart ht hT2.be hp.not) (And.intro hT2 (And.intro hp (Nat.le_trans hm ht.size))))
      clear HP HX hcon hS hT hp hm hT2 ht
      have HP := HP2
      clear HP2
      have hcon := Lib.hid (s_ok HP.out.2.1 k3 1 (by decide) (by decide) (by simp) (few_two (by have := HQ.out; show 0 ≤ zN ∧ zN ≤ 30000; omega) (by have := HQ.out; show 0 ≤ zN ∧ zN ≤ 30000; omega)) (find_two (is_first (by show k1 0 ≠ k3 0; decide)) (is_first (by show k2 0 ≠ k3 0; decide))) (by have := HQ.out; rw [sum_two]; show zN + zN + 1 ≤ zT; omega))
      go_upto_region 20 with (first | (refine wpList_build rfl 26 _ rfl #[(0, .int .u8 3)] (by kernel_rfl) (.agg (arr8 32 k3)) (fun w => by kernel_rfl) ?_) | (go_at_call 12; refine hcon.out.mono ?_; rintro r Wd ⟨rfl, hq⟩; have HX := Lib.hid hq; clear hq))
      obtain ⟨hS, hT, hp, hm⟩ := HP.out
      obtain ⟨U4, g4, hg, hT2, ht, hv⟩ := HX.out
      have HP2 := Lib.hid (And.intro (hS.apart ht hT2.be hp.not) (And.intro (show Sto E W1 Wd T zT zL U4 [newB g1 k1 zN, newB g2 k2 zN, newB g4 k3 1] from hT2) (And.intro (show Pair S V es T U4 [newB g1 k1 zN, newB g2 k2 zN, newB g4 k3 1] m from Pair.push (g := g4) (k := k3) (z := 1) hp hm hg hv) (Nat.le_trans hm ht.size))))
      clear HP HX hcon hS hT hp hm hT2 ht hv hg
      have HP := HP2
      clear HP2
      obtain ⟨hS, hT, _, _⟩ := HP.out
      have hz := HQ.out
      have hFew := HR.out.few (Nat.le_refl _) (by omega)
      have hSum : sumN es = zQ := by rw [HR.out.sum, hz.1]; rfl
      have hFewT : Few [newB g1 k1 zN, newB g2 k2 zN, newB g4 k3 1] := few_three (by show 0 ≤ zN ∧ zN ≤ 30000; omega) (by show 0 ≤ zN ∧ zN ≤ 30000; omega) (by show (0 : Int) ≤ 1 ∧ (1 : Int) ≤ 30000; omega)
      have hSumT : sumN [newB g1 k1 zN, newB g2 k2 zN, newB g4 k3 1] = zT := by rw [sum_three]; show zN + zN + 1 = zT; omega
      have hlen16 : es.length ≤ 16 := by rw [HR.out.len]; exact Nat.le_refl _
      clear HP
      refine wp_region_lit ?_
      try simp only [put_list, List.set_cons_zero, List.set_cons_succ]
      refine wpList_run (by kernel_rfl) (errV (E 17)) (Wd) (exec_move rfl (by kernel_rfl)) ?_
      refine wpList_call (by kernel_rfl) 13 #[Go.Operand.tmp 73, Go.Operand.const (Go.Value.int Go.IntKind.i64 118)] #[33, 3] #[errV (E 17), Go.Value.int Go.IntKind.i64 118] _ rfl (by kernel_rfl) (by kernel_rfl) (is_yes E 17 (by decide) Wd hS.errs) ?_
      rintro r We ⟨rfl, hb⟩
      have hS2 := hS.below hb
      have hT2 := hT.below hb
      clear hS hT hb
      have hS := hS2
      have hT := hT2
      clear hS2 hT2
      refine ⟨_, rfl, ?_⟩
      try simp only [put_list, List.set_cons_zero, List.set_cons_succ]
      refine wpList_run (by kernel_rfl) (.bool false) (We) (exec_un (vx := .bool true) rfl (by kernel_rfl) (by kernel_rfl)) ?_
      try simp only [put_list, List.set_cons_zero, List.set_cons_succ]
      refine wpList_run (by kernel_rfl) (.bool false) (We) (exec_move rfl (by kernel_rfl)) ?_
      try simp only [put_list, List.set_cons_zero, List.set_cons_succ]
      refine wpList_runG (by kernel_rfl) (.nilIface) (We) (exec_move rfl (by kernel_rfl)) ?_
      try simp only [put_list, List.set_cons_zero, List.set_cons_succ]
      refine wpList_runG (by kernel_rfl) (.bool false) (We) (exec_bin (vx := .nilIface) (vy := Go.Value.nilIface) rfl (by kernel_rfl) (by kernel_rfl)) ?_
      try simp only [put_list, List.set_cons_zero, List.set_cons_succ]
      refine wpList_run (by kernel_rfl) (.bool false) (We) (exec_pick (b := false) rfl (by kernel_rfl) (by kernel_rfl)) ?_
      try simp only [put_list, List.set_cons_zero, List.set_cons_succ]
      refine wpList_run (by kernel_rfl) (.bool false) (We) (exec_move rfl (by kernel_rfl)) ?_
      try simp only [put_list, List.set_cons_zero, List.set_cons_succ]
      refine wpList_runG (by kernel_rfl) (.nilIface) (We) (exec_move rfl (by kernel_rfl)) ?_
      try simp only [put_list, List.set_cons_zero, List.set_cons_succ]
      refine wpList_runG (by kernel_rfl) (.bool false) (We) (exec_bin (vx := .nilIface) (vy := Go.Value.nilIface) rfl (by kernel_rfl) (by kernel_rfl)) ?_
      try simp only [put_list, List.set_cons_zero, List.set_cons_succ]
      refine wpList_run (by kernel_rfl) (.bool false) (We) (exec_pick (b := false) rfl (by kernel_rfl) (by kernel_rfl)) ?_
      try simp only [put_list, List.set_cons_zero, List.set_cons_succ]
      refine wpList_run (by kernel_rfl) (.bool false) (We) (exec_move rfl (by kernel_rfl)) ?_
      try simp only [put_list, List.set_cons_zero, List.set_cons_succ]
      refine wpList_runG (by kernel_rfl) (errV (E 6)) (We) (exec_move rfl (by kernel_rfl)) ?_
      refine wpList_call (by kernel_rfl) 13 #[Go.Operand.tmp 85, Go.Operand.const (Go.Value.int Go.IntKind.i64 107)] #[33, 3] #[errV (E 6), Go.Value.int Go.IntKind.i64 107] _ rfl (by kernel_rfl) (by kernel_rfl) (is_yes E 6 (by decide) We hS.errs) ?_
      rintro r Wf ⟨rfl, hb⟩
      have hS2 := hS.below hb
      have hT2 := hT.below hb
      clear hS hT hb
      have hS := hS2
      have hT := hT2
      clear hS2 hT2
      refine ⟨_, rfl, ?_⟩
      try simp only [put_list, List.set_cons_zero, List.set_cons_succ]
      refine wpList_runG (by kernel_rfl) (.bool false) (Wf) (exec_un (vx := .bool true) rfl (by kernel_rfl) (by kernel_rfl)) ?_
      try simp only [put_list, List.set_cons_zero, List.set_cons_succ]
      refine wpList_run (by kernel_rfl) (.bool false) (Wf) (exec_pick (b := false) rfl (by kernel_rfl) (by kernel_rfl)) ?_
      try simp only [put_list, List.set_cons_zero, List.set_cons_succ]
      refine wpList_run (by kernel_rfl) (.bool false) (Wf) (exec_move rfl (by kernel_rfl)) ?_
      try simp only [put_list, List.set_cons_zero, List.set_cons_succ]
      refine wpList_runG (by kernel_rfl) (.nilIface) (Wf) (exec_move rfl (by kernel_rfl)) ?_
      try simp only [put_list, List.set_cons_zero, List.set_cons_succ]
      refine wpList_runG (by kernel_rfl) (.bool false) (Wf) (exec_bin (vx := .nilIface) (vy := Go.Value.nilIface) rfl (by kernel_rfl) (by kernel_rfl)) ?_
      try simp only [put_list, List.set_cons_zero, List.set_cons_succ]
      refine wpList_run (by kernel_rfl) (.bool false) (Wf) (exec_pick (b := false) rfl (by kernel_rfl) (by kernel_rfl)) ?_
      try simp only [put_list, List.set_cons_zero, List.set_cons_succ]
      refine wpList_run (by kernel_rfl) (.bool false) (Wf) (exec_move rfl (by kernel_rfl)) ?_
      try simp only [put_list, List.set_cons_zero, List.set_cons_succ]
      refine wpList_runG (by kernel_rfl) (.pointer (some ⟨S, 0, none⟩)) (Wf) (exec_move rfl (by kernel_rfl)) ?_
      refine wpList_call (by kernel_rfl) 20 #[Go.Operand.tmp 94] #[30] #[.pointer (some ⟨S, 0, none⟩)] _ rfl (by kernel_rfl) (by kernel_rfl) (used_z hS hlen16 hFew hSum) ?_
      rintro r Y ⟨rfl, hY⟩
      obtain rfl := hY.symm
      clear hY
      refine ⟨_, rfl, ?_⟩
      try simp only [put_list, List.set_cons_zero, List.set_cons_succ]
      refine wpList_runG (by kernel_rfl) (.int .i64 zN) (Wf) (exec_move rfl (by kernel_rfl)) ?_
      try simp only [put_list, List.set_cons_zero, List.set_cons_succ]
      refine wpList_runG (by kernel_rfl) (.int .i64 zQ) (Wf) (exec_bin (vx := Go.Value.int Go.IntKind.i64 16) (vy := .int .i64 zN) rfl (by kernel_rfl) (mul_i _ _ _ _ _ _ HQ.out.1.symm (by omega) (by omega) _)) ?_
      try simp only [put_list, List.set_cons_zero, List.set_cons_succ]
      refine wpList_runG (by kernel_rfl) (.bool false) (Wf) (exec_bin (vx := .int .i64 zQ) (vy := .int .i64 zQ) rfl (by kernel_rfl) (neq_i _ _ _ _ _)) ?_
      try simp only [put_list, List.set_cons_zero, List.set_cons_succ]
      refine wpList_run (by kernel_rfl) (.bool false) (Wf) (exec_pick (b := false) rfl (by kernel_rfl) (by kernel_rfl)) ?_
      try simp only [put_list, List.set_cons_zero, List.set_cons_succ]
      refine wpList_run (by kernel_rfl) (.bool false) (Wf) (exec_move rfl (by kernel_rfl)) ?_
      try simp only [put_list, List.set_cons_zero, List.set_cons_succ]
      refine wpList_runG (by kernel_rfl) (.pointer (some ⟨T, 0, none⟩)) (Wf) (exec_move rfl (by kernel_rfl)) ?_
      refine wpList_call (by kernel_rfl) 20 #[Go.Operand.tmp 101] #[30] #[.pointer (some ⟨T, 0, none⟩)] _ rfl (by kernel_rfl) (by kernel_rfl) (used_z hT (by simp) hFewT hSumT) ?_
      rintro r Y ⟨rfl, hY⟩
      obtain rfl := hY.symm
      clear hY
      refine ⟨_, rfl, ?_⟩
      try simp only [put_list, List.set_cons_zero, List.set_cons_succ]
      refine wpList_runG (by kernel_rfl) (.int .i64 zN) (Wf) (exec_move rfl (by kernel_rfl)) ?_
      try simp only [put_list, List.set_cons_zero, List.set_cons_succ]
      refine wpList_runG (by kernel_rfl) (.int .i64 z2) (Wf) (exec_bin (vx := Go.Value.int Go.IntKind.i64 2) (vy := .int .i64 zN) rfl (by kernel_rfl) (mul_i _ _ _ _ _ _ HQ.out.2.1.symm (by omega) (by omega) _)) ?_
      try simp only [put_list, List.set_cons_zero, List.set_cons_succ]
      refine wpList_runG (by kernel_rfl) (.int .i64 zT) (Wf) (exec_bin (vx := .int .i64 z2) (vy := Go.Value.int Go.IntKind.i64 1) rfl (by kernel_rfl) (add_e _ _ _ _ _ _ (by omega) (by omega) (by omega) _)) ?_
      try simp only [put_list, List.set_cons_zero, List.set_cons_succ]
      refine wpList_runG (by kernel_rfl) (.bool false) (Wf) (exec_bin (vx := .int .i64 zT) (vy := .int .i64 zT) rfl (by kernel_rfl) (neq_i _ _ _ _ _)) ?_
      try simp only [put_list, List.set_cons_zero, List.set_cons_succ]
      refine wpList_run (by kernel_rfl) (.bool false) (Wf) (exec_pick (b := false) rfl (by kernel_rfl) (by kernel_rfl)) ?_
      refine wpList_nil ?_
      simp only [put_list, List.set_cons_zero, List.set_cons_succ]
      have HS := Lib.hid hS
      clear hS hT hFew hSum hFewT hSumT hlen16
      obtain ⟨M, hM, hM16⟩ := exists_mod named 16 (by omega)
      have hnm := fun W => number_nat named 16 M W (by omega) hM
      have HM := Lib.hid (show M < 16 by omega)
      clear hM hM16 hz
      go_upto_region 24 with (go_at_call 10; refine (hnm _).mono ?_; rintro r Wg ⟨rfl, qg, rfl⟩; clear hnm)
      have HI := Lib.hid (And.intro (HS.out.drewN qg) (HR.out.toB M))
      clear HS HR
      generalize Wf.drewN qg = Wg at *
      go_loopg [16] L (fun gg s16 wr => ∃ i : Nat, 1 ≤ i ∧ i ≤ L ∧ L - i ≤ gg ∧ s16 = .int .i64 (i : Int) ∧ ∃ V es, Hid (Sto E W1 wr S zQ zL V es ∧ RoomB es i M zN))
      case atStart => exact ⟨1, by omega, by have := HQ.out; omega, by omega, rfl, _, _, HI.out⟩
      clear HI
      case round =>
        obtain ⟨i, hi1, hiL, hgg, rfl, V2, es2, hI⟩ := hrel
        by_cases hlt : i < L
        · have hk2 : (i : Int) < zL := by have := HQ.out; omega
          have hcon := Lib.hid (room_tick hI.out.1 hI.out.2 (by have := HQ.out; omega) hk2)
          go_wp2_with (first | (go_at_call 21; refine hcon.out.mono ?_; rintro r Wt ⟨rfl, V3, hS2⟩; have hkey := keyf_any (M : Int) Wt; have HST2 := Lib.hid hS2; clear hcon hS2) | (go_at_call 19; refine hkey.mono ?_; rintro r Wk ⟨rfl, hbk⟩; have hcon := Lib.hid (room_stat (HST2.out.below hbk) hI.out.2 HM.out); clear hkey hbk HST2) | (go_at_call 17; refine hcon.out.mono ?_; rintro r Wu ⟨n5, b5, rfl, fs, hS2, hr2⟩; have HO := Lib.hid (And.intro hS2 hr2); clear hcon hS2 hr2))
          go_roundg (L - (i + 1))
          case measure => omega
          case rel =>
            have hL11 : i ≤ 20 := by have := HQ.out; omega
            exact ⟨i + 1, by omega, by omega, by omega, by rw [show wrap64 ((i : Int) + 1) = ((i + 1 : Nat) : Int) by unfold wrap64; omega], V3, _, HO.out⟩
        · have hk2 : ¬ (i : Int) < zL := by have := HQ.out; omega
          have hL : (L : Int) = zL := HQ.out.2.2.2.2.2.symm
          obtain rfl : i = L := by omega
          have hI2 : Sto E W1 wr S zQ (i : Int) V2 es2 := by rw [hL]; exact hI.out.1
          have hcon := Lib.hid (room_last hI2 hI.out.2 HM.out (by have := HQ.out; omega))
          clear hL hI2
          go_upto_region 32 with (go_at_call 21; refine hcon.out.mono ?_; rintro r Wt ⟨rfl, V3, e, hS2, hef, hen⟩; have HO := Lib.hid (And.intro hS2 (And.intro hef hen)); clear hcon hS2 hef hen)
          have hall := Lib.hid (room_all HO.out.1 HO.out.2.1)
          go_upto_region 33 with (go_at_call 22; refine hall.out.mono ?_; rintro r Wl ⟨b, c, rfl, hlp, hS⟩; clear hall)
          obtain ⟨_, hef, hen⟩ := HO.out
          have hno99 : Be.is (kf 99) e = false := is_kf (a := M) (b := 99) hef (by have := HM.out; omega) (by omega) (by have := HM.out; omega)
          have hz := HQ.out
          refine wp_region_noPanic ?_
          refine wp_region_held_drew (S := LeftP b M) (by kernel_rfl) (hlp.keep rfl) (fun hHeld => ?_)
          refine held_move 0 (Go.Operand.tmp 7) (some 132) (.bool true) (by kernel_rfl) (by kernel_rfl) (by kernel_rfl) (by kernel_rfl) (by kernel_rfl) (fun _ _ _ _ _ h => h) hHeld ?_
          refine held_move 1 (Go.Operand.tmp 132) (some 133) (.bool true) (by kernel_rfl) (by kernel_rfl) (by kernel_rfl) (by kernel_rfl) (by kernel_rfl) (fun _ _ _ _ _ h => h) hHeld ?_
          refine held_move 2 (Go.Operand.tmp 20) (some 134) (.int .i64 15) (by kernel_rfl) (by kernel_rfl) (by kernel_rfl) (by kernel_rfl) (by kernel_rfl) (fun _ _ _ _ _ h => h) hHeld ?_
          refine held_bin 3 Go.BinOp.eql 3 (Go.Operand.tmp 134) (Go.Operand.const (Go.Value.int Go.IntKind.i64 15)) 3 (some 135) (.int .i64 15) (Go.Value.int Go.IntKind.i64 15) (.bool true) (by kernel_rfl) (by kernel_rfl) (fun w => by kernel_rfl) (by kernel_rfl) (by kernel_rfl) (by kernel_rfl) (fun _ _ _ _ _ h => h) hHeld ?_
          refine held_pick 4 (Go.Operand.tmp 133) (Go.Operand.tmp 135) (Go.Operand.const (Go.Value.bool false)) (some 136) true (.bool true) (by kernel_rfl) (by kernel_rfl) (by kernel_rfl) (by kernel_rfl) (by kernel_rfl) (by kernel_rfl) (fun _ _ _ _ _ h => h) hHeld ?_
          refine held_move 5 (Go.Operand.tmp 136) (some 137) (.bool true) (by kernel_rfl) (by kernel_rfl) (by kernel_rfl) (by kernel_rfl) (by kernel_rfl) (fun _ _ _ _ _ h => h) hHeld ?_
          refine held_move 6 (Go.Operand.tmp 21) (some 138) (.slice (some ⟨b, 0, none⟩) 1 c) (by kernel_rfl) (by kernel_rfl) (by kernel_rfl) (by kernel_rfl) (by kernel_rfl) (fun _ _ _ _ _ h => h) hHeld ?_
          refine held_any 7 (Go.Op.call { callee := Go.Callee.builtin Go.Builtin.len, args := #[Go.Operand.tmp 138], argTypes := #[48] }) (some 139) (.int .i64 1) (by kernel_rfl) (by kernel_rfl) (by kernel_rfl) (by kernel_rfl) (fun _ _ _ _ _ h => h) hHeld (fun o ho w hw => exec_len (vx := .slice (some ⟨b, 0, none⟩) 1 c) ho rfl (by kernel_rfl) (len_l _ (some ⟨b, 0, none⟩) c w)) ?_
          refine held_bin 8 Go.BinOp.eql 3 (Go.Operand.tmp 139) (Go.Operand.const (Go.Value.int Go.IntKind.i64 1)) 3 (some 140) (.int .i64 1) (Go.Value.int Go.IntKind.i64 1) (.bool true) (by kernel_rfl) (by kernel_rfl) (fun w => by kernel_rfl) (by kernel_rfl) (by kernel_rfl) (by kernel_rfl) (fun _ _ _ _ _ h => h) hHeld ?_
          refine held_pick 9 (Go.Operand.tmp 137) (Go.Operand.tmp 140) (Go.Operand.const (Go.Value.bool false)) (some 141) true (.bool true) (by kernel_rfl) (by kernel_rfl) (by kernel_rfl) (by kernel_rfl) (by kernel_rfl) (by kernel_rfl) (fun _ _ _ _ _ h => h) hHeld ?_
          refine held_move 10 (Go.Operand.tmp 141) (some 142) (.bool true) (by kernel_rfl) (by kernel_rfl) (by kernel_rfl) (by kernel_rfl) (by kernel_rfl) (fun _ _ _ _ _ h => h) hHeld ?_
          refine held_move 11 (Go.Operand.tmp 21) (some 143) (.slice (some ⟨b, 0, none⟩) 1 c) (by kernel_rfl) (by kernel_rfl) (by kernel_rfl) (by kernel_rfl) (by kernel_rfl) (fun _ _ _ _ _ h => h) hHeld ?_
          refine held_index 12 48 (Go.Operand.tmp 143) (Go.Operand.const (Go.Value.int Go.IntKind.i64 0)) (some 144) (.slice (some ⟨b, 0, none⟩) 1 c) (Go.Value.int Go.IntKind.i64 0) (.pointer (some ⟨b, 0, none⟩)) (by kernel_rfl) (by kernel_rfl) (fun w => idx_l b c w) (by kernel_rfl) (by kernel_rfl) (by kernel_rfl) (fun _ _ _ _ _ h => h) hHeld ?_
          refine held_cell 13 26 (Go.Operand.tmp 144) (some 145) (.pointer (some ⟨b, 0, none⟩)) (.agg (arr8 32 (kf M))) (by kernel_rfl) (by kernel_rfl) (fun W hw => load_idB W b (kf M) hw.1) (by kernel_rfl) (by kernel_rfl) (by kernel_rfl) (fun _ _ _ _ _ h => h) hHeld ?_
          refine held_move 14 (Go.Operand.tmp 2) (some 146) (.int .i64 (M : Int)) (by kernel_rfl) (by kernel_rfl) (by kernel_rfl) (by kernel_rfl) (by kernel_rfl) (fun _ _ _ _ _ h => h) hHeld ?_
          refine held_call 15 19 #[Go.Operand.tmp 146] #[3] (some 147) #[.int .i64 (M : Int)] _ (by kernel_rfl) (by kernel_rfl) (by kernel_rfl) (by kernel_rfl) (keyf_any (M : Int) Wl.drew) ?_
          rintro r Y1 ⟨rfl, hb⟩
          have hS1 := hS.drew.below hb
          refine ⟨_, rfl, hHeld.below hb, fun hHeld => ?_⟩
          clear hb hS
          refine held_any 16 (Go.Op.binOp Go.BinOp.eql 26 (Go.Operand.tmp 145) (Go.Operand.tmp 147) 26) (some 148) (.bool true) (by kernel_rfl) (by kernel_rfl) (by kernel_rfl) (by kernel_rfl) (fun _ _ _ _ _ h => h) hHeld (fun o ho w hw => exec_eqrow (k := .eql) (cx := arr8 32 (kf M)) (cy := arr8 32 (kf M)) (b := true) (.inl rfl) ho (by kernel_rfl) (by kernel_rfl) (by have := eq_ids (kf M) (kf M) w; rwa [beq_self_eq_true] at this)) ?_
          refine held_pick 17 (Go.Operand.tmp 142) (Go.Operand.tmp 148) (Go.Operand.const (Go.Value.bool false)) (some 149) true (.bool true) (by kernel_rfl) (by kernel_rfl) (by kernel_rfl) (by kernel_rfl) (by kernel_rfl) (by kernel_rfl) (fun _ _ _ _ _ h => h) hHeld ?_
          refine held_move 18 (Go.Operand.tmp 149) (some 150) (.bool true) (by kernel_rfl) (by kernel_rfl) (by kernel_rfl) (by kernel_rfl) (by kernel_rfl) (fun _ _ _ _ _ h => h) hHeld ?_
          refine held_move 19 (Go.Operand.tmp 8) (some 151) (.pointer (some ⟨S, 0, none⟩)) (by kernel_rfl) (by kernel_rfl) (by kernel_rfl) (by kernel_rfl) (by kernel_rfl) (fun _ _ _ _ _ h => h) hHeld ?_
          refine held_move 21 (Go.Operand.tmp 0) (some 153) (.int .i64 zN) (by kernel_rfl) (by kernel_rfl) (by kernel_rfl) (by kernel_rfl) (by kernel_rfl) (fun _ _ _ _ _ h => h) hHeld ?_
          refine held_call 20 20 #[Go.Operand.tmp 151] #[30] (some 152) #[.pointer (some ⟨S, 0, none⟩)] _ (by kernel_rfl) (by kernel_rfl) (by kernel_rfl) (by kernel_rfl) (used_z hS1 (by simp) (few_one (by rw [hen]; omega)) (z := zN) (by rw [sum_one]; exact hen)) ?_
          rintro r Y ⟨rfl, hY⟩
          obtain rfl := hY.symm
          clear hY
          refine ⟨_, rfl, hHeld, fun hHeld => ?_⟩
          refine held_bin 22 Go.BinOp.eql 3 (Go.Operand.tmp 152) (Go.Operand.tmp 153) 3 (some 154) (.int .i64 zN) (.int .i64 zN) (.bool true) (by kernel_rfl) (by kernel_rfl) (fun w => eql_i _ _ _ _ w) (by kernel_rfl) (by kernel_rfl) (by kernel_rfl) (fun _ _ _ _ _ h => h) hHeld ?_
          refine held_pick 23 (Go.Operand.tmp 150) (Go.Operand.tmp 154) (Go.Operand.const (Go.Value.bool false)) (some 155) true (.bool true) (by kernel_rfl) (by kernel_rfl) (by kernel_rfl) (by kernel_rfl) (by kernel_rfl) (by kernel_rfl) (fun _ _ _ _ _ h => h) hHeld ?_
          refine held_move 24 (Go.Operand.tmp 155) (some 156) (.bool true) (by kernel_rfl) (by kernel_rfl) (by kernel_rfl) (by kernel_rfl) (by kernel_rfl) (fun _ _ _ _ _ h => h) hHeld ?_
          refine held_move 25 (Go.Operand.tmp 8) (some 157) (.pointer (some ⟨S, 0, none⟩)) (by kernel_rfl) (by kernel_rfl) (by kernel_rfl) (by kernel_rfl) (by kernel_rfl) (fun _ _ _ _ _ h => h) hHeld ?_
          refine held_call 26 19 #[Go.Operand.const (Go.Value.int Go.IntKind.i64 99)] #[3] (some 158) #[Go.Value.int Go.IntKind.i64 99] _ (by kernel_rfl) (by kernel_rfl) (by kernel_rfl) (by kernel_rfl) (keyf_any 99 Y1) ?_
          rintro r Y2 ⟨rfl, hb⟩
          have hS2 := hS1.below hb
          refine ⟨_, rfl, hHeld.below hb, fun hHeld => ?_⟩
          clear hb hS1
          refine held_call 27 12 #[Go.Operand.tmp 157, Go.Operand.tmp 158, Go.Operand.const (Go.Value.int Go.IntKind.i64 1)] #[30, 26, 3] (some 159) #[.pointer (some ⟨S, 0, none⟩), .agg (arr8 32 (kf 99)), Go.Value.int Go.IntKind.i64 1] _ (by kernel_rfl) (by kernel_rfl) (by kernel_rfl) (by kernel_rfl) (s_ok hS2 (kf 99) 1 (by decide) (by decide) (by simp) (few_one (by rw [hen]; omega)) (find_no _ _ hno99) (by rw [sum_one, hen]; omega)) ?_
          rintro r Y3 ⟨rfl, V9, g9, _, hS3, ht3, _⟩
          have hHeld3 : LeftP b M Y3 := hHeld.turn hS2 ht3
          refine ⟨_, rfl, hHeld3, fun hHeld => ?_⟩
          clear hS2
          refine held_bin 28 Go.BinOp.eql 33 (Go.Operand.tmp 159) (Go.Operand.const Go.Value.nilIface) 33 (some 160) (.nilIface) (Go.Value.nilIface) (.bool true) (by kernel_rfl) (by kernel_rfl) (fun w => by kernel_rfl) (by kernel_rfl) (by kernel_rfl) (by kernel_rfl) (fun _ _ _ _ _ h => h) hHeld ?_
          refine held_pick 29 (Go.Operand.tmp 156) (Go.Operand.tmp 160) (Go.Operand.const (Go.Value.bool false)) (some 161) true (.bool true) (by kernel_rfl) (by kernel_rfl) (by kernel_rfl) (by kernel_rfl) (by kernel_rfl) (by kernel_rfl) (fun _ _ _ _ _ h => h) hHeld ?_
          refine held_assign 30 (Go.Operand.tmp 161) (some 6) (.bool true) (by kernel_rfl) (by kernel_rfl) (by kernel_rfl) (by kernel_rfl) (by kernel_rfl) (fun _ _ _ _ _ h => h) hHeld ?_
          refine wpAnyH_done (by kernel_rfl) ?_ _
          refine NoPanic.normal ?_
          try simp only [Act.put, List.setIfInBounds_toArray, List.set_cons_zero, List.set_cons_succ]
          go_wp2_with fail
          go_ret
          exact ⟨rfl, HB1.out.trans (hS3.be.mono HB1.out.size)⟩
end Go.Proofs.YtegijahkiopncaaDoor
