import Derived.Test.YtbeeehfaeknhmaaDoorDkk
/-
  disk: Crash: what is kept.
-/
namespace Go.Proofs.YtbeeehfaeknhmaaDoor
open Go.RowKit

/-- the content a crash leaves: 0 what is durable, j the j-th of those pending -/
def Sec.pick (s : Sec) (j : Nat) : List UInt8 := if j = 0 then s.dur else s.pend.getD (j - 1) s.dur
theorem Sec.pick_len (s : Sec) (j : Nat) : (s.pick j).length = 128 := by
  unfold Sec.pick
  split
  · exact s.hd
  · rw [List.getD_eq_getElem?_getD]
    cases h : s.pend[j - 1]? with
    | none => exact s.hd
    | some p => exact s.hp p (List.mem_of_getElem? h)
def Sec.settled (s : Sec) (j : Nat) : Sec := ⟨s.pick j, [], s.pick_len j, by simp⟩
def choice (q : List Int) (m : Nat) : Nat := match q with | [] => 0 | x :: _ => (max x 0).toNat % (1 + m)
def crashTo (ss : List Sec) (keep : List Int) : Nat → List Sec × List Int
  | 0 => (ss, keep)
  | k + 1 => match ss[k]? with
    | none => crashTo ss keep k
    | some s => if s.pend.length = 0 then crashTo ss keep k else ((crashTo ss keep k).1.set k (s.settled (choice (crashTo ss keep k).2 s.pend.length)), (crashTo ss keep k).2.tail)
theorem crashTo_len (ss : List Sec) (keep : List Int) : ∀ k, (crashTo ss keep k).1.length = ss.length
  | 0 => rfl
  | k + 1 => by
    have ih := crashTo_len ss keep k
    unfold crashTo
    split
    · exact ih
    · split
      · exact ih
      · simpa using ih
theorem crashTo_get (ss : List Sec) (keep : List Int) : ∀ k j, k ≤ j → (crashTo ss keep k).1[j]? = ss[j]?
  | 0, _, _ => rfl
  | k + 1, j, h => by
    have ih := crashTo_get ss keep k j (by omega)
    unfold crashTo
    split
    · exact ih
    · split
      · exact ih
      · rw [List.getElem?_set_ne (by omega)]
        exact ih
theorem crashTo_none (ss : List Sec) (keep : List Int) (k : Nat) (s : Sec) (hs : ss[k]? = some s) (h : s.pend.length = 0) : crashTo ss keep (k + 1) = crashTo ss keep k := by
  show (match ss[k]? with | none => _ | some s => _) = _
  rw [hs]
  exact if_pos h
theorem crashTo_some (ss : List Sec) (keep : List Int) (k : Nat) (s : Sec) (hs : ss[k]? = some s) (h : ¬ s.pend.length = 0) : crashTo ss keep (k + 1) = ((crashTo ss keep k).1.set k (s.settled (choice (crashTo ss keep k).2 s.pend.length)), (crashTo ss keep k).2.tail) := by
  show (match ss[k]? with | none => _ | some s => _) = _
  rw [hs]
  exact if_neg h
theorem choice_le (q : List Int) (m : Nat) : choice q m ≤ m := by
  unfold choice
  split
  · omega
  · have := Nat.mod_lt (max (‹Int› : Int) 0).toNat (show 0 < 1 + m by omega)
    omega
/-- what is kept, as it comes in -/
def KeepAt (w : World) (R : Nat) (q : List Int) (v : Value) : Prop := ∃ A c, v = .slice A q.length c ∧ q.length ≤ c ∧ (∀ x ∈ q, x ≤ 9223372036854775807) ∧ (q ≠ [] → ∃ b o, A = some ⟨b, o, none⟩ ∧ b ≠ R ∧ b < w.heap.size ∧ w.rangeAt b o (q.map (Value.int .i64)))
theorem KeepAt.turn {w w' : World} {R : Nat} {q : List Int} {v : Value} (h : KeepAt w R q v) (ht : Turn (· = R) w w') : KeepAt w' R q v := by
  obtain ⟨A, c, e, hq, hm, hk⟩ := h
  refine ⟨A, c, e, hq, hm, fun hn => ?_⟩
  obtain ⟨b, o, e1, h1, h2, h3⟩ := hk hn
  exact ⟨b, o, e1, h1, Nat.lt_of_lt_of_le h2 ht.size, ht.range h3 h2 h1⟩
theorem slice_1 (b o n c : Nat) (h1 : 1 ≤ n) (w : World) : (Instr.sliceAt 38 (.slice (some ⟨b, o, none⟩) n c) (some (.int .i64 1)) none none).run Tryd.prog w = .ok (.slice (some (if c = 1 then ⟨b, o, none⟩ else ⟨b, o + 1, none⟩)) (n - 1) (c - 1)) w := by
  have hu := Tryd.underlying38
  have e2 : Tryd.prog.elem 38 = 3 := by simp [Program.elem, hu]
  have := run_slice_l (P := Tryd.prog) w 38 (some ⟨b, o, none⟩) n c (by rw [e2]; exact hu) .i64 1 (by omega) (by omega)
  rw [e2] at this
  obtain ⟨i, hi, hz⟩ := Option.map_eq_some_iff.1 (show (Tryd.prog.info? 3).map (·.size) = some 1 by kernel_rfl)
  rw [run_sliceAt_slice (h := by rw [e2]; exact hu), this]
  simp [sizeOf, typeInfo, hi, hz, Result.andThen, sliced, Addr.add]
  split <;> rfl
theorem KeepAt.cons {w : World} {R : Nat} {x : Int} {q : List Int} {v : Value} (h : KeepAt w R (x :: q) v) : ∃ b o c, v = .slice (some ⟨b, o, none⟩) (q.length + 1) c ∧ b < w.heap.size ∧ w.cell? ⟨b, o, none⟩ = some (.int .i64 x) ∧ x ≤ 9223372036854775807
    ∧ KeepAt w R q (.slice (some (if c = 1 then ⟨b, o, none⟩ else ⟨b, o + 1, none⟩)) (q.length + 1 - 1) (c - 1)) := by
  obtain ⟨A, c, e, hq, hm, hk⟩ := h
  obtain ⟨b, o, rfl, h1, h2, h3⟩ := hk (by simp)
  refine ⟨b, o, c, e, h2, by simpa using h3 0 _ rfl, hm x (by simp), ⟨_, _, rfl, by simp at hq; omega, fun y hy => hm y (by simp [hy]), fun hn => ?_⟩⟩
  have hl : 0 < q.length := List.length_pos_iff.2 hn
  refine ⟨b, o + 1, by rw [if_neg (by simp at hq; omega)], h1, h2, fun j u hu => ?_⟩
  rw [Nat.add_assoc, Nat.add_comm 1 j]
  exact h3 (j + 1) u (by simpa using hu)
theorem max_i64 (ts : Array TypeId) (ty : TypeId) (a : Int) (w : World) : (Builtin.max_ ts ty #[.int .i64 a, .int .i64 0]).run Tryd.prog w = .ok (.int .i64 (((max a 0).toNat : Nat) : Int)) w := by
  have e : (((max a 0).toNat : Nat) : Int) = if 0 > a then 0 else a := by split <;> omega
  rw [e]
  simp [Builtin.max_, Builtin.max2]
theorem rem_nat (t : TypeId) (x y : Operand) (a b : Nat) (hb : 0 < b) (h2 : a ≤ 9223372036854775807) (w : World) : (do eqGuard .rem t x y (.int .i64 (a : Int)) (.int .i64 (b : Int)); binOp .rem t (.int .i64 (a : Int)) (.int .i64 (b : Int)) : Sem Value).run Tryd.prog w = .ok (.int .i64 ((a % b : Nat) : Int)) w := by
  have hm : ((a : Int).tmod (b : Int)) = ((a % b : Nat) : Int) := by rw [Int.tmod_eq_emod_of_nonneg (by omega)]; simp
  have hl : a % b ≤ a := Nat.mod_le _ _
  have hw : IntKind.i64.wrap (((a % b : Nat) : Int)) = ((a % b : Nat) : Int) := IntWalk.i64_in _ (by omega)
  have hb1 : ¬ b = 0 := by omega
  simp [eqGuard, binOp, Op.intDiv, hb1, hm]
  try exact hw
section
variable {P : Program} {o : Oper} {a : Act} {w : World}
theorem exec_max {x y : Operand} {ts : Array TypeId} {vx vy v : Value} (ho : o.op = .call { callee := .builtin .max, args := #[x, y], argTypes := ts }) (hx : (a.eval x, a.eval y) = (vx, vy))
    (he : ∀ ty, (Builtin.max_ ts ty #[vx, vy]).run P w = .ok v w) : (execOp a.eval o).run P w = .ok (.value v) w := by
  simp only [Prod.mk.injEq] at hx
  simp only [execOp, ho, resolve, invoke, builtin, Sem.run_bind, Sem.run_pure, Result.andThen_ok, List.map_toArray, List.map_cons, List.map_nil, hx.1, hx.2, he]
theorem exec_lenA {x : Operand} {t : TypeId} {vx v : Value} (ho : o.op = .call { callee := .builtin .len, args := #[x], argTypes := #[t] }) (hx : a.eval x = vx)
    (he : ∀ ty, (Builtin.len_ #[t] ty #[vx]).run P w = .ok v w) : (execOp a.eval o).run P w = .ok (.value v) w := exec_len ho rfl hx (he _)
end
end Go.Proofs.YtbeeehfaeknhmaaDoor
