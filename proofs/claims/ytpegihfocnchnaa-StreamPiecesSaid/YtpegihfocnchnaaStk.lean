import Derived.Test.YtpegihfocnchnaaAec
import Derived.Test.YtpegihfocnchnaaIdx
/-
  Slices of bytes, keys.
-/
namespace Go.Proofs.Ytpegihfocnchnaa
open Go.RowKit

theorem quietB {P : Program} {f : FuncId} {args : Array Value} {w : World} {v : Value} (h : Quiets P f args w v) : Calls P f args w fun e w' => e = .returned v ∧ Below w.heap.size w w' :=
  h.mono fun _ _ ⟨h1, m, h2⟩ => ⟨h1, by rw [h2]; exact Below.drewNr m⟩
theorem drB {w w' : World} (h : Below w.drew.heap.size w.drew w') : Below w.heap.size w w' := (Below.drewNr (w := w) 1).trans h
theorem sub_i64A (t : TypeId) (x y : Operand) (a b c : Int) (h : a - b = c) (h1 : -9223372036854775808 ≤ c) (h2 : c ≤ 9223372036854775807) (w : World) : (do eqGuard .sub t x y (.int .i64 a) (.int .i64 b); binOp .sub t (.int .i64 a) (.int .i64 b) : Sem Value).run Try.prog w = .ok (.int .i64 c) w := by
  have hw : IntKind.i64.wrap (a - b) = c := by rw [h]; exact IntWalk.i64_in _ (by omega)
  simp [eqGuard, binOp, Op.intArith, hw]
theorem slice_h0 {P : Program} {t e : TypeId} (hu : P.underlying t = some (.slice e)) (hs : (P.info? e).map (·.size) = some 1) (A : Option Addr) (len cap n : Nat) (hn : n ≤ cap) (w : World) :
    (Instr.slice t (.slice A len cap) none (some (.int .i64 (n : Int))) none).run P w = .ok (.slice A n cap) w := by
  have e2 : P.elem t = e := by simp [Program.elem, hu]
  rw [run_slice_h (P := P) w t A len cap (by rw [e2]; exact hu) .i64 (n : Int) (by omega) (by omega), e2]
  obtain ⟨i, hi, hz⟩ := Option.map_eq_some_iff.1 hs
  simp [sizeOf, typeInfo, hi, hz, Result.andThen, sliced]
  intro _
  cases A with
  | none => rfl
  | some a => obtain ⟨b, o, r⟩ := a; cases r <;> simp [Addr.add]
theorem SlRead.front {w : World} {A : Option Addr} {bs : List (BitVec 8)} (h : SlRead w A (ints .u8 (bys bs))) (n : Nat) : SlRead w A (ints .u8 (bys (bs.take n))) := by
  intro hne
  have hp : 0 < (ints .u8 (bys bs)).length := by
    rw [bys_ints] at hne ⊢
    simp at hne ⊢
    omega
  obtain ⟨b, o, rfl, hlt, hc⟩ := h hp
  refine ⟨b, o, rfl, hlt, fun j u hj => hc j u ?_⟩
  rw [bys_ints] at hj ⊢
  rw [← hj]
  have hjl := (List.getElem?_eq_some_iff.1 hj).1
  simp at hjl
  simp [List.getElem?_take]
  omega

theorem key_load {W : World} {b : Nat} {f : Nat → BitVec 8} (h : W.rowIs b 31 32 (fun i => v8 (f i))) : (Instr.loadAt 31 (.pointer (some ⟨b, 0, none⟩))).run Try.prog W = .ok (.agg (arr8 32 f)) W := by
  have := load_row (P := Try.prog) 31 b 0 (arr8 32 f).toList _ Try.underlying31 rfl (by simp only [Array.length_toList, arr8_size]; kernel_rfl) W (rangeAt_row h)
  simpa using this
/-- bytes that are there -/
def SlIsA (xs : List (BitVec 8)) (v : Value) (w : World) : Prop := ∃ A c, v = .slice A xs.length c ∧ xs.length ≤ c ∧ SlRead w A (ints .u8 (bys xs))
theorem SlIsA.mono {xs : List (BitVec 8)} : ∀ y w1 w2, SlIsA xs y w1 → Cells w1 w2 → SlIsA xs y w2 := by
  rintro y w1 w2 ⟨A, c, h1, h2, h3⟩ hb
  exact ⟨A, c, h1, h2, h3.cells hb⟩
theorem OwnB.is {w : World} {B : Nat} {zs : List (BitVec 8)} {v : Value} {W : World} (h : OwnB w B zs v W) : SlIsA zs v W := by
  obtain ⟨A, c, rfl, hc⟩ := ownsRow_form h.own
  refine ⟨A, c, rfl, ?_, SlRead.of_own h.own⟩
  rcases Nat.eq_zero_or_pos zs.length with h0 | h0
  · omega
  · exact hc h0
theorem same_true (A B : Option Addr) (xs : List (BitVec 8)) (ca cb : Nat) (w : World) (hA : SlRead w A (ints .u8 (bys xs))) (hB : SlRead w B (ints .u8 (bys xs))) (hx : xs.length ≤ 100000) :
    Quiets Try.prog 8 #[.slice A xs.length ca, .slice B xs.length cb] w (.bool true) := by
  have h := sameBytes_any A B (bys xs) (bys xs) ca cb w hA hB (by rw [bys_length]; omega) (by rw [bys_length]; omega)
  rw [bys_length, show decide (bys xs = bys xs) = true by simp] at h
  exact h
end Go.Proofs.Ytpegihfocnchnaa
