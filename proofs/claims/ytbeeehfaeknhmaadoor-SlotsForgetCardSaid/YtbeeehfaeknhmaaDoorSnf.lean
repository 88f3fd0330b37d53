import Derived.Test.YtbeeehfaeknhmaaDoorSnb
/-
  slots' laws: fuse, crash.
-/
namespace Go.Proofs.YtbeeehfaeknhmaaDoor
open Go.RowKit

theorem PL_saveM {d : DM} {k : Nat} (h : PL d k) (m : SM) (b : List UInt8) : PL (saveM d m b).2.1 (k + needS b.length + 1 + needS m.size) := by
  unfold saveM
  split
  · exact h.mono (by omega)
  · have h1 := PL_writeM h (m.next b.length) b
    simp only
    split
    · exact h1.mono (by omega)
    · have h2 := PL_writeHeadM h1 (m.next b.length)
      split
      · exact h2.mono (by omega)
      · exact PL_wipeM h2 m
section
variable {w0 W W1 : World} {D R S N : Nat} {d : DM} {pv : Nat → Value} {m : SM} {b xs : List UInt8} {A : Option Addr}
theorem fuse_c (h : CleanS w0 W D R S N pv m b) (f : Nat) (hf : f ≤ 1000) : Calls Tryd.prog 19 #[.pointer (some ⟨D, 0, none⟩), .int .i64 (f : Int)] W fun e W1 => e = .returned (.tuple #[]) ∧ DkT W W1 w0.heap.size D R (mkD (cleanL N m b) (-1)) (mkD (cleanL N m b) (f : Int)) pv pv ∧ SloS w0 W1 D R S (mkD (cleanL N m b) (f : Int)) pv m := by
  refine (fuse_any h.s.dk (f : Int) (by omega)).mono ?_
  rintro e W1 ⟨rfl, hd, ht⟩
  rw [show max (f : Int) (-1) = (f : Int) by omega] at hd
  have hT : DkT W W1 w0.heap.size D R (mkD (cleanL N m b) (-1)) (mkD (cleanL N m b) (f : Int)) pv pv := ⟨hd, ht.mono fun q hq => .inl hq, fun _ _ hq => .inl hq, rfl⟩
  exact ⟨rfl, hT, hd, h.s.sl.turn ht (fun e => h.s.nS (.inl e)), h.s.nS, hT.base h.s.dk h.s.b, h.s.lo⟩
theorem crash_c (h : DkM W w0.heap.size D R d pv) (hb : Below w0.heap.size w0 W) (hp : PL d 2000) (keep : List Int) (AK : Option Addr) (ck : Nat) (hk0 : SlRead w0 AK (ints .i64 keep)) (hkc : keep.length ≤ ck) (hkx : ∀ x ∈ keep, x ≤ 9223372036854775807) :
    Calls Tryd.prog 21 #[.pointer (some ⟨D, 0, none⟩), .slice AK keep.length ck] W fun e W1 => e = .returned (.tuple #[]) ∧ ∃ pv1, DkT W W1 w0.heap.size D R d (mkD (crashL d.ss keep) (-1)) pv pv1 := by
  have hkeep : KeepAt W R keep (.slice AK keep.length ck) := ⟨AK, ck, rfl, hkc, hkx, fun hne => by
    obtain ⟨b, o, e, hl, hc⟩ := hk0 (by have := List.length_pos_iff.2 hne; simpa using this)
    exact ⟨b, o, e, by have := h.low.2; omega, Nat.lt_of_lt_of_le hl hb.size, fun j v hv => (hb.cell (p := ⟨b, o + j, none⟩) hl).trans (hc j v hv)⟩⟩
  refine (crash_any h keep _ hkeep hp).mono ?_
  rintro e W1 ⟨rfl, pv1, hd, ht, hl⟩
  rw [crash_mk] at hd
  exact ⟨rfl, pv1, hd, ht.mono fun q hq => hq.elim .inl (fun e => .inr (.inl e)), fun j q hq => .inl (hl j q hq), by rw [mk_len, crashL_len]⟩
/-- what Open finds behind a crash -/
theorem left_open {b' : List UInt8} {new : Bool} {l : List Blk} (hf : Fit N m b) (hb' : b'.length ≤ roomN N) (hs : m.saves < 4294967295) (h : Left N m b b' new l) : ∃ m2 b2, Fit N m2 b2 ∧ Keeps N l m2 b2 ∧ m2 = (if new = true then m.next b'.length else m) ∧ b2 = (if new = true then b' else b) := by
  cases new with
  | true => exact ⟨_, _, hf.next b' hb' hs, by have := h.k; rwa [if_pos rfl] at this, rfl, rfl⟩
  | false => exact ⟨_, _, hf, by have := h.k; rwa [if_neg (by decide)] at this, rfl, rfl⟩
end
end Go.Proofs.YtbeeehfaeknhmaaDoor
