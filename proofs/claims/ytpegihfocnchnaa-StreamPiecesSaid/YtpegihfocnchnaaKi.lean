import Derived.Test.YtpegihfocnchnaaKg
import Derived.StillTailTactics
namespace Go.Proofs.Ytpegihfocnchnaa
open Go.RowKit

theorem wpList_load_row_g {P : Program} {ops : Array Oper} {rest : List Oper} {o : Oper} {a : Act} {w : World} {Q : Exit → Act → World → Prop} (hw : Region.wanted o (yielded ops a.tmps) = true) (ty : TypeId) (x : Operand) (ho : o.op = .load ty x)
    (g : Nat) (hx : a.eval x = .pointer (some ⟨g, 0, none⟩)) (t : TypeId) (cs : Array Value) (fr : Nat × Nat) (d : TypeDesc) (hg : w.heap[g]? = some (.cells cs t fr))
    (hu : P.underlying ty = some d) (hd : (match d with | .struct _ | .array _ _ => true | _ => false) = true) (hi : (P.info? ty).map (·.size) = some cs.size)
    (h : wpList P ops Q rest (a.put o.dst (.agg cs)) w) : wpList P ops Q (o :: rest) a w :=
  BigFrame.wpList_want hw fun _ hK => wp_load_row ty x ho g hx t cs fr d hg hu hd hi (hK _ _ h)

theorem wpStill_load_row {P : Program} {ops : Array Oper} {rest : List Oper} {o : Oper} {a : Act} {w : World} {Q : Act → Prop} (hgd : o.guard = none) (ty : TypeId) (x : Operand) (ho : o.op = .load ty x)
    (g : Nat) (hx : a.eval x = .pointer (some ⟨g, 0, none⟩)) (t : TypeId) (cs : Array Value) (fr : Nat × Nat) (d : TypeDesc) (hg : w.heap[g]? = some (.cells cs t fr))
    (hu : P.underlying ty = some d) (hd : (match d with | .struct _ | .array _ _ => true | _ => false) = true) (hi : (P.info? ty).map (·.size) = some cs.size)
    (h : wpStill P ops w Q rest (a.put o.dst (.agg cs))) : wpStill P ops w Q (o :: rest) a := by
  refine wpStill_step fun K hK => ?_
  simp only [Region.wanted, hgd, if_true]
  unfold Oper.still execOp
  simp only [ho, hx, Instr.loadAt, Instr.sureAddr, Sem.run_bind, Sem.run_pure, Result.andThen_ok, run_loadVar_row w g t ty cs fr d hg hu hd hi]
  exact ⟨rfl, hK _ h⟩

theorem xor8_back (a c : Int) (ha : 0 ≤ a ∧ a < 256) (hc : 0 ≤ c ∧ c < 256) : bits .xor .u8 (bits .xor .u8 a c) c = a := by
  have h1 : 0 ≤ bits .xor .u8 a c ∧ bits .xor .u8 a c < 256 ∧ (bits .xor .u8 a c).toNat = a.toNat ^^^ c.toNat := by
    rw [u8_xor a c ha.1 ha.2 hc.1 hc.2]
    have : a.toNat ^^^ c.toNat < 2 ^ 8 := Nat.xor_lt_two_pow (by omega) (by omega)
    refine ⟨by omega, by omega, by omega⟩
  rw [u8_xor _ _ h1.1 h1.2.1 hc.1 hc.2, h1.2.2, Nat.xor_assoc, Nat.xor_self, Nat.xor_zero]
  omega

/-- all bytes under the stream -/
def xrs (key : Nat → BitVec 8) (ct : BitVec 32) (non : Nat → BitVec 8) (xs : List Int) : List Int := (List.range xs.length).map (xr key ct non xs)
theorem xrs_length (key : Nat → BitVec 8) (ct : BitVec 32) (non : Nat → BitVec 8) (xs : List Int) : (xrs key ct non xs).length = xs.length := by simp [xrs]
theorem xrs_get (key : Nat → BitVec 8) (ct : BitVec 32) (non : Nat → BitVec 8) (xs : List Int) (i : Nat) (h : i < xs.length) : (xrs key ct non xs).getD i 0 = xr key ct non xs i := by simp [xrs, h]
theorem xrs_twice (key : Nat → BitVec 8) (ct : BitVec 32) (non : Nat → BitVec 8) (xs : List Int) (hx : ∀ x ∈ xs, 0 ≤ x ∧ x < 256) : xrs key ct non (xrs key ct non xs) = xs := by
  apply List.ext_getElem
  · simp [xrs]
  · intro i h1 h2
    have hxi := hx _ (List.getElem_mem h2)
    have e1 : xr key ct non (xrs key ct non xs) i = xs[i] := by
      unfold xr
      rw [xrs_get key ct non xs i h2]
      unfold xr
      rw [xor8_back _ _ (by simpa [h2] using hxi) ⟨n8_lo _, n8_hi _⟩]
      simp [h2]
    simp [xrs] at h1 ⊢
    exact e1
theorem xrs_cut (key : Nat → BitVec 8) (ct : BitVec 32) (non : Nat → BitVec 8) (xs : List Int) (q : Nat) : (xrs key ct non xs).drop (64 * q) = xrs key (ct + BitVec.ofNat 32 q) non (xs.drop (64 * q)) := by
  apply List.ext_getElem
  · simp [xrs]
  · intro i h1 h2
    simp [xrs]
    unfold xr
    rw [show (64 * q + i) / 64 = q + i / 64 by omega, show (64 * q + i) % 64 = i % 64 by omega, BitVec.add_assoc, ← BitVec.ofNat_add]
    simp

theorem rows_read {w : World} {O n : Nat} {f : Nat → Int} {t : TypeId} (h : w.rowIs O t n (fun i => .int .u8 (f i))) : SlRead w (some ⟨O, 0, none⟩) (ints .u8 ((List.range n).map f)) := by
  intro _
  refine ⟨O, 0, rfl, h.lt, fun j u hu => ?_⟩
  have hj : j < n := by
    have := (List.getElem?_eq_some_iff.1 hu).1
    simpa using this
  have hc := h.cell hj
  rw [Nat.zero_add, hc, ← hu]
  simp [ints, hj]

end Go.Proofs.Ytpegihfocnchnaa
