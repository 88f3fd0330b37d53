import Derived.Test.YtegijahkiopncaaDoorDig
namespace Go.Proofs.YtegijahkiopncaaDoor
open Go.RowKit

def iv : Nat → BitVec 32
  | 0 => 1779033703#32 | 1 => 3144134277#32 | 2 => 1013904242#32 | 3 => 2773480762#32 | 4 => 1359893119#32 | 5 => 2600822924#32 | 6 => 528734635#32 | _ => 1541459225#32
/-- a digest at its start -/
def h0 : HSt := ⟨iv, fun _ => 0#8, 0⟩

theorem wpList_build {P : Program} {w : World} {ops : Array Oper} {rest : List Oper} {o : Oper} {a : Act} {Q : Exit → Act → World → Prop} (hgd : o.guard = none) (t : TypeId) (parts : Array (Nat × Operand)) (ho : o.op = .build t parts)
    (ps : Array (Nat × Value)) (hp : (parts.map fun (i, x) => (i, a.eval x)) = ps) (v : Value)
    (hz : ∀ w, (Instr.build t ps).run P w = .ok v w) (h : wpList P ops Q rest (a.put o.dst v) w) : wpList P ops Q (o :: rest) a w := by
  refine wpList_plain hgd fun K hK => ?_
  unfold Oper.wp execOp
  simp only [ho]
  simp [hp, hz, Result.andThen]
  exact hK _ _ h

theorem ivrow : (Value.agg #[Value.int IntKind.u32 1779033703, Value.int IntKind.u32 3144134277, Value.int IntKind.u32 1013904242,
            Value.int IntKind.u32 2773480762, Value.int IntKind.u32 1359893119, Value.int IntKind.u32 2600822924,
            Value.int IntKind.u32 528734635, Value.int IntKind.u32 1541459225]) = .agg (arr32 8 iv) := by rfl

set_option maxRecDepth 100000 in
theorem start_any (w : World) : Calls Tryd.prog 40 #[] w fun e w' => e = .returned (.agg (hrow iv (fun _ => 0#8) 0 0)) ∧ Below w.heap.size w w' := by
  go_enter Tryd.func40, Tryd.ntmps40
  go_wp2_with (first | (refine wpList_build rfl 83 _ rfl #[(0, .agg (arr32 8 iv))] (by kernel_rfl) (.agg (hrow iv (fun _ => 0#8) 0 0)) (fun _ => by kernel_rfl) ?_) | (refine wpList_alloc_z rfl 83 rfl hzero (fun _ => by kernel_rfl) ?_) | (refine wpList_store_row rfl 83 _ _ rfl _ _ rfl rfl _ _ (heap_alloc_new _ _) (by kernel_rfl) (by rw [hrow_size, hzero_size]) (hrow_one _ _ _ _) ?_; rw [alloc_setRow]))
  refine bodyPost_ret (results_cell_row rfl _ _ _ _ _ _ _ rfl (heap_alloc_new _ _) Tryd.underlying83 rfl (by rw [hrow_size]; kernel_rfl)) rfl ?_
  exact ⟨rfl, (Below.refl _ _).alloc (Nat.le_refl _) _⟩

/-- a digest to which xs was written -/
abbrev HashX (w : World) (C : Nat) (xs : List (BitVec 8)) : Prop := HashR w C (feeds h0 xs).s (feeds h0 xs).m (feeds h0 xs).u ((xs.length : Int) % 18446744073709551616)
/-- the digest of xs, as the program reckons it -/
def shaOf (xs : List (BitVec 8)) : Nat → BitVec 8 := digOf (feeds h0 xs) (BitVec.ofNat 64 (8 * xs.length))

theorem h0_u (xs : List (BitVec 8)) : (feeds h0 xs).u < 64 := feeds_u xs h0 (by decide)
theorem len_wrap (n : Nat) : IntKind.u64.wrap ((n : Int) % 18446744073709551616 * 8) = ((BitVec.ofNat 64 (8 * n)).toNat : Int) := by
  rw [BitVec.toNat_ofNat]
  show ((n : Int) % 18446744073709551616 * 8) % 18446744073709551616 = _
  omega

theorem write_x (C : Nat) (xs ys : List (BitVec 8)) (A : Option Addr) (cap : Nat) (w : World) (hh : HashX w C xs)
    (hk : KAt w) (hne : C ≠ 7) (hA : SlRead w A (ints .u8 (bys ys))) (hO : 0 < ys.length → OffB A C) (hcap : ys.length ≤ cap) (hlen : ys.length ≤ 4611686018427387904) :
    Calls Tryd.prog 41 #[.pointer (some ⟨C, 0, none⟩), .slice A ys.length cap] w fun e w' => e = .returned (.tuple #[]) ∧ HashX w' C (xs ++ ys) ∧ Only C w w' := by
  refine (write_any C (feeds h0 xs) _ A ys cap w hh (h0_u xs) hk hne hA hO hcap hlen).mono ?_
  rintro e w' ⟨rfl, h, ho⟩
  refine ⟨rfl, ?_, ho⟩
  unfold HashX
  rw [feeds_append, List.length_append]
  have : ((xs.length : Int) % 18446744073709551616 + ys.length) % 18446744073709551616 = ((xs.length + ys.length : Nat) : Int) % 18446744073709551616 := by omega
  rw [← this]
  exact h

theorem sum_x (C : Nat) (xs : List (BitVec 8)) (w : World) (hh : HashX w C xs) (hk : KAt w) :
    Calls Tryd.prog 42 #[.pointer (some ⟨C, 0, none⟩)] w fun e w' => e = .returned (.agg (arr8 32 (shaOf xs))) ∧ Below w.heap.size w w' :=
  hsum_any C (feeds h0 xs) (BitVec.ofNat 64 (8 * xs.length)) _ w hh (h0_u xs) (len_wrap _) hk
end Go.Proofs.YtegijahkiopncaaDoor
