import Derived.Test.YtpegihfocnchnaaCpy
namespace Go.Proofs.Ytpegihfocnchnaa
open Go.RowKit

set_option maxHeartbeats 400000 in
theorem rot_16 (x : BitVec 32) (w : World) : Quiets Try.prog 32 #[v32 x, .int .i64 16] w (v32 (x.rotateLeft 16)) := by
  unfold Quiets
  have h1 : bits BinOp.and IntKind.u64 16 31 = 16 := by decide
  have h2 := n32_or
  have h3 : ∀ x : BitVec 32, (n32 x * (65536 : Int)) % (4294967296 : Int) = n32 (x <<< 16) := fun x => n32_shl x 16
  have h4 : ∀ x : BitVec 32, n32 x / (65536 : Int) = n32 (x >>> 16) := fun x => n32_shr x 16
  have h5 : x <<< 16 ||| x >>> 16 = x.rotateLeft 16 := by rw [BitVec.rotateLeft_def]
  go_enter Try.func32, Try.ntmps32
  go_wp2
  go_ret
  exact ⟨rfl, 0, rfl⟩

set_option maxHeartbeats 400000 in
theorem rot_12 (x : BitVec 32) (w : World) : Quiets Try.prog 32 #[v32 x, .int .i64 12] w (v32 (x.rotateLeft 12)) := by
  unfold Quiets
  have h1 : bits BinOp.and IntKind.u64 12 31 = 12 := by decide
  have h2 := n32_or
  have h3 : ∀ x : BitVec 32, (n32 x * (4096 : Int)) % (4294967296 : Int) = n32 (x <<< 12) := fun x => n32_shl x 12
  have h4 : ∀ x : BitVec 32, n32 x / (1048576 : Int) = n32 (x >>> 20) := fun x => n32_shr x 20
  have h5 : x <<< 12 ||| x >>> 20 = x.rotateLeft 12 := by rw [BitVec.rotateLeft_def]
  go_enter Try.func32, Try.ntmps32
  go_wp2
  go_ret
  exact ⟨rfl, 0, rfl⟩

set_option maxHeartbeats 400000 in
theorem rot_8 (x : BitVec 32) (w : World) : Quiets Try.prog 32 #[v32 x, .int .i64 8] w (v32 (x.rotateLeft 8)) := by
  unfold Quiets
  have h1 : bits BinOp.and IntKind.u64 8 31 = 8 := by decide
  have h2 := n32_or
  have h3 : ∀ x : BitVec 32, (n32 x * (256 : Int)) % (4294967296 : Int) = n32 (x <<< 8) := fun x => n32_shl x 8
  have h4 : ∀ x : BitVec 32, n32 x / (16777216 : Int) = n32 (x >>> 24) := fun x => n32_shr x 24
  have h5 : x <<< 8 ||| x >>> 24 = x.rotateLeft 8 := by rw [BitVec.rotateLeft_def]
  go_enter Try.func32, Try.ntmps32
  go_wp2
  go_ret
  exact ⟨rfl, 0, rfl⟩

set_option maxHeartbeats 400000 in
theorem rot_7 (x : BitVec 32) (w : World) : Quiets Try.prog 32 #[v32 x, .int .i64 7] w (v32 (x.rotateLeft 7)) := by
  unfold Quiets
  have h1 : bits BinOp.and IntKind.u64 7 31 = 7 := by decide
  have h2 := n32_or
  have h3 : ∀ x : BitVec 32, (n32 x * (128 : Int)) % (4294967296 : Int) = n32 (x <<< 7) := fun x => n32_shl x 7
  have h4 : ∀ x : BitVec 32, n32 x / (33554432 : Int) = n32 (x >>> 25) := fun x => n32_shr x 25
  have h5 : x <<< 7 ||| x >>> 25 = x.rotateLeft 7 := by rw [BitVec.rotateLeft_def]
  go_enter Try.func32, Try.ntmps32
  go_wp2
  go_ret
  exact ⟨rfl, 0, rfl⟩

/-- a state of sixteen words, one turned -/
def updW (s : Nat → BitVec 32) (i : Nat) (x : BitVec 32) : Nat → BitVec 32 := fun j => if j = i then x else s j

/-- a quarter round -/
def qr (x y z u : BitVec 32) : BitVec 32 × BitVec 32 × BitVec 32 × BitVec 32 :=
  (x + y + (y ^^^ z + (u ^^^ x + y).rotateLeft 16).rotateLeft 12,
   ((y ^^^ z + (u ^^^ x + y).rotateLeft 16).rotateLeft 12 ^^^ z + (u ^^^ x + y).rotateLeft 16 + ((u ^^^ x + y).rotateLeft 16 ^^^ x + y + (y ^^^ z + (u ^^^ x + y).rotateLeft 16).rotateLeft 12).rotateLeft 8).rotateLeft 7,
   z + (u ^^^ x + y).rotateLeft 16 + ((u ^^^ x + y).rotateLeft 16 ^^^ x + y + (y ^^^ z + (u ^^^ x + y).rotateLeft 16).rotateLeft 12).rotateLeft 8,
   ((u ^^^ x + y).rotateLeft 16 ^^^ x + y + (y ^^^ z + (u ^^^ x + y).rotateLeft 16).rotateLeft 12).rotateLeft 8)

def qs (s : Nat → BitVec 32) (i j k l : Nat) : Nat → BitVec 32 :=
  updW (updW (updW (updW s i (qr (s i) (s j) (s k) (s l)).1) j (qr (s i) (s j) (s k) (s l)).2.1) k (qr (s i) (s j) (s k) (s l)).2.2.1) l (qr (s i) (s j) (s k) (s l)).2.2.2

abbrev St (w : World) (b : Nat) (s : Nat → BitVec 32) : Prop := w.rowIs b 47 16 (fun i => v32 (s i))

theorem St.put {w : World} {b : Nat} {s : Nat → BitVec 32} (h : St w b s) (i : Nat) (x : BitVec 32) : St (w.setCell ⟨b, i, none⟩ (v32 x)) b (updW s i x) := by
  refine (h.set i _).congr fun j _ => ?_
  unfold updW
  split <;> simp [*]

set_option maxHeartbeats 800000 in
theorem quarter_nat (b i j k l : Nat) (s : Nat → BitVec 32) (w : World) (h : St w b s) (hi : i < 16) (hj : j < 16) (hk : k < 16) (hl : l < 16)
   (hij : i ≠ j) (hik : i ≠ k) (hil : i ≠ l) (hjk : j ≠ k) (hjl : j ≠ l) (hkl : k ≠ l) :
  Calls Try.prog 29 #[.pointer (some ⟨b, 0, none⟩), .int .i64 i, .int .i64 j, .int .i64 k, .int .i64 l] w fun e w' => e = .returned (.tuple #[]) ∧ St w' b (qs s i j k l) ∧ Only b w w' := by
  have hadd := n32_add
  have hxor := n32_xor
  have ci := h.cell hi
  have cj := h.cell hj
  have ck := h.cell hk
  have cl := h.cell hl
  have fi := h.frozen i
  have fj := h.frozen j
  have fk := h.frozen k
  have fl := h.frozen l
  have fin : ∀ m, St (((((w.drewN m).setCell ⟨b, i, none⟩ (v32 (qr (s i) (s j) (s k) (s l)).1)).setCell ⟨b, j, none⟩ (v32 (qr (s i) (s j) (s k) (s l)).2.1)).setCell ⟨b, k, none⟩ (v32 (qr (s i) (s j) (s k) (s l)).2.2.1)).setCell ⟨b, l, none⟩ (v32 (qr (s i) (s j) (s k) (s l)).2.2.2)) b (qs s i j k l) ∧
      Only b w (((((w.drewN m).setCell ⟨b, i, none⟩ (v32 (qr (s i) (s j) (s k) (s l)).1)).setCell ⟨b, j, none⟩ (v32 (qr (s i) (s j) (s k) (s l)).2.1)).setCell ⟨b, k, none⟩ (v32 (qr (s i) (s j) (s k) (s l)).2.2.1)).setCell ⟨b, l, none⟩ (v32 (qr (s i) (s j) (s k) (s l)).2.2.2)) := fun m =>
    ⟨St.put (St.put (St.put (St.put (show St (w.drewN m) b s from h) i _) j _) k _) l _, ((((Only.drewN m).setCell i _).setCell j _).setCell k _).setCell l _⟩
  have FIN := Lib.hid fin; clear fin h
  go_enter Try.func29, Try.ntmps29
  go_wp2
  go_quiet (fail)
  go_wp2_with fail
  refine (rot_16 _ _).mono ?_
  rintro e w' ⟨rfl, m, rfl⟩
  go_wp2_with fail
  refine (rot_12 _ _).mono ?_
  rintro e w' ⟨rfl, m2, rfl⟩
  go_wp2_with fail
  refine (rot_8 _ _).mono ?_
  rintro e w' ⟨rfl, m3, rfl⟩
  go_wp2_with fail
  refine (rot_7 _ _).mono ?_
  rintro e w' ⟨rfl, m4, rfl⟩
  go_wp2_with fail
  go_region
  go_end0
  exact ⟨rfl, FIN.out _⟩
end Go.Proofs.Ytpegihfocnchnaa
