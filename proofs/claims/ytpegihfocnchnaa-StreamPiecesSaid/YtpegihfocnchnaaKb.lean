import Derived.Test.YtpegihfocnchnaaKa
namespace Go.Proofs.Ytpegihfocnchnaa
open Go.RowKit

def colTo (s : Nat → BitVec 32) : Nat → Nat → BitVec 32
  | 0 => s
  | n + 1 => qs (colTo s n) n (4 + n) (8 + n) (12 + n)
def diaTo (s : Nat → BitVec 32) : Nat → Nat → BitVec 32
  | 0 => s
  | n + 1 => qs (diaTo s n) n (4 + (n + 1) % 4) (8 + (n + 2) % 4) (12 + (n + 3) % 4)
def dbl (s : Nat → BitVec 32) : Nat → BitVec 32 := diaTo (colTo s 4) 4

theorem quarter_any (b : Nat) (i j k l : Int) (s : Nat → BitVec 32) (w : World) (h : St w b s) (hi : 0 ≤ i ∧ i < 16) (hj : 0 ≤ j ∧ j < 16) (hk : 0 ≤ k ∧ k < 16) (hl : 0 ≤ l ∧ l < 16)
   (hij : i ≠ j) (hik : i ≠ k) (hil : i ≠ l) (hjk : j ≠ k) (hjl : j ≠ l) (hkl : k ≠ l) :
  Calls Try.prog 29 #[.pointer (some ⟨b, 0, none⟩), .int .i64 i, .int .i64 j, .int .i64 k, .int .i64 l] w fun e w' => e = .returned (.tuple #[]) ∧ St w' b (qs s i.toNat j.toNat k.toNat l.toNat) ∧ Only b w w' := by
  have e1 : i = (i.toNat : Int) := by omega
  have e2 : j = (j.toNat : Int) := by omega
  have e3 : k = (k.toNat : Int) := by omega
  have e4 : l = (l.toNat : Int) := by omega
  have := quarter_nat b i.toNat j.toNat k.toNat l.toNat s w h (by omega) (by omega) (by omega) (by omega) (by omega) (by omega) (by omega) (by omega) (by omega) (by omega)
  rwa [← e1, ← e2, ← e3, ← e4] at this

set_option maxHeartbeats 800000 in
theorem dbl_any (b : Nat) (s : Nat → BitVec 32) (w : World) (h : St w b s) :
    Calls Try.prog 21 #[.pointer (some ⟨b, 0, none⟩)] w fun e w' => e = .returned (.tuple #[]) ∧ St w' b (dbl s) ∧ Only b w w' := by
  go_enter Try.func21, Try.ntmps21
  go_wp2
  go_loopw [4] (fun i wr => ∃ k : Nat, k ≤ 4 ∧ i = .int .i64 k ∧ St wr b (colTo s k) ∧ Only b w wr) (fun i _ => 4 - (intOf i).toNat)
  case atStart => exact ⟨0, by omega, rfl, h, Only.refl _ _⟩
  clear h
  case round =>
    obtain ⟨k, hk, rfl, hst, ho⟩ := hrel
    by_cases hlt : k < 4
    · go_wp2_with fail
      refine (quarter_any b k (4 + k) (8 + k) (12 + k) _ _ hst (by omega) (by omega) (by omega) (by omega) (by omega) (by omega) (by omega) (by omega) (by omega) (by omega)).mono ?_
      rintro e w1 ⟨rfl, h1, ho1⟩
      have ho2 := ho.trans ho1
      rw [show ((k : Int)).toNat = k by omega, show (4 + (k : Int)).toNat = 4 + k by omega, show (8 + (k : Int)).toNat = 8 + k by omega, show (12 + (k : Int)).toNat = 12 + k by omega] at h1
      clear ho1 ho hst
      go_wp2_with fail
      go_roundw
      case rel => exact ⟨k + 1, by omega, by go_num, h1, ho2⟩
      case measure => simp [intOf]; omega
    · have hk4 : k = 4 := by omega
      rw [hk4] at hst
      clear hk4
      go_wp2
      go_loopw [17] (fun i wr' => ∃ k : Nat, k ≤ 4 ∧ i = .int .i64 k ∧ St wr' b (diaTo (colTo s 4) k) ∧ Only b w wr') (fun i _ => 4 - (intOf i).toNat)
      case atStart => exact ⟨0, by omega, rfl, hst, ho⟩
      clear hst ho
      case round =>
        obtain ⟨k2, hk2, rfl, hst, ho⟩ := hrel
        by_cases hlt2 : k2 < 4
        · go_wp2_with fail
          refine (quarter_any b k2 (4 + (k2 + 1) % 4) (8 + (k2 + 2) % 4) (12 + (k2 + 3) % 4) _ _ hst (by omega) (by omega) (by omega) (by omega) (by omega) (by omega) (by omega) (by omega) (by omega) (by omega)).mono ?_
          rintro e w1 ⟨rfl, h1, ho1⟩
          have ho2 := ho.trans ho1
          rw [show ((k2 : Int)).toNat = k2 by omega, show (4 + ((k2 : Int) + 1) % 4).toNat = 4 + (k2 + 1) % 4 by omega, show (8 + ((k2 : Int) + 2) % 4).toNat = 8 + (k2 + 2) % 4 by omega, show (12 + ((k2 : Int) + 3) % 4).toNat = 12 + (k2 + 3) % 4 by omega] at h1
          clear ho1 ho hst
          go_wp2_with fail
          go_roundw
          case rel => exact ⟨k2 + 1, by omega, by go_num, h1, ho2⟩
          case measure => simp [intOf]; omega
        · have hk4 : k2 = 4 := by omega
          rw [hk4] at hst
          clear hk4
          go_wp2
          go_end0
          exact ⟨rfl, hst, ho⟩

def word (x y z u : BitVec 8) : BitVec 32 := x.setWidth 32 ||| y.setWidth 32 <<< 8 ||| z.setWidth 32 <<< 16 ||| u.setWidth 32 <<< 24

set_option maxHeartbeats 800000 in
theorem word_any (b o n c : Nat) (x y z u : BitVec 8) (w : World) (hn : 4 ≤ n) (hb : n ≤ 100)
    (c0 : w.cell? ⟨b, o, none⟩ = some (v8 x)) (c1 : w.cell? ⟨b, o + 1, none⟩ = some (v8 y)) (c2 : w.cell? ⟨b, o + 2, none⟩ = some (v8 z)) (c3 : w.cell? ⟨b, o + 3, none⟩ = some (v8 u)) :
    Quiets Try.prog 28 #[.slice (some ⟨b, o, none⟩) n c] w (v32 (word x y z u)) := by
  unfold Quiets
  have b0 := n8_hi x
  have b1 := n8_hi y
  have b2 := n8_hi z
  have b3 := n8_hi u
  have l0 := n8_lo x
  have l1 := n8_lo y
  have l2 := n8_lo z
  have l3 := n8_lo u
  have s1 := n8_shl8 y
  have s2 := n8_shl16 z
  have s3 := n8_shl24 u
  have hor := n32_or
  go_enter Try.func28, Try.ntmps28
  go_wp2
  go_quiet (fail)
  go_wp2
  go_ret
  exact ⟨rfl, _, rfl⟩
end Go.Proofs.Ytpegihfocnchnaa
