import Derived.Test.YtpegihfocnchnaaDoorKh
namespace Go.Proofs.YtpegihfocnchnaaDoor
open Go.RowKit

theorem n8_nat (x : BitVec 8) : n8 x = (x.toNat : Int) := by
  unfold n8 n32
  simp only [BitVec.toNat_setWidth]
  have := x.isLt
  omega
theorem n8_xor (x y : BitVec 8) : bits .xor .u8 (n8 x) (n8 y) = n8 (x ^^^ y) := by
  rw [u8_xor _ _ (n8_lo _) (n8_hi _) (n8_lo _) (n8_hi _), n8_nat, n8_nat, n8_nat, BitVec.toNat_xor]
  simp
theorem n8_or (x y : BitVec 8) : bits .or .u8 (n8 x) (n8 y) = n8 (x ||| y) := by
  rw [u8_or _ _ (n8_lo _) (n8_hi _) (n8_lo _) (n8_hi _), n8_nat, n8_nat, n8_nat, BitVec.toNat_or]
  simp
theorem n8_zero (x : BitVec 8) : (n8 x == 0) = decide (x = 0#8) := by
  rw [n8_nat, Bool.eq_iff_iff]
  simp only [beq_iff_eq, decide_eq_true_eq]
  constructor
  · intro h
    apply BitVec.eq_of_toNat_eq
    simpa using h
  · intro h; subst h; rfl
theorem or_zero (x y z : BitVec 8) : (x ||| (y ^^^ z)) = 0#8 ↔ x = 0#8 ∧ y = z := by
  constructor
  · intro h
    have h1 : x = 0#8 := by
      apply BitVec.eq_of_getLsbD_eq
      intro i hi
      have := congrArg (·.getLsbD i) h
      simp at this ⊢
      simp [this]
    refine ⟨h1, ?_⟩
    subst h1
    apply BitVec.eq_of_getLsbD_eq
    intro i hi
    have := congrArg (·.getLsbD i) h
    simpa using this
  · rintro ⟨rfl, rfl⟩; simp

def SameN (xs ys : List (BitVec 8)) (k : Nat) : Prop := ∀ j, j < k → xs[j]? = ys[j]?

set_option maxHeartbeats 800000 in
theorem meq_any (A B : Option Addr) (xs ys : List (BitVec 8)) (ca cb : Nat) (w : World) (hA : SlRead w A (ints .u8 (bys xs))) (hB : SlRead w B (ints .u8 (bys ys))) (hx : xs.length ≤ 9223372036854775807) (_hy : ys.length ≤ 9223372036854775807) :
    Quiets Tryd.prog 37 #[.slice A xs.length ca, .slice B ys.length cb] w (.bool (decide (xs = ys))) := by
  unfold Quiets
  by_cases hne : xs.length = ys.length
  · have hlb : ((xs.length : Int) != (ys.length : Int)) = false := by simp [hne]
    have HN := Lib.hid hne; clear hne
    go_enter Tryd.func37, Tryd.ntmps37
    go_wp2
    go_loopw [5, 14] (fun d i wr => ∃ (k m : Nat) (D : BitVec 8), k ≤ xs.length ∧ i = .int .i64 k ∧ d = v8 D ∧ wr = w.drewN m ∧ (D = 0#8 ↔ SameN xs ys k)) (fun _ i _ => xs.length - (intOf i).toNat)
    case atStart => exact ⟨0, 0, 0#8, by omega, rfl, rfl, rfl, ⟨fun _ j h => by omega, fun _ => rfl⟩⟩
    case round =>
      obtain ⟨k, m, D, hk, rfl, rfl, rfl, HA⟩ := hrel
      by_cases hlt : k < xs.length
      · obtain ⟨b, o, rfl, hc⟩ := hA.byte hlt
        obtain ⟨b', o', rfl, hc'⟩ := hB.byte (j := k) (by have := HN.out; omega)
        have hlt2 : k < ys.length := by have := HN.out; omega
        have hstep : ((D ||| (xs[k] ^^^ ys[k])) = 0#8 ↔ SameN xs ys (k + 1)) := by
          rw [or_zero, HA]
          constructor
          · rintro ⟨h1, h2⟩ j hj
            rcases Nat.lt_or_eq_of_le (Nat.le_of_lt_succ hj) with h | h
            · exact h1 j h
            · subst h; simp [hlt, hlt2, h2]
          · intro h
            refine ⟨fun j hj => h j (by omega), ?_⟩
            have := h k (by omega)
            simpa [hlt, hlt2] using this
        have HS := Lib.hid hstep; clear hstep
        generalize xs[k] = x at *
        generalize ys[k] = y at *
        have e1 := n8_xor x y
        have e2 := n8_or D (x ^^^ y)
        go_wp2_with fail
        go_quiet (fail)
        go_wp2_with fail
        go_roundw
        case rel => exact ⟨k + 1, _, _, by omega, by go_num, rfl, rfl, HS.out⟩
        case measure => simp [intOf]; omega
      · have hfin : (n8 D == 0) = decide (xs = ys) := by
          rw [n8_zero, Bool.eq_iff_iff]
          simp only [decide_eq_true_eq]
          rw [HA]
          constructor
          · intro h
            refine List.ext_getElem? fun j => ?_
            by_cases hj : j < k
            · exact h j hj
            · rw [List.getElem?_eq_none (by omega), List.getElem?_eq_none (by have := HN.out; omega)]
          · intro h; subst h; exact fun _ _ => rfl
        have HF := Lib.hid hfin; clear hfin
        go_wp2_with fail
        go_ret
        exact ⟨by rw [← HF.out]; rfl, _, rfl⟩
  · have hlb : ((xs.length : Int) != (ys.length : Int)) = true := by simp; omega
    have hfin : decide (xs = ys) = false := by
      simp only [decide_eq_false_iff_not]
      intro e; exact hne (by rw [e])
    rw [hfin]
    clear hne hfin
    go_enter Tryd.func37, Tryd.ntmps37
    go_wp2
    go_ret
    exact ⟨rfl, 0, rfl⟩
end Go.Proofs.YtpegihfocnchnaaDoor
