import Derived.Test.YtffkjbbhbpaacaaKit
namespace Go.Proofs.Ytffkjbbhbpaacaa
open Go.RowKit

def SameTo (xs ys : List Int) (k : Nat) : Prop := ∀ j, j < k → xs[j]? = ys[j]?

set_option maxHeartbeats 800000 in
theorem sameBytes_any (A B : Option Addr) (xs ys : List Int) (ca cb : Nat) (w : World) (hA : SlRead w A (ints .u8 xs)) (hB : SlRead w B (ints .u8 ys)) (hx : xs.length ≤ 9223372036854775807) (_hy : ys.length ≤ 9223372036854775807) :
    Quiets Try.prog 9 #[.slice A xs.length ca, .slice B ys.length cb] w (.bool (decide (xs = ys))) := by
  unfold Quiets
  by_cases hne : xs.length = ys.length
  · have hlb : ((xs.length : Int) != (ys.length : Int)) = false := by simp [hne]
    have HN := Lib.hid hne; clear hne
    go_enter Try.func9, Try.ntmps9
    go_wp2
    go_loopw [5] (fun i wr => ∃ k m : Nat, k ≤ xs.length ∧ i = .int .i64 k ∧ wr = w.drewN m ∧ SameTo xs ys k) (fun i _ => xs.length - (intOf i).toNat)
    case atStart => exact ⟨0, 0, by omega, rfl, rfl, fun j h => by omega⟩
    case round =>
      obtain ⟨k, m, hk, rfl, rfl, HA⟩ := hrel
      by_cases hlt : k < xs.length
      · obtain ⟨b, o, x, rfl, hc, hxk⟩ := hA.at_ hlt
        obtain ⟨b', o', y, rfl, hc', hyk⟩ := hB.at_ (j := k) (by have := HN.out; omega)
        have hlt2 : k < ys.length := by have := HN.out; omega
        have HX := Lib.hid hxk; clear hxk
        have HY := Lib.hid hyk; clear hyk
        by_cases he : x = y
        · subst he
          go_wp2
          go_quiet (fail)
          go_wp2
          go_roundw
          case rel => exact ⟨k + 1, _, by omega, by go_num, rfl, fun j hj => by
            rcases Nat.lt_or_eq_of_le (Nat.le_of_lt_succ hj) with h | h
            · exact HA j h
            · rw [h, HX.out, HY.out]⟩
          case measure => simp [intOf]; omega
        · have hb : (x == y) = false := by simpa using he
          have hfin : decide (xs = ys) = false := by
            simp only [decide_eq_false_iff_not]
            intro e
            have h1 := HX.out
            rw [e, HY.out] at h1
            exact he (Option.some.inj h1).symm
          have HF := Lib.hid hfin; clear he hfin
          go_wp2
          go_quiet (fail)
          go_wp2
          go_ret
          exact ⟨by rw [HF.out]; rfl, _, rfl⟩
      · have hfin : decide (xs = ys) = true := by
          simp only [decide_eq_true_eq]
          refine List.ext_getElem? fun j => ?_
          by_cases hj : j < k
          · exact HA j hj
          · rw [List.getElem?_eq_none (by omega), List.getElem?_eq_none (by have := HN.out; omega)]
        have HF := Lib.hid hfin; clear hfin
        go_wp2
        go_ret
        exact ⟨by rw [HF.out]; rfl, _, rfl⟩
  · have hlb : ((xs.length : Int) != (ys.length : Int)) = true := by simp; omega
    have hfin : decide (xs = ys) = false := by
      simp only [decide_eq_false_iff_not]
      intro e; exact hne (by rw [e])
    rw [hfin]
    clear hne hfin
    go_enter Try.func9, Try.ntmps9
    go_wp2
    go_ret
    exact ⟨rfl, 0, rfl⟩

theorem Try.info5 : (Try.prog.info? 5).map (fun i => (i.zero, i.size, i.bytes)) = some (some (.int .u8 0), 1, 1) := by kernel_rfl

/-- what a copy of bytes leaves: new memory that is its own -/
def CopyAt (w : World) (xs : List Int) (k : Nat) (v : Value) (wr : World) : Prop :=
  wr.ownsRow w.heap.size 5 1 v k (ints .u8 (xs.take k)) ∧ Below w.heap.size w wr

end Go.Proofs.Ytffkjbbhbpaacaa
