import Derived.Test.YtffkjbbhbpaacaaDoorKit
namespace Go.Proofs.YtffkjbbhbpaacaaDoor
open Go.RowKit

def SameTo (xs ys : List Int) (k : Nat) : Prop := ∀ j, j < k → xs[j]? = ys[j]?

set_option maxHeartbeats 800000 in
theorem sameBytes_any (A B : Option Addr) (xs ys : List Int) (ca cb : Nat) (w : World) (hA : SlRead w A (ints .u8 xs)) (hB : SlRead w B (ints .u8 ys)) (hx : xs.length ≤ 9223372036854775807) (_hy : ys.length ≤ 9223372036854775807) :
    Quiets Tryd.prog 32 #[.slice A xs.length ca, .slice B ys.length cb] w (.bool (decide (xs = ys))) := by
  unfold Quiets
  by_cases hne : xs.length = ys.length
  · have hlb : ((xs.length : Int) != (ys.length : Int)) = false := by simp [hne]
    have HN := Lib.hid hne; clear hne
    go_enter Tryd.func32, Tryd.ntmps32
    go_wp2
    go_loopw [5] (fun i wr => ∃ k m : Nat, k ≤ xs.length ∧ i = .int .i64 k ∧ wr = w.drewN m ∧ SameTo xs ys k) (fun i _ => xs.length - (intOf i).toNat)
    case atStart => exact ⟨0, 0, by omega, rfl, rfl, fun j h => by omega⟩
    case round =>
      obtain ⟨k, m, hk, rfl, rfl, HA⟩ := hrel
      by_cases hlt : k < xs.length
      · obtain ⟨b, o, x, rfl, hc, hxk⟩ := hA.at_ hlt
        obtain ⟨b', o', y, rfl, hc', hyk⟩ := hB.at_ (j := k) (by have := HN.out; omega)
        have hlt2 : k < ys.length := by have := HN.out; omega
        have HX := Lib.hid hxk; clear hxk
        have HY := Lib.hid hyk; clear hyk
        by_cases he : x = y
        · subst he
          go_wp2
          go_quiet (fail)
          go_wp2
          go_roundw
          case rel => exact ⟨k + 1, _, by omega, by go_num, rfl, fun j hj => by
            rcases Nat.lt_or_eq_of_le (Nat.le_of_lt_succ hj) with h | h
            · exact HA j h
            · rw [h, HX.out, HY.out]⟩
          case measure => simp [intOf]; omega
        · have hb : (x == y) = false := by simpa using he
          have hfin : decide (xs = ys) = false := by
            simp only [decide_eq_false_iff_not]
            intro e
            have h1 := HX.out
            rw [e, HY.out] at h1
            exact he (Option.some.inj h1).symm
          have HF := Lib.hid hfin; clear he hfin
          go_wp2
          go_quiet (fail)
          go_wp2
          go_ret
          exact ⟨by rw [HF.out]; rfl, _, rfl⟩
      · have hfin : decide (xs = ys) = true := by
          simp only [decide_eq_true_eq]
          refine List.ext_getElem? fun j => ?_
          by_cases hj : j < k
          · exact HA j hj
          · rw [List.getElem?_eq_none (by omega), List.getElem?_eq_none (by have := HN.out; omega)]
        have HF := Lib.hid hfin; clear hfin
        go_wp2
        go_ret
        exact ⟨by rw [HF.out]; rfl, _, rfl⟩
  · have hlb : ((xs.length : Int) != (ys.length : Int)) = true := by simp; omega
    have hfin : decide (xs = ys) = false := by
      simp only [decide_eq_false_iff_not]
      intro e; exact hne (by rw [e])
    rw [hfin]
    clear hne hfin
    go_enter Tryd.func32, Tryd.ntmps32
    go_wp2
    go_ret
    exact ⟨rfl, 0, rfl⟩

theorem Tryd.info5 : (Tryd.prog.info? 5).map (fun i => (i.zero, i.size, i.bytes)) = some (some (.int .u8 0), 1, 1) := by kernel_rfl

/-- what a copy of bytes leaves: new memory that is its own -/
def CopyAt (w : World) (xs : List Int) (k : Nat) (v : Value) (wr : World) : Prop :=
  wr.ownsRow w.heap.size 5 1 v k (ints .u8 (xs.take k)) ∧ Below w.heap.size w wr

set_option maxHeartbeats 1600000 in
set_option maxRecDepth 100000 in
theorem bytes_any (A : Option Addr) (xs : List Int) (ca : Nat) (w : World) (hA : SlRead w A (ints .u8 xs)) (hx : xs.length ≤ 140737488351232) :
    Calls Tryd.prog 31 #[.slice A xs.length ca] w fun e w' => ∃ v, e = .returned v ∧ w'.ownsRow w.heap.size 5 1 v xs.length (ints .u8 xs) ∧ Below w.heap.size w w' := by
  obtain ⟨i0, hi, hz0, hz1, hz2⟩ := info_parts Tryd.info5
  go_enter Tryd.func31, Tryd.ntmps31
  go_wp2_with (at_make; refine wpList_make_own _ rfl _ _ 25 rfl w.heap.size 5 i0 (.int .u8 0) 1 Tryd.underlying25 hi hz0 hz1 _ _ _ xs.length rfl rfl rfl ?c1 ?c2 ?c3 ?_)
  case c1 => rw [hz2]; omega
  case c2 => unfold maxLen; omega
  case c3 => exact Nat.le_refl _
  intro w1 hown hgrow
  go_wp2
  go_loopw [3, 4] (fun v i wr => ∃ k : Nat, k ≤ xs.length ∧ i = .int .i64 k ∧ CopyAt w xs k v wr) (fun _ i _ => xs.length - (intOf i).toNat)
  case atStart => exact ⟨0, by omega, rfl, hown, (Below.refl _ _).grown hgrow (Nat.le_refl _) (by intro k h; cases h)⟩
  case round =>
    obtain ⟨k, hk, rfl, hcopy, hb⟩ := hrel
    by_cases hlt : k < xs.length
    · obtain ⟨b, o, x, rfl, hc, hxk⟩ := (hA.below hb).at_ hlt
      have HX := Lib.hid hxk; clear hxk
      go_wp2_with (at_builtin; refine wpList_append_own _ rfl _ _ 25 rfl w.heap.size 5 i0 (.int .u8 0) 1 1 Tryd.underlying25 hi hz0 hz1 hz2 rfl (by decide) _ _ _ rfl (hcopy.alloc _) ⟨wr.heap.size, 0, none⟩ 1 1 [.int .u8 x] rfl rfl ?c1 ?c2 ?c3 ?c4 ?c5 ?_)
      case c1 => exact cell_one_new _ _ _
      case c2 => intro u hu; simp at hu; subst hu; rfl
      case c3 => unfold maxLen; omega
      case c4 => omega
      case c5 => have := hb.size; simp; omega
      intro v' w2 hown2 hgrow2 _
      rw [ints_snoc .u8 xs k x HX.out] at hown2
      have hb2 : Below w.heap.size w w2 := (hb.alloc hb.size _).grown hgrow2 (by have := hb.size; simp; omega) (fun j hj => (hcopy.lt j hj).1)
      clear hown hgrow hcopy hgrow2
      go_wp2
      go_roundw
      case rel => exact ⟨k + 1, by omega, by go_num, hown2, hb2⟩
      case measure => simp [intOf]; omega
    · have hkl : k = xs.length := by omega
      have hfin : xs.take k = xs := by rw [hkl]; simp
      rw [hfin, hkl] at hcopy
      have HK := Lib.hid hkl; clear hkl hfin
      go_wp2
      go_ret
      exact ⟨_, rfl, hcopy, hb⟩
end Go.Proofs.YtffkjbbhbpaacaaDoor
