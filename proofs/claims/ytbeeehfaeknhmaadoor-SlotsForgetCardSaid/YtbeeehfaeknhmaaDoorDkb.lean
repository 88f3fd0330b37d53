import Derived.Test.YtbeeehfaeknhmaaDoorDka
/-
  disk: Off, Size, has, Fuse.
-/
namespace Go.Proofs.YtbeeehfaeknhmaaDoor
open Go.RowKit

section
variable {w : World} {n D R : Nat} {ss : List Sec} {off : Bool} {fuse : Int} {pv : Nat → Value}
set_option maxRecDepth 100000 in
theorem off_any (h : DkS w n D R ss off fuse pv) : Calls Tryd.prog 27 #[.pointer (some ⟨D, 0, none⟩)] w fun e w' => e = .returned (.bool off) ∧ Below w.heap.size w w' := by
  have hc := h.offc
  have hb := Below.refl w.heap.size w
  clear h
  go_enter Tryd.func27, Tryd.ntmps27
  go_wp2_with fail
  go_ret
  exact ⟨rfl, hb⟩
set_option maxRecDepth 100000 in
theorem size_any (h : DkS w n D R ss off fuse pv) : Calls Tryd.prog 61 #[.pointer (some ⟨D, 0, none⟩)] w fun e w' => e = .returned (.int .i64 (ss.length : Int)) ∧ Below w.heap.size w w' := by
  have hc := h.hdr
  have hb := Below.refl w.heap.size w
  clear h
  go_enter Tryd.func61, Tryd.ntmps61
  go_wp2_with fail
  go_ret
  exact ⟨rfl, hb⟩
set_option maxRecDepth 100000 in
theorem fuse_any (h : DkS w n D R ss off fuse pv) (x : Int) (hx : x ≤ 9223372036854775807) : Calls Tryd.prog 19 #[.pointer (some ⟨D, 0, none⟩), .int .i64 x] w fun e w' => e = .returned (.tuple #[]) ∧ DkS w' n D R ss off (max x (-1)) pv ∧ Turn (· = D) w w' := by
  have hc := h.fusc
  have hf := (h.frz 2).1
  have H := Lib.hid (h.set (off' := off) (fuse' := max x (-1)) 2 (.int .i64 (max x (-1))) (.inr ⟨rfl, rfl, rfl, by omega, by omega⟩))
  clear h
  go_enter Tryd.func19, Tryd.ntmps19
  go_wp2_with fail
  · go_end0
    have H1 := H.out
    rw [show max x (-1) = (-1 : Int) by omega] at H1 ⊢
    exact ⟨rfl, H1⟩
  · go_end0
    have H1 := H.out
    rw [show max x (-1) = x by omega] at H1 ⊢
    exact ⟨rfl, H1⟩
set_option maxRecDepth 100000 in
theorem has_any (h : DkS w n D R ss off fuse pv) (i : Int) : Calls Tryd.prog 54 #[.pointer (some ⟨D, 0, none⟩), .int .i64 i] w fun e w' => e = .returned (.bool (decide (0 ≤ i) && decide (i < (ss.length : Int)))) ∧ Below w.heap.size w w' := by
  have hc := h.hdr
  have hb := Below.refl w.heap.size w
  clear h
  by_cases h0 : 0 ≤ i
  · by_cases h1 : i < (ss.length : Int)
    · go_enter Tryd.func54, Tryd.ntmps54
      go_wp2_with fail
      go_ret
      exact ⟨by simp [h0, h1], hb⟩
    · go_enter Tryd.func54, Tryd.ntmps54
      go_wp2_with fail
      go_ret
      exact ⟨by simp [h1], hb⟩
  · go_enter Tryd.func54, Tryd.ntmps54
    go_wp2_with fail
    go_ret
    exact ⟨by rw [decide_eq_false (by omega), Bool.false_and]; rfl, hb⟩
/-- what draws the power -/
def drawV (E : Nat → Addr) (fuse : Int) : Value := if fuse = 0 then errV (E 0) else .nilIface
def drawO (off : Bool) (fuse : Int) : Bool := off || decide (fuse = 0)
def drawF (fuse : Int) : Int := if 0 < fuse then fuse - 1 else fuse
set_option maxRecDepth 100000 in
set_option maxHeartbeats 800000 in
theorem draw_any0 (E : Nat → Addr) (hE : ErrD E w) (h : DkS w n D R ss off fuse pv) (V : Value) (O : Bool) (Z : Int) (hV : drawV E fuse = V) (hO : drawO off fuse = O) (hZ : drawF fuse = Z) :
    Calls Tryd.prog 55 #[.pointer (some ⟨D, 0, none⟩)] w fun e w' => e = .returned V ∧ DkS w' n D R ss O Z pv ∧ Turn (· = D) w w' := by
  have hc := h.fusc
  have hf := (h.frz 2).1
  have hf1 := (h.frz 1).1
  have he : w.cell? ⟨2, 0, none⟩ = some (errV (E 0)) := hE.c 0 (by decide)
  have hoc := h.offc
  have hz := h.fz
  have hb := Turn.of_below (F := (· = D)) (Below.refl w.heap.size w)
  unfold drawV at hV
  unfold drawO at hO
  unfold drawF at hZ
  by_cases h1 : fuse = -1
  · subst h1
    rw [if_neg (by decide)] at hV
    rw [if_neg (by decide)] at hZ
    rw [decide_eq_false (by decide), Bool.or_false] at hO
    subst hV hO hZ
    have H := Lib.hid h
    clear h hE
    go_enter Tryd.func55, Tryd.ntmps55
    go_wp2_with fail
    go_ret
    exact ⟨rfl, H.out, hb⟩
  by_cases h0 : fuse = 0
  · subst h0
    rw [if_pos rfl] at hV
    rw [if_neg (by decide)] at hZ
    rw [decide_eq_true rfl, Bool.or_true] at hO
    subst hV hO hZ
    have H := Lib.hid (h.set (off' := true) (fuse' := 0) 1 (.bool true) (.inl ⟨rfl, rfl, rfl⟩))
    have he2 : (w.setCell ⟨D, 1, none⟩ (.bool true)).cell? ⟨2, 0, none⟩ = some (errV (E 0)) := by
      rw [World.cell?_setCell_other _ _ _ _ (by intro e; cases e)]
      exact he
    clear h hE h1 he
    go_enter Tryd.func55, Tryd.ntmps55
    go_wp2_with fail
    go_ret
    exact ⟨rfl, H.out⟩
  · rw [if_neg h0] at hV
    rw [if_pos (by omega)] at hZ
    rw [decide_eq_false h0, Bool.or_false] at hO
    subst hV hO
    have H := Lib.hid (h.set (off' := off) (fuse' := fuse - 1) 2 (.int .i64 (fuse - 1)) (.inr ⟨rfl, rfl, rfl, by omega, by omega⟩))
    have HZ := Lib.hid hZ
    clear h hE hZ
    have q1 : (fuse == -1) = false := by simpa using h1
    have q0 : (fuse == 0) = false := by simpa using h0
    go_enter Tryd.func55, Tryd.ntmps55
    go_wp2_with fail
    go_ret
    rw [← HZ.out]
    exact ⟨rfl, H.out⟩
theorem draw_any (E : Nat → Addr) (hE : ErrD E w) (h : DkS w n D R ss off fuse pv) :
    Calls Tryd.prog 55 #[.pointer (some ⟨D, 0, none⟩)] w fun e w' => e = .returned (drawV E fuse) ∧ DkS w' n D R ss (drawO off fuse) (drawF fuse) pv ∧ Turn (· = D) w w' := draw_any0 E hE h _ _ _ rfl rfl rfl
end
end Go.Proofs.YtbeeehfaeknhmaaDoor
