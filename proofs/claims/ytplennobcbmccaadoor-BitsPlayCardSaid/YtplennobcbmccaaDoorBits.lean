import Derived.Test.YtplennobcbmccaaDoorNum
namespace Go.Proofs.YtplennobcbmccaaDoor
open Go.RowKit

def trues (l : List Bool) : Nat := l.countP id

/-- a map of bits in memory: block b is the struct, block a its row -/
structure IsMap (w : World) (b a : Nat) (l : List Bool) : Prop where
  st : w.rowIs b 50 2 (fun i => if i = 0 then .slice (some ⟨a, 0, none⟩) l.length l.length else .int .i64 (trues l : Nat))
  row : w.rowIs a 4 l.length (fun i => .bool (l.getD i false))
  ne : a ≠ b
  hl : l.length ≤ 1000

namespace IsMap
variable {w : World} {b a : Nat} {l : List Bool}
theorem h0 (h : IsMap w b a l) : w.cell? ⟨b, 0, none⟩ = some (.slice (some ⟨a, 0, none⟩) l.length l.length) := h.st.cell (by omega)
theorem h1 (h : IsMap w b a l) : w.cell? ⟨b, 1, none⟩ = some (.int .i64 (trues l : Nat)) := h.st.cell (by omega)
theorem drewN (h : IsMap w b a l) (n : Nat) : IsMap (w.drewN n) b a l := ⟨h.st, h.row, h.ne, h.hl⟩
theorem drew (h : IsMap w b a l) : IsMap w.drew b a l := ⟨h.st, h.row, h.ne, h.hl⟩
end IsMap

set_option maxHeartbeats 400000 in
theorem count_any (b a : Nat) (l : List Bool) (w : World) (h : IsMap w b a l) : Quiets Tryd.prog 13 #[.pointer (some ⟨b, 0, none⟩)] w (.int .i64 (trues l : Nat)) := by
  unfold Quiets
  have h1 := h.h1
  clear h
  go_enter Tryd.func13, Tryd.ntmps13
  go_wp2
  go_ret
  exact ⟨rfl, 0, rfl⟩

set_option maxHeartbeats 400000 in
theorem size_any (b a : Nat) (l : List Bool) (w : World) (h : IsMap w b a l) : Quiets Tryd.prog 10 #[.pointer (some ⟨b, 0, none⟩)] w (.int .i64 (l.length : Nat)) := by
  unfold Quiets
  have h1 := h.h0
  clear h
  go_enter Tryd.func10, Tryd.ntmps10
  go_wp2
  go_ret
  exact ⟨rfl, 0, rfl⟩

theorem Tryd.info4 : (Tryd.prog.info? 4).map (fun i => (i.zero, i.size, i.bytes)) = some (some (.bool false), 1, 1) := by kernel_rfl

set_option maxHeartbeats 400000 in
theorem new_any (n : Nat) (w : World) (hx : n ≤ 1000) :
    Calls Tryd.prog 8 #[.int .i64 n] w fun e w' => ∃ b a, e = .returned (.pointer (some ⟨b, 0, none⟩)) ∧ IsMap w' b a (List.replicate n false) ∧ Below w.heap.size w w' ∧ w.heap.size ≤ a ∧ w.heap.size ≤ b := by
  have hmk := run_make_row' (P := Tryd.prog) 30 4 (.bool false) 1 Tryd.underlying30 Tryd.info4 rfl .i64 .i64 n (by omega) (by omega) w
  go_enter Tryd.func8, Tryd.ntmps8
  go_wp2
  go_ret
  refine ⟨_, _, rfl, ⟨?_, ?_, ?_, by simpa using hx⟩, ?_, Nat.le_refl _, by simp⟩
  · have e : (w.alloc (Obj.cells (madeCells #[Value.bool false] n) 4)).heap.size = w.heap.size + 1 := by simp
    rw [← e]
    refine (World.rowIs_alloc (w.alloc (Obj.cells (madeCells #[Value.bool false] n) 4)) #[_, _] _ _ fun i hi => ?_)
    have : i = 0 ∨ i = 1 := by simp at hi; omega
    rcases this with rfl | rfl
    · simp
    · simp [trues, List.countP_replicate]
  · refine World.rowIs.alloc ?_ _
    have := (World.rowIs_made w (.bool false) n 4).congr (g := fun i => .bool ((List.replicate n false).getD i false)) fun i hi => ?_
    · simpa using this
    · simp [hi]
  · simp
  · go_grown

set_option maxHeartbeats 400000 in
theorem has_any (b a : Nat) (l : List Bool) (i : Int) (w : World) (h : IsMap w b a l) :
    Quiets Tryd.prog 19 #[.pointer (some ⟨b, 0, none⟩), .int .i64 i] w (.bool (decide (0 ≤ i) && l.getD i.toNat false)) := by
  unfold Quiets
  have h0 := h.h0
  by_cases hi : 0 ≤ i
  · obtain ⟨k, rfl⟩ := Int.eq_ofNat_of_zero_le hi
    have hl := h.hl
    by_cases hk : k < l.length
    · have hc := h.row.cell hk
      go_enter Tryd.func19, Tryd.ntmps19
      go_wp2_with (go_at_call 10; refine (size_any b a l _ h).mono ?_; rintro e w' ⟨rfl, m, rfl⟩)
      go_ret
      exact ⟨by simp [hk], _, rfl⟩
    · have hk2 : l.length ≤ k := by omega
      go_enter Tryd.func19, Tryd.ntmps19
      go_wp2_with (go_at_call 10; refine (size_any b a l _ h).mono ?_; rintro e w' ⟨rfl, m, rfl⟩)
      go_ret
      exact ⟨by simp [hk2], _, rfl⟩
  · go_enter Tryd.func19, Tryd.ntmps19
    go_wp2
    go_ret
    exact ⟨by simp; omega, 0, rfl⟩

theorem Map.set_trues (l : List Bool) (k : Nat) (h : k < l.length) (hk : l.getD k false = false) : trues (l.set k true) = trues l + 1 := by
  unfold trues
  induction l generalizing k with
  | nil => simp at h
  | cons x l ih =>
    cases k with
    | zero => simp at hk; subst hk; simp
    | succ k => 
      simp at hk h
      simp only [List.set_cons_succ, List.countP_cons]
      rw [ih k h (by simpa using hk)]; omega

theorem IsMap.set {w : World} {b a : Nat} {l : List Bool} (h : IsMap w b a l) (k : Nat) (hk : k < l.length) (hf : l.getD k false = false) :
    IsMap ((w.setCell ⟨a, k, none⟩ (.bool true)).setCell ⟨b, 1, none⟩ (.int .i64 ((trues l : Nat) + 1))) b a (l.set k true) := by
  refine ⟨?_, ?_, h.ne, by simpa using h.hl⟩
  · refine ((h.st.setOther (a := ⟨a, k, none⟩) (fun e => h.ne e.symm) (.bool true)).set 1 _).congr fun i hi => ?_
    have : i = 0 ∨ i = 1 := by omega
    rcases this with rfl | rfl
    · simp
    · simp [Map.set_trues l k hk hf]
  · have := ((h.row.set k (.bool true)).setOther (a := ⟨b, 1, none⟩) h.ne (.int .i64 ((trues l : Nat) + 1))).congr (g := fun i => .bool ((l.set k true).getD i false)) fun i hi => ?_
    · simpa using this
    · by_cases e : i = k
      · subst e; simp [hk]
      · simp [e, Ne.symm e]

def setVal (l : List Bool) (i : Int) : Bool := decide (0 ≤ i) && (decide (i < l.length) && !l.getD i.toNat false)
def setList (l : List Bool) (i : Int) : List Bool := if 0 ≤ i then l.set i.toNat true else l

set_option maxHeartbeats 400000 in
theorem set_no (b a : Nat) (l : List Bool) (i : Int) (w : World) (h : IsMap w b a l) (hv : ¬ (0 ≤ i ∧ i < l.length ∧ l.getD i.toNat false = false)) :
    Quiets Tryd.prog 11 #[.pointer (some ⟨b, 0, none⟩), .int .i64 i] w (.bool false) := by
  unfold Quiets
  have h0 := h.h0
  by_cases hi : 0 ≤ i
  · obtain ⟨k, rfl⟩ := Int.eq_ofNat_of_zero_le hi
    have hl := h.hl
    by_cases hk : k < l.length
    · have hc := h.row.cell hk
      have e : l.getD k false = true := by
        cases hh : l.getD k false
        · exact absurd ⟨hi, by omega, by simpa using hh⟩ hv
        · rfl
      rw [e] at hc
      clear e hv
      go_enter Tryd.func11, Tryd.ntmps11
      go_wp2_with (go_at_call 10; refine (size_any b a l _ h).mono ?_; rintro e w' ⟨rfl, m, rfl⟩)
      go_ret
      exact ⟨rfl, _, rfl⟩
    · have hk2 : l.length ≤ k := by omega
      clear hv
      go_enter Tryd.func11, Tryd.ntmps11
      go_wp2_with (go_at_call 10; refine (size_any b a l _ h).mono ?_; rintro e w' ⟨rfl, m, rfl⟩)
      go_ret
      exact ⟨rfl, _, rfl⟩
  · clear hv
    have hi2 : i < 0 := by omega
    go_enter Tryd.func11, Tryd.ntmps11
    go_wp2
    go_ret
    exact ⟨rfl, 0, rfl⟩

set_option maxHeartbeats 400000 in
theorem set_yes (b a : Nat) (l : List Bool) (k : Nat) (w : World) (h : IsMap w b a l) (hk : k < l.length) (hf : l.getD k false = false) :
    Calls Tryd.prog 11 #[.pointer (some ⟨b, 0, none⟩), .int .i64 k] w fun e w' => e = .returned (.bool true) ∧ ∃ m, w' = ((w.drewN m).setCell ⟨a, k, none⟩ (.bool true)).setCell ⟨b, 1, none⟩ (.int .i64 ((trues l : Nat) + 1)) := by
  have h0 := h.h0
  have h1 := h.h1
  have f1 := h.st.frozen 1
  have fk := h.row.frozen k
  have hl := h.hl
  have hc := h.row.cell hk
  have htl : trues l ≤ 1000 := Nat.le_trans (List.countP_le_length) h.hl
  have hne := h.ne
  rw [hf] at hc
  go_enter Tryd.func11, Tryd.ntmps11
  go_wp2_with (go_at_call 10; refine (size_any b a l _ h).mono ?_; rintro e w' ⟨rfl, m, rfl⟩)
  go_ret
  exact ⟨rfl, m, rfl⟩

/-- from place s on, round: the first that is not there is d further -/
structure NextAt (l : List Bool) (s d : Nat) : Prop where
  lt : d < l.length
  no : l.getD ((s + d) % l.length) true = false
  yes : ∀ j, j < d → l.getD ((s + j) % l.length) false = true

end Go.Proofs.YtplennobcbmccaaDoor
