import Derived.Test.YtihnpcoiadbpiaaDoorRev
namespace Go.Proofs.YtihnpcoiadbpiaaDoor
open Go.RowKit

theorem spl_pos (n : Nat) (h : 2 ≤ n) : 1 ≤ spl n := by
  have := spl_spec n h
  omega
/-- from the bottom to the top: does the way come from the right? -/
def turnsF : Nat → Nat → Nat → List Bool
  | 0, _, _ => []
  | f + 1, i, n => if n ≤ 1 then [] else if i < spl n then turnsF f i (spl n) ++ [false] else turnsF f (i - spl n) (n - spl n) ++ [true]
def turnsOf (i n : Nat) : List Bool := turnsF n i n
theorem turnsF_eq : ∀ (f g i n : Nat), n ≤ f → n ≤ g → turnsF f i n = turnsF g i n
  | 0, 0, _, _, _, _ => rfl
  | 0, g + 1, i, n, h, _ => by
    obtain rfl : n = 0 := by omega
    simp [turnsF]
  | f + 1, 0, i, n, _, h => by
    obtain rfl : n = 0 := by omega
    simp [turnsF]
  | f + 1, g + 1, i, n, h1, h2 => by
    unfold turnsF
    by_cases h : n ≤ 1
    · rw [if_pos h, if_pos h]
    · have hs := spl_spec n (by omega)
      have hp := spl_pos n (by omega)
      rw [if_neg h, if_neg h, turnsF_eq f g i (spl n) (by omega) (by omega), turnsF_eq f g (i - spl n) (n - spl n) (by omega) (by omega)]
theorem turnsOf_one (i n : Nat) (h : n ≤ 1) : turnsOf i n = [] := by
  unfold turnsOf
  rcases n with _ | n
  · rfl
  · simp [turnsF, h]
theorem turnsOf_left (i n : Nat) (h : 2 ≤ n) (hi : i < spl n) : turnsOf i n = turnsOf i (spl n) ++ [false] := by
  obtain ⟨m, rfl⟩ : ∃ m, n = m + 1 := ⟨n - 1, by omega⟩
  have hs := spl_spec (m + 1) h
  unfold turnsOf
  rw [show turnsF (m + 1) i (m + 1) = turnsF m i (spl (m + 1)) ++ [false] by
    show (if m + 1 ≤ 1 then [] else if i < spl (m + 1) then _ else _) = _
    rw [if_neg (by omega), if_pos hi]]
  rw [turnsF_eq m (spl (m + 1)) i _ (by omega) (Nat.le_refl _)]
theorem turnsOf_right (i n : Nat) (h : 2 ≤ n) (hi : ¬ i < spl n) : turnsOf i n = turnsOf (i - spl n) (n - spl n) ++ [true] := by
  obtain ⟨m, rfl⟩ : ∃ m, n = m + 1 := ⟨n - 1, by omega⟩
  have hs := spl_spec (m + 1) h
  have hp := spl_pos (m + 1) h
  unfold turnsOf
  rw [show turnsF (m + 1) i (m + 1) = turnsF m (i - spl (m + 1)) (m + 1 - spl (m + 1)) ++ [true] by
    show (if m + 1 ≤ 1 then [] else if i < spl (m + 1) then _ else _) = _
    rw [if_neg (by omega), if_neg hi]]
  rw [turnsF_eq m (m + 1 - spl (m + 1)) (i - spl (m + 1)) _ (by omega) (Nat.le_refl _)]
theorem turnsOf_short : ∀ (d i n : Nat), n ≤ 2 ^ d → (turnsOf i n).length ≤ d
  | 0, i, n, h => by rw [turnsOf_one i n (by simpa using h)]; simp
  | d + 1, i, n, h => by
    by_cases h2 : 2 ≤ n
    · have hs := spl_spec n h2
      have hsp : spl n ≤ 2 ^ d := by
        have e : spl n = 2 ^ (bl8 (n - 1) - 1) := by unfold spl; rw [if_neg (by omega)]
        rw [e]
        have : 2 ^ (bl8 (n - 1) - 1) < 2 ^ (d + 1) := by rw [← e]; omega
        have := (Nat.pow_lt_pow_iff_right (a := 2) (by omega)).1 this
        exact Nat.pow_le_pow_right (by omega) (by omega)
      by_cases hi : i < spl n
      · rw [turnsOf_left i n h2 hi, List.length_append]
        have := turnsOf_short d i (spl n) hsp
        simp; omega
      · rw [turnsOf_right i n h2 hi, List.length_append]
        have := turnsOf_short d (i - spl n) (n - spl n) (by omega)
        simp; omega
    · rw [turnsOf_one i n (by omega)]; simp

/-- the roots beside the way, from the bottom to the top -/
def pathF : Nat → Nat → List (Nat → BitVec 8) → List (Nat → BitVec 8)
  | 0, _, _ => []
  | f + 1, i, hs => if hs.length ≤ 1 then [] else if i < spl hs.length then pathF f i (hs.take (spl hs.length)) ++ [rootOf (hs.drop (spl hs.length))] else pathF f (i - spl hs.length) (hs.drop (spl hs.length)) ++ [rootOf (hs.take (spl hs.length))]
def pathOf (i : Nat) (hs : List (Nat → BitVec 8)) : List (Nat → BitVec 8) := pathF hs.length i hs
theorem pathF_eq : ∀ (f g i : Nat) (hs : List (Nat → BitVec 8)), hs.length ≤ f → hs.length ≤ g → pathF f i hs = pathF g i hs
  | 0, 0, _, _, _, _ => rfl
  | 0, g + 1, i, hs, h, _ => by
    unfold pathF
    rw [if_pos (by omega)]
  | f + 1, 0, i, hs, _, h => by
    unfold pathF
    rw [if_pos (by omega)]
  | f + 1, g + 1, i, hs, h1, h2 => by
    unfold pathF
    by_cases h : hs.length ≤ 1
    · rw [if_pos h, if_pos h]
    · have hsp := spl_spec hs.length (by omega)
      have hp := spl_pos hs.length (by omega)
      rw [if_neg h, if_neg h, pathF_eq f g i (hs.take _) (by rw [List.length_take]; omega) (by rw [List.length_take]; omega), pathF_eq f g (i - spl hs.length) (hs.drop _) (by rw [List.length_drop]; omega) (by rw [List.length_drop]; omega)]
theorem pathOf_one (i : Nat) (hs : List (Nat → BitVec 8)) (h : hs.length ≤ 1) : pathOf i hs = [] := by
  unfold pathOf
  rcases e : hs.length with _ | n
  · rfl
  · unfold pathF; rw [if_pos h]
theorem pathOf_left (i : Nat) (hs : List (Nat → BitVec 8)) (h : 2 ≤ hs.length) (hi : i < spl hs.length) : pathOf i hs = pathOf i (hs.take (spl hs.length)) ++ [rootOf (hs.drop (spl hs.length))] := by
  have hsp := spl_spec hs.length h
  unfold pathOf
  rw [show pathF hs.length i hs = pathF (hs.length - 1 + 1) i hs by rw [Nat.sub_add_cancel (by omega)]]
  rw [show pathF (hs.length - 1 + 1) i hs = pathF (hs.length - 1) i (hs.take (spl hs.length)) ++ [rootOf (hs.drop (spl hs.length))] by
    show (if hs.length ≤ 1 then [] else if i < spl hs.length then _ else _) = _
    rw [if_neg (by omega), if_pos hi]]
  rw [pathF_eq (hs.length - 1) (hs.take (spl hs.length)).length i _ (by rw [List.length_take]; omega) (Nat.le_refl _)]
theorem pathOf_right (i : Nat) (hs : List (Nat → BitVec 8)) (h : 2 ≤ hs.length) (hi : ¬ i < spl hs.length) : pathOf i hs = pathOf (i - spl hs.length) (hs.drop (spl hs.length)) ++ [rootOf (hs.take (spl hs.length))] := by
  have hsp := spl_spec hs.length h
  have hp := spl_pos hs.length h
  unfold pathOf
  rw [show pathF hs.length i hs = pathF (hs.length - 1 + 1) i hs by rw [Nat.sub_add_cancel (by omega)]]
  rw [show pathF (hs.length - 1 + 1) i hs = pathF (hs.length - 1) (i - spl hs.length) (hs.drop (spl hs.length)) ++ [rootOf (hs.take (spl hs.length))] by
    show (if hs.length ≤ 1 then [] else if i < spl hs.length then _ else _) = _
    rw [if_neg (by omega), if_neg hi]]
  rw [pathF_eq (hs.length - 1) (hs.drop (spl hs.length)).length (i - spl hs.length) _ (by rw [List.length_drop]; omega) (Nat.le_refl _)]
theorem pathOf_length : ∀ (n i : Nat) (hs : List (Nat → BitVec 8)), hs.length ≤ n → (pathOf i hs).length = (turnsOf i hs.length).length
  | 0, i, hs, h => by rw [pathOf_one i hs (by omega), turnsOf_one i _ (by omega)]; rfl
  | n + 1, i, hs, h => by
    by_cases h2 : 2 ≤ hs.length
    · have hsp := spl_spec hs.length h2
      have hp := spl_pos hs.length h2
      by_cases hi : i < spl hs.length
      · rw [pathOf_left i hs h2 hi, turnsOf_left i _ h2 hi, List.length_append, List.length_append, pathOf_length n i _ (by rw [List.length_take]; omega), List.length_take, Nat.min_eq_left (by omega)]
        rfl
      · rw [pathOf_right i hs h2 hi, turnsOf_right i _ h2 hi, List.length_append, List.length_append, pathOf_length n _ _ (by rw [List.length_drop]; omega), List.length_drop]
        rfl
    · rw [pathOf_one i hs (by omega), turnsOf_one i _ (by omega)]; rfl
/-- where a leaf and its path lead -/
def upOf (leaf : Nat → BitVec 8) : List Bool → List (Nat → BitVec 8) → Nat → BitVec 8
  | t :: ts, p :: ps => upOf (if t then nodeOf p leaf else nodeOf leaf p) ts ps
  | _, _ => leaf
theorem upOf_append : ∀ (ts : List Bool) (ps : List (Nat → BitVec 8)) (leaf : Nat → BitVec 8) (ts' : List Bool) (ps' : List (Nat → BitVec 8)), ts.length = ps.length → upOf leaf (ts ++ ts') (ps ++ ps') = upOf (upOf leaf ts ps) ts' ps'
  | [], [], _, _, _, _ => rfl
  | [], _ :: _, _, _, _, h => by simp at h
  | _ :: _, [], _, _, _, h => by simp at h
  | t :: ts, p :: ps, leaf, ts', ps', h => by
    simp only [List.cons_append, upOf]
    exact upOf_append ts ps _ ts' ps' (by simpa using h)
/-- a leaf's path leads to the root -/
theorem up_path : ∀ (n i : Nat) (hs : List (Nat → BitVec 8)) (leaf : Nat → BitVec 8), hs.length ≤ n → hs[i]? = some leaf → upOf leaf (turnsOf i hs.length) (pathOf i hs) = rootOf hs
  | 0, i, hs, leaf, h, hi => by
    obtain rfl := List.eq_nil_of_length_eq_zero (Nat.le_zero.1 h)
    simp at hi
  | n + 1, i, hs, leaf, h, hi => by
    by_cases h2 : 2 ≤ hs.length
    · have hsp := spl_spec hs.length h2
      have hp := spl_pos hs.length h2
      have hl := pathOf_length hs.length i hs (Nat.le_refl _)
      by_cases hlt : i < spl hs.length
      · have e1 : (hs.take (spl hs.length)).length = spl hs.length := by rw [List.length_take]; omega
        have ih := up_path n i (hs.take (spl hs.length)) leaf (by rw [e1]; omega) (by rw [List.getElem?_take, if_pos hlt]; exact hi)
        have hl2 := pathOf_length n i (hs.take (spl hs.length)) (by rw [e1]; omega)
        rw [e1] at ih hl2
        rw [pathOf_left i hs h2 hlt, turnsOf_left i _ h2 hlt, upOf_append _ _ _ _ _ hl2.symm, ih, rootOf_two hs h2]
        rfl
      · have e1 : (hs.drop (spl hs.length)).length = hs.length - spl hs.length := by rw [List.length_drop]
        have ih := up_path n (i - spl hs.length) (hs.drop (spl hs.length)) leaf (by rw [e1]; omega) (by rw [List.getElem?_drop, show spl hs.length + (i - spl hs.length) = i by omega]; exact hi)
        have hl2 := pathOf_length n (i - spl hs.length) (hs.drop (spl hs.length)) (by rw [e1]; omega)
        rw [e1] at ih hl2
        rw [pathOf_right i hs h2 hlt, turnsOf_right i _ h2 hlt, upOf_append _ _ _ _ _ hl2.symm, ih, rootOf_two hs h2]
        rfl
    · rw [turnsOf_one i _ (by omega), pathOf_one i hs (by omega)]
      rcases hs with _ | ⟨x, _ | ⟨y, hs⟩⟩
      · simp at hi
      · rcases i with _ | i
        · simp at hi; subst hi; rfl
        · simp at hi
      · simp at h2

/-- one bool more -/
theorem bsl_bool (b : Bool) (w : World) : (Instr.buildSlice 60 1 #[(0, .bool b)]).run Tryd.prog w = .ok (.slice (some ⟨w.heap.size, 0, none⟩) 1 1) (w.alloc (.cells #[.bool b] 4)) := by kernel_rfl
theorem infoB : (Tryd.prog.info? 4).map (fun i => (i.zero, i.size, i.bytes)) = some (some (.bool false), 1, 1) := by kernel_rfl
theorem run_bool (ty : TypeId) (W : World) (base : Nat) (v : Value) (bs : List Bool) (b : Bool) (hown : W.ownsRow base 4 1 v bs.length (bools bs)) (hb : base ≤ W.heap.size) (hl : bs.length ≤ 100000) :
    ∃ v' w', (Builtin.append_ #[60, 60] ty #[v, .slice (some ⟨W.heap.size, 0, none⟩) 1 1]).run Tryd.prog (W.alloc (.cells #[.bool b] 4)) = .ok v' w' ∧ w'.ownsRow base 4 1 v' (bs ++ [b]).length (bools (bs ++ [b])) ∧ (W.alloc (.cells #[.bool b] 4)).grownBy w' v.ownBlock := by
  obtain ⟨i0, hi, hz0, hz1, hz2⟩ := info_parts infoB
  obtain ⟨v', w', hr, h2, h3, _, _⟩ := run_append_own_at (P := Tryd.prog) (W.alloc (.cells #[.bool b] 4)) base 60 ty 4 i0 _ 1 1 Tryd.underlying60 hi hz0 hz1 hz2 (by simp [Value.cells]) (by decide) v _ _ (hown.alloc _) ⟨W.heap.size, 0, none⟩ 1 1 [.bool b] (by simp) (by
    intro j u hu
    rw [add_eq, Nat.zero_add, World.cell?_alloc_new]
    simpa using hu) (by
    intro u hu
    simp at hu
    subst hu
    rfl) (by unfold maxLen; omega) (by omega) (by simp; omega)
  refine ⟨v', w', hr, ?_, h3⟩
  simpa [bools] using h2
theorem hid_below {W W' : World} {B : Nat} {cs : Array Value} {t : TypeId} {v : Value} {e : TypeId} {s n : Nat} {xs : List Value} (hB : B ≤ W.heap.size) (ho : W.ownsRow B e s v n xs) (hg : (W.alloc (.cells cs t)).grownBy W' v.ownBlock) : Below B W W' := by
  have hb4 : Below W.heap.size W (W.alloc (.cells cs t)) := (Below.refl _ _).alloc (Nat.le_refl _) _
  have hb5 : Below B (W.alloc (.cells cs t)) W' := (Below.refl _ _).grown hg (by simp; omega) (fun q hq => (ho.lt q hq).1)
  exact (hb4.mono hB).trans hb5
end Go.Proofs.YtihnpcoiadbpiaaDoor
