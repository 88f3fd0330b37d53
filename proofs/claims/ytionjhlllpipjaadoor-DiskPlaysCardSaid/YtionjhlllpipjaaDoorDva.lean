import Derived.Test.YtionjhlllpipjaaDoorDkt
/-
  The document's disk as it lies: each sector's versions.
-/
namespace Go.Proofs.YtionjhlllpipjaaDoor
open Go.RowKit

/-- a list of sectors' contents, as a slice of slices; P: where its blocks may be -/
def VerR (w : World) (P : Nat → Prop) (A : Option Addr) (l : List (List UInt8)) : Prop :=
  ∀ j b, l[j]? = some b → ∃ g o Ab cb, A = some ⟨g, o, none⟩ ∧ P g ∧ g < w.heap.size ∧ w.cell? ⟨g, o + j, none⟩ = some (.slice Ab 128 cb) ∧ 128 ≤ cb ∧ SlRead w Ab (bcells b) ∧ ∀ a, Ab = some a → P a.block ∧ a.block < w.heap.size
theorem VerR.turn {F P : Nat → Prop} {w w' : World} {A : Option Addr} {l : List (List UInt8)} (h : VerR w P A l) (ht : Turn F w w') (hP : ∀ q, P q → ¬ F q) : VerR w' P A l := fun j b hb => by
  obtain ⟨g, o, Ab, cb, e, h1, h2, h3, h4, h5, h6⟩ := h j b hb
  exact ⟨g, o, Ab, cb, e, h1, Nat.lt_of_lt_of_le h2 ht.size, (ht.cell h2 (hP g h1)).trans h3, h4, h5.turnM ht (fun _ a ha => hP _ (h6 a ha).1), fun a ha => ⟨(h6 a ha).1, Nat.lt_of_lt_of_le (h6 a ha).2 ht.size⟩⟩
theorem VerR.mono {P P' : Nat → Prop} {w : World} {A : Option Addr} {l : List (List UInt8)} (h : VerR w P A l) (hP : ∀ q, P q → q < w.heap.size → P' q) : VerR w P' A l := fun j b hb => by
  obtain ⟨g, o, Ab, cb, e, h1, h2, h3, h4, h5, h6⟩ := h j b hb
  exact ⟨g, o, Ab, cb, e, hP g h1 h2, h2, h3, h4, h5, fun a ha => ⟨hP _ (h6 a ha).1 (h6 a ha).2, (h6 a ha).2⟩⟩
/-- the document's disk: its struct X, its row T -/
structure DdS (w : World) (n X T cT : Nat) (P : Nat → Prop) (vs : List (List (List UInt8))) (left : Int) (gone : Bool) : Prop where
  c0 : w.cell? ⟨X, 0, none⟩ = some (.slice (some ⟨T, 0, none⟩) vs.length cT)
  c1 : w.cell? ⟨X, 1, none⟩ = some (.int .i64 left)
  c2 : w.cell? ⟨X, 2, none⟩ = some (.bool gone)
  fr : ∀ o, w.frozen? ⟨X, o, none⟩ = false ∧ w.frozen? ⟨T, o, none⟩ = false
  sec : ∀ i l, vs[i]? = some l → ∃ A c, w.cell? ⟨T, i, none⟩ = some (.slice A l.length c) ∧ l.length ≤ c ∧ VerR w P A l
  pos : ∀ l ∈ vs, 0 < l.length ∧ l.length ≤ 2000 ∧ ∀ b ∈ l, b.length = 128
  pn : ∀ q, P q → q ≠ X ∧ q ≠ T
  ne : X ≠ T
  low : n ≤ X ∧ n ≤ T
  len : 0 < vs.length ∧ vs.length ≤ 400
  ct : vs.length ≤ cT
  lf : -1 ≤ left ∧ left ≤ 9223372036854775807
section
variable {w w' : World} {n X T cT : Nat} {P P' : Nat → Prop} {vs : List (List (List UInt8))} {left : Int} {gone : Bool}
theorem DdS.ltX (h : DdS w n X T cT P vs left gone) : X < w.heap.size := cell_lt h.c0
theorem DdS.ltT (h : DdS w n X T cT P vs left gone) : T < w.heap.size := by
  have h0 := h.len.1
  obtain ⟨A, c, h1, _⟩ := h.sec 0 vs[0] (List.getElem?_eq_getElem h0)
  exact cell_lt h1
theorem DdS.turn {F : Nat → Prop} (h : DdS w n X T cT P vs left gone) (ht : Turn F w w') (hX : ¬ F X) (hT : ¬ F T) (hP : ∀ q, P q → ¬ F q) : DdS w' n X T cT P vs left gone :=
  ⟨(ht.cell h.ltX hX).trans h.c0, (ht.cell h.ltX hX).trans h.c1, (ht.cell h.ltX hX).trans h.c2, fun o => ⟨(World.frozen?_of_block (ht.block X h.ltX hX)).trans (h.fr o).1, (World.frozen?_of_block (ht.block T h.ltT hT)).trans (h.fr o).2⟩,
   fun i l hl => by
    obtain ⟨A, c, h1, h2, h3⟩ := h.sec i l hl
    exact ⟨A, c, (ht.cell h.ltT hT).trans h1, h2, h3.turn ht hP⟩, h.pos, h.pn, h.ne, h.low, h.len, h.ct, h.lf⟩
theorem DdS.below (h : DdS w n X T cT P vs left gone) (hb : Below w.heap.size w w') : DdS w' n X T cT P vs left gone := h.turn (Turn.of_below (F := fun _ => False) hb) id id (fun _ _ => id)
theorem DdS.mono (h : DdS w n X T cT P vs left gone) (hP : ∀ q, P q → q < w.heap.size → P' q) (hn : ∀ q, P' q → q ≠ X ∧ q ≠ T) : DdS w n X T cT P' vs left gone :=
  ⟨h.c0, h.c1, h.c2, h.fr, fun i l hl => by
    obtain ⟨A, c, h1, h2, h3⟩ := h.sec i l hl
    exact ⟨A, c, h1, h2, h3.mono hP⟩, h.pos, hn, h.ne, h.low, h.len, h.ct, h.lf⟩
/-- its number, or its bool, laid anew -/
theorem DdS.put (h : DdS w n X T cT P vs left gone) (k : Nat) (v : Value) (left' : Int) (gone' : Bool) (hk : (k = 1 ∧ v = .int .i64 left' ∧ gone' = gone ∧ -1 ≤ left' ∧ left' ≤ 9223372036854775807) ∨ (k = 2 ∧ v = .bool gone' ∧ left' = left)) :
    DdS (w.setCell ⟨X, k, none⟩ v) n X T cT P vs left' gone' ∧ Turn (· = X) w (w.setCell ⟨X, k, none⟩ v) := by
  have ht := set_turn w X k v
  have oth : ∀ j, j ≠ k → (w.setCell ⟨X, k, none⟩ v).cell? ⟨X, j, none⟩ = w.cell? ⟨X, j, none⟩ := fun j hj => World.cell?_setCell_other _ _ _ _ (by intro e; have := congrArg Addr.off e; simp at this; omega)
  have tT : ∀ o, (w.setCell ⟨X, k, none⟩ v).cell? ⟨T, o, none⟩ = w.cell? ⟨T, o, none⟩ := fun o => ht.cell h.ltT (fun e => h.ne e.symm)
  have fro : ∀ o, (w.setCell ⟨X, k, none⟩ v).frozen? ⟨X, o, none⟩ = false ∧ (w.setCell ⟨X, k, none⟩ v).frozen? ⟨T, o, none⟩ = false := fun o => by rw [frozen_setCell, frozen_setCell]; exact h.fr o
  have sec : ∀ i l, vs[i]? = some l → ∃ A c, (w.setCell ⟨X, k, none⟩ v).cell? ⟨T, i, none⟩ = some (.slice A l.length c) ∧ l.length ≤ c ∧ VerR (w.setCell ⟨X, k, none⟩ v) P A l := fun i l hl => by
    obtain ⟨A, c, h1, h2, h3⟩ := h.sec i l hl
    exact ⟨A, c, (tT i).trans h1, h2, h3.turn ht (fun q hq => (h.pn q hq).1)⟩
  refine ⟨?_, ht⟩
  rcases hk with ⟨rfl, rfl, rfl, l1, l2⟩ | ⟨rfl, rfl, rfl⟩
  · exact ⟨(oth 0 (by omega)).trans h.c0, World.cell?_setCell_same w _ _ h.c1, (oth 2 (by omega)).trans h.c2, fro, sec, h.pos, h.pn, h.ne, h.low, h.len, h.ct, l1, l2⟩
  · exact ⟨(oth 0 (by omega)).trans h.c0, (oth 1 (by omega)).trans h.c1, World.cell?_setCell_same w _ _ h.c2, fro, sec, h.pos, h.pn, h.ne, h.low, h.len, h.ct, h.lf⟩
/-- a sector's versions, laid anew -/
theorem DdS.sect (h : DdS w n X T cT P vs left gone) (i : Nat) (hi : i < vs.length) (A : Option Addr) (c : Nat) (l : List (List UInt8)) (hc : l.length ≤ c) (hr : VerR w P A l) (hl : 0 < l.length ∧ l.length ≤ 2000 ∧ ∀ b ∈ l, b.length = 128) :
    DdS (w.setCell ⟨T, i, none⟩ (.slice A l.length c)) n X T cT P (vs.set i l) left gone ∧ Turn (· = T) w (w.setCell ⟨T, i, none⟩ (.slice A l.length c)) := by
  have ht := set_turn w T i (.slice A l.length c)
  have tX : ∀ o, (w.setCell ⟨T, i, none⟩ (.slice A l.length c)).cell? ⟨X, o, none⟩ = w.cell? ⟨X, o, none⟩ := fun o => ht.cell h.ltX h.ne
  have hln : (vs.set i l).length = vs.length := List.length_set ..
  refine ⟨⟨by rw [hln]; exact (tX 0).trans h.c0, (tX 1).trans h.c1, (tX 2).trans h.c2, fun o => by rw [frozen_setCell, frozen_setCell]; exact h.fr o, fun k lk hk => ?_, fun lk hk => ?_, h.pn, h.ne, h.low, by rw [hln]; exact h.len, by rw [hln]; exact h.ct, h.lf⟩, ht⟩
  · by_cases hki : k = i
    · subst hki
      rw [List.getElem?_set_self hi] at hk
      cases hk
      obtain ⟨_, _, h1, _⟩ := h.sec k vs[k] (List.getElem?_eq_getElem hi)
      exact ⟨A, c, World.cell?_setCell_same w _ _ h1, hc, hr.turn ht (fun q hq => (h.pn q hq).2)⟩
    · rw [List.getElem?_set_ne (by omega)] at hk
      obtain ⟨A', c', h1, h2, h3⟩ := h.sec k lk hk
      exact ⟨A', c', (World.cell?_setCell_other _ _ _ _ (by intro e; have := congrArg Addr.off e; simp at this; omega)).trans h1, h2, h3.turn ht (fun q hq => (h.pn q hq).2)⟩
  · rcases List.mem_or_eq_of_mem_set hk with h1 | h1
    · exact h.pos lk h1
    · rw [h1]; exact hl
end
section
variable {w : World} {n X T cT : Nat} {P : Nat → Prop} {vs : List (List (List UInt8))} {left : Int} {gone : Bool}
set_option maxRecDepth 100000 in
set_option maxHeartbeats 800000 in
theorem dfuse_any (h : DdS w n X T cT P vs left gone) (z : Int) (hz : z ≤ 9223372036854775807) : Calls Tryd.prog 18 #[.pointer (some ⟨X, 0, none⟩), .int .i64 z] w fun e w' => e = .returned (.tuple #[]) ∧ DdS w' n X T cT P vs (max z (-1)) gone ∧ Turn (· = X) w w' := by
  have hc1 := h.c1
  have hf := (h.fr 1).1
  have HP := Lib.hid (h.put 1 (.int .i64 (max z (-1))) (max z (-1)) gone (.inl ⟨rfl, rfl, rfl, by omega, by omega⟩))
  have hmx : (if z < -1 then (-1 : Int) else z) = max z (-1) := by split <;> omega
  generalize max z (-1) = m at *
  clear h hz
  go_enter Tryd.func18, Tryd.ntmps18
  go_wp2_with fail
  go_end0
  exact ⟨rfl, HP.out⟩
def burnL (left : Int) : Int := if 0 < left then left - 1 else left
def burnG (gone : Bool) (left : Int) : Bool := if left = 0 then true else gone
set_option maxRecDepth 100000 in
set_option maxHeartbeats 800000 in
theorem burn_any (h : DdS w n X T cT P vs left gone) : Calls Tryd.prog 33 #[.pointer (some ⟨X, 0, none⟩)] w fun e w' => e = .returned (.bool (decide (left ≠ 0))) ∧ DdS w' n X T cT P vs (burnL left) (burnG gone left) ∧ Turn (· = X) w w' := by
  have hc1 := h.c1
  have hf1 := (h.fr 1).1
  have hc2 := h.c2
  have hf2 := (h.fr 2).1
  have hlf := h.lf
  have hb0 := Turn.of_below (F := (· = X)) (Below.refl w.heap.size w)
  by_cases h0 : left = 0
  · subst h0
    have HP := Lib.hid (h.put 2 (.bool true) 0 true (.inr ⟨rfl, rfl, rfl⟩))
    clear h
    go_enter Tryd.func33, Tryd.ntmps33
    go_wp2_with fail
    go_ret
    exact ⟨rfl, HP.out⟩
  · have hne : decide (left ≠ 0) = true := decide_eq_true h0
    have hg : burnG gone left = gone := if_neg h0
    rw [hne, hg]
    by_cases h1 : 0 < left
    · have hl : burnL left = left - 1 := if_pos h1
      rw [hl]
      have HP := Lib.hid (h.put 1 (.int .i64 (left - 1)) (left - 1) gone (.inl ⟨rfl, rfl, rfl, by omega, by omega⟩))
      clear h hne hg hl
      go_enter Tryd.func33, Tryd.ntmps33
      go_wp2_with fail
      go_ret
      exact ⟨rfl, HP.out⟩
    · have hl : burnL left = left := if_neg h1
      rw [hl]
      have HP := Lib.hid (And.intro h hb0)
      clear h hne hg hl
      go_enter Tryd.func33, Tryd.ntmps33
      go_wp2_with fail
      go_ret
      exact ⟨rfl, HP.out⟩
set_option maxRecDepth 100000 in
set_option maxHeartbeats 800000 in
theorem dread_off (h : DdS w n X T cT P vs left true) (i : Int) : Calls Tryd.prog 22 #[.pointer (some ⟨X, 0, none⟩), .int .i64 i] w fun e w' => e = .returned (.tuple #[.slice none 0 0, .int .i64 101]) ∧ w' = w := by
  have hc2 := h.c2
  clear h
  go_enter Tryd.func22, Tryd.ntmps22
  go_wp2_with fail
  go_ret2
  exact ⟨rfl, rfl⟩
set_option maxRecDepth 100000 in
set_option maxHeartbeats 800000 in
theorem dread_out (h : DdS w n X T cT P vs left false) (i : Int) (hi : i < 0 ∨ (vs.length : Int) ≤ i) : Calls Tryd.prog 22 #[.pointer (some ⟨X, 0, none⟩), .int .i64 i] w fun e w' => e = .returned (.tuple #[.slice none 0 0, .int .i64 102]) ∧ w' = w := by
  have hc2 := h.c2
  have hc0 := h.c0
  clear h
  by_cases h0 : i < 0
  · clear hi
    go_enter Tryd.func22, Tryd.ntmps22
    go_wp2_with fail
    go_ret2
    exact ⟨rfl, rfl⟩
  · have h1 : (vs.length : Int) ≤ i := by omega
    clear hi
    go_enter Tryd.func22, Tryd.ntmps22
    go_wp2_with fail
    go_ret2
    exact ⟨rfl, rfl⟩
end
end Go.Proofs.YtionjhlllpipjaaDoor
