import Derived.Test.YtocjmlncpjfnfaaDoorCoa
import Derived.Lib.Hide
/-
  code: copies; lists; the document's.
-/
namespace Go.Proofs.YtocjmlncpjfnfaaDoor
open Go.RowKit

theorem PutP.size {w w' : World} {n W : Nat} {zs : List Int} {v : Value} {e : Ending} (h : PutP w n W zs v e w') : w.heap.size ≤ w'.heap.size := by
  obtain ⟨_, v', _, ht, _⟩ := h
  exact ht.size
theorem SlRead.turn {F : Nat → Prop} {w w' : World} {A : Option Addr} {xs : List Value} (h : SlRead w A xs) (ht : Turn F w w') (hF : 0 < xs.length → ∀ a, A = some a → ¬ F a.block) : SlRead w' A xs := by
  intro h0
  obtain ⟨b, o, rfl, hlt, hc⟩ := h h0
  exact ⟨b, o, rfl, Nat.lt_of_lt_of_le hlt ht.size, fun j u hu => (ht.cell hlt (hF h0 _ rfl)).trans (hc j u hu)⟩
/-- two things appended, one behind the other -/
theorem PutP.then {w w1 w2 : World} {n W : Nat} {ys zs : List Int} {v v1 : Value} {e : Ending} (hs : WrS w1 n W ys v1) (ht : Turn (WFoot W v) w w1) (ha : v1.ownBlock = v.ownBlock ∨ ∃ g, v1.ownBlock = some g ∧ w.heap.size ≤ g) (h : PutP w1 n W zs v1 e w2) : PutP w n W zs v e w2 := by
  obtain ⟨he, v2, h1, h2, h3⟩ := h
  refine ⟨he, v2, h1, ht.trans h2 (fun q hq => ?_), ?_⟩
  · rcases hq with rfl | hq
    · exact .inl (.inl rfl)
    · rcases ha with ha | ⟨g, ha, hg⟩
      · exact .inl (.inr (ha ▸ hq))
      · rw [ha] at hq; cases hq; exact .inr hg
  · rcases h3 with h3 | ⟨g, h3, hg⟩
    · rw [h3]; exact ha
    · exact .inr ⟨g, h3, Nat.le_trans ht.size hg⟩

def lstI (ys : List Int) : List Int := le4 ys.length ++ ys
set_option maxRecDepth 100000 in
set_option maxHeartbeats 800000 in
theorem wlist_any (B : Option Addr) (ys : List Int) (cb : Nat) (n W : Nat) (xs : List Int) (v : Value) (w : World) (h : WrS w n W xs v) (hn : n ≤ w.heap.size) (hl : xs.length ≤ 900000) (hB : SlRead w B (ints .u8 ys)) (hy : ys.length ≤ 1000000) (hap : 0 < ys.length → ∀ a, B = some a → ¬ WFoot W v a.block) :
    Calls Tryd.prog 39 #[.pointer (some ⟨W, 0, none⟩), .slice B ys.length cb] w (PutP w n W (xs ++ lstI ys) v) := by
  obtain ⟨t, ht⟩ : ∃ t, t = le4 (ys.length : Int) := ⟨_, rfl⟩
  have hq : lstI ys = t ++ ys := by rw [ht]; rfl
  have ht4 : t.length = 4 := by rw [ht]; rfl
  have hm : ((ys.length : Int) % 4294967296) = (ys.length : Int) := by omega
  have H1 : Calls Tryd.prog 38 #[.pointer (some ⟨W, 0, none⟩), .int .u32 (ys.length : Int)] w (PutP w n W (xs ++ t) v) := by rw [ht]; exact wu32_any _ n W xs v w h hn (by omega)
  rw [hq, ← List.append_assoc]
  have hl4 : (xs ++ t).length ≤ 1000000 := by simp; omega
  generalize xs ++ t = zs at *
  have HH := Lib.hid h
  clear h hl ht ht4 hq
  go_enter Tryd.func39, Tryd.ntmps39
  go_wp2_with fail
  refine H1.mono ?_
  rintro e w1 ⟨rfl, v1, h1, ht1, ha1⟩
  have hs1 := ht1.size
  have H2 := wraw_any B ys cb n W zs v1 w1 h1 (by omega) hl4 (hB.turn ht1 (fun h0 => hap (by simpa using h0))) hy
  have H2 : Calls Tryd.prog 37 #[.pointer (some ⟨W, 0, none⟩), .slice B ys.length cb] w1 (PutP w n W (zs ++ ys) v) := H2.mono fun e w2 hp => PutP.then h1 ht1 ha1 hp
  clear H1 h1 ht1 ha1 hl4
  go_wp2_with fail
  refine H2.mono ?_
  rintro e w2 ⟨rfl, hp⟩
  have hp := Lib.hid hp
  go_wp2_with fail
  go_end0
  exact ⟨rfl, hp.out⟩

set_option maxRecDepth 100000 in
set_option maxHeartbeats 800000 in
/-- a copy: a row of its own -/
theorem cloneI_any (A : Option Addr) (xs : List Int) (ca : Nat) (w : World) (hA : SlRead w A (ints .u8 xs)) (hl : xs.length ≤ 100000000) :
    Calls Tryd.prog 65 #[.slice A xs.length ca] w fun e w' => ∃ v, e = .returned v ∧ w'.ownsRow w.heap.size 5 1 v xs.length (ints .u8 xs) ∧ Below w.heap.size w w' := by
  cases A with
  | none =>
    have hn : xs = [] := by
      cases xs with
      | nil => rfl
      | cons x r => obtain ⟨b, o, e, _⟩ := hA (by simp [ints]); cases e
    subst hn
    have hc0 : ∀ w : World, (binOp .eql 25 (.slice none 0 ca) (.slice none 0 0)).run Tryd.prog w = .ok (.bool true) w := fun w => Lib.run_eql_slice_nil w 25 5 none 0 ca 0 0 Tryd.underlying25
    go_enter Tryd.func65, Tryd.ntmps65
    go_wp2_with fail
    go_ret
    exact ⟨_, rfl, World.ownsRow_nil _ _ _ _, Below.refl _ _⟩
  | some ad =>
    have hown : (w.alloc (.cells #[] 5)).ownsRow w.heap.size 5 1 (.slice (some ⟨w.heap.size, 0, none⟩) 0 0) ([] : List Int).length (ints .u8 []) := ⟨rfl, .inr ⟨w.heap.size, 0, #[], rfl, Nat.le_refl _, heap_alloc_new _ _, Nat.le_refl _, by unfold maxLen; omega, rfl, rfl⟩⟩
    have hb0 : Below w.heap.size w (w.alloc (.cells #[] 5)) := below_alc w _
    have hA0 := hA.below hb0
    have hc0 : ∀ w : World, (binOp .eql 25 (.slice (some ad) xs.length ca) (.slice none 0 0)).run Tryd.prog w = .ok (.bool false) w := fun w => Lib.run_eql_slice_nil w 25 5 (some ad) xs.length ca 0 0 Tryd.underlying25
    go_enter Tryd.func65, Tryd.ntmps65
    go_wp2_with (at_builtin; refine push_ints rfl _ _ rfl (w.alloc (.cells #[] 5)) w.heap.size (.slice (some ⟨w.heap.size, 0, none⟩) 0 0) [] (some ad) xs xs.length ca rfl rfl rfl hown hA0 hb0.size (by simp; omega) ?_; intro v' W1 hown1 hg1 hat1; rw [List.nil_append] at hown1; have hfin := Lib.hid (And.intro hown1 (hb0.grown hg1 hb0.size (fun j hj => by cases hj; exact Nat.le_refl _))); clear hown hb0 hA0 hown1 hg1 hat1 hA)
    go_ret
    exact ⟨_, rfl, hfin.out.1, hfin.out.2⟩

set_option maxRecDepth 100000 in
set_option maxHeartbeats 800000 in
/-- a Writer's bytes, copied -/
theorem wbytes_any (n W : Nat) (xs : List Int) (v : Value) (w : World) (h : WrS w n W xs v) (hl : xs.length ≤ 100000000) :
    Calls Tryd.prog 40 #[.pointer (some ⟨W, 0, none⟩)] w fun e w' => ∃ v, e = .returned v ∧ w'.ownsRow w.heap.size 5 1 v xs.length (ints .u8 xs) ∧ Below w.heap.size w w' := by
  obtain ⟨A, c, rfl, hr⟩ := h.read
  have hc := h.c
  clear h
  go_enter Tryd.func40, Tryd.ntmps40
  go_wp2_with fail
  refine (cloneI_any A xs c w hr hl).mono ?_
  rintro e w1 ⟨v1, rfl, h1, h2⟩
  go_wp2_with fail
  go_ret
  exact ⟨_, rfl, h1, h2⟩

set_option maxRecDepth 100000 in
set_option maxHeartbeats 800000 in
theorem put32_any (x : Int) (n : Nat) (xs : List Int) (v : Value) (w : World) (h : w.ownsRow n 5 1 v xs.length (ints .u8 xs)) (hn : n ≤ w.heap.size) (hl : xs.length ≤ 1000000) :
    Calls Tryd.prog 64 #[v, .int .u32 x] w fun e w' => ∃ v', e = .returned v' ∧ w'.ownsRow n 5 1 v' (xs ++ le4 x).length (ints .u8 (xs ++ le4 x)) ∧ ∃ w0, Below w.heap.size w w0 ∧ w0.grownBy w' v.ownBlock ∧ (v'.ownBlock = v.ownBlock ∨ ∃ g, v'.ownBlock = some g ∧ w0.heap.size ≤ g) := by
  obtain ⟨A, c, rfl, _⟩ := ownsRow_form h
  obtain ⟨zs, hz⟩ : ∃ zs, zs = xs ++ le4 x := ⟨_, rfl⟩
  rw [← hz]
  have HZ := Lib.hid hz
  clear hz
  go_enter Tryd.func64, Tryd.ntmps64
  go_wp2_with (at_builtin; refine push_ints rfl _ _ rfl (w.alloc (.cells #[.int .u8 (x % 256), .int .u8 (x / 256 % 256), .int .u8 (x / 65536 % 256), .int .u8 (x / 16777216 % 256)] 5)) n (.slice A xs.length c) xs (some ⟨w.heap.size, 0, none⟩) (le4 x) 4 4 rfl rfl rfl (h.alloc _) (four_new _ _ _ _) (by simp; omega) (by simp [le4]; omega) ?_; intro v' w1 hown1 hg1 hat1; rw [← HZ.out] at hown1; have hfin := Lib.hid (And.intro hown1 (⟨_, below_alc w _, hg1, hat1⟩ : ∃ w0, Below w.heap.size w w0 ∧ w0.grownBy w1 (Value.slice A xs.length c).ownBlock ∧ (v'.ownBlock = (Value.slice A xs.length c).ownBlock ∨ ∃ g, v'.ownBlock = some g ∧ w0.heap.size ≤ g))); clear h hown1 hg1 hat1)
  go_ret
  exact ⟨_, rfl, hfin.out⟩
set_option maxRecDepth 100000 in
set_option maxHeartbeats 800000 in
theorem du32_any (x : Int) (n W : Nat) (xs : List Int) (v : Value) (w : World) (h : WrS w n W xs v) (hn : n ≤ w.heap.size) (hl : xs.length ≤ 1000000) :
    Calls Tryd.prog 34 #[.pointer (some ⟨W, 0, none⟩), .int .u32 x] w (PutP w n W (xs ++ le4 x) v) := by
  obtain ⟨A, c, rfl, _⟩ := ownsRow_form h.own
  have hc := h.c
  have H1 := put32_any x n xs _ w h.own hn hl
  obtain ⟨zs, hz⟩ : ∃ zs, zs = xs ++ le4 x := ⟨_, rfl⟩
  rw [← hz] at H1 ⊢
  clear hz
  go_enter Tryd.func34, Tryd.ntmps34
  go_wp2_with fail
  refine H1.mono ?_
  rintro e w1 ⟨v1, rfl, hown1, w0, hb0, hg1, hat1⟩
  obtain ⟨c1, f1, hp⟩ := h.grown hb0 hown1 hg1 hat1
  obtain ⟨A', c', rfl, _⟩ := ownsRow_form hown1
  have hp := Lib.hid hp
  clear h hown1 hg1 hat1 hc H1 hb0
  go_wp2_with fail
  go_end0
  exact hp.out
set_option maxRecDepth 100000 in
set_option maxHeartbeats 800000 in
theorem dlist_any (B : Option Addr) (ys : List Int) (cb : Nat) (n W : Nat) (xs : List Int) (v : Value) (w : World) (h : WrS w n W xs v) (hn : n ≤ w.heap.size) (hl : xs.length ≤ 900000) (hB : SlRead w B (ints .u8 ys)) (hy : ys.length ≤ 1000000) (hap : 0 < ys.length → ∀ a, B = some a → ¬ WFoot W v a.block) :
    Calls Tryd.prog 35 #[.pointer (some ⟨W, 0, none⟩), .slice B ys.length cb] w (PutP w n W (xs ++ lstI ys) v) := by
  obtain ⟨t, ht⟩ : ∃ t, t = le4 (ys.length : Int) := ⟨_, rfl⟩
  have hq : lstI ys = t ++ ys := by rw [ht]; rfl
  have ht4 : t.length = 4 := by rw [ht]; rfl
  have hm : ((ys.length : Int) % 4294967296) = (ys.length : Int) := by omega
  have H1 : Calls Tryd.prog 34 #[.pointer (some ⟨W, 0, none⟩), .int .u32 (ys.length : Int)] w (PutP w n W (xs ++ t) v) := by rw [ht]; exact du32_any _ n W xs v w h hn (by omega)
  rw [hq, ← List.append_assoc]
  have hl4 : (xs ++ t).length ≤ 1000000 := by simp; omega
  generalize xs ++ t = zs at *
  have HH := Lib.hid h
  clear h hl ht ht4 hq
  go_enter Tryd.func35, Tryd.ntmps35
  go_wp2_with fail
  refine H1.mono ?_
  rintro e w1 ⟨rfl, v1, h1, ht1, ha1⟩
  have hs1 := ht1.size
  have H2 := draw_any B ys cb n W zs v1 w1 h1 (by omega) hl4 (hB.turn ht1 (fun h0 => hap (by simpa using h0))) hy
  have H2 : Calls Tryd.prog 33 #[.pointer (some ⟨W, 0, none⟩), .slice B ys.length cb] w1 (PutP w n W (zs ++ ys) v) := H2.mono fun e w2 hp => PutP.then h1 ht1 ha1 hp
  clear H1 h1 ht1 ha1 hl4
  go_wp2_with fail
  refine H2.mono ?_
  rintro e w2 ⟨rfl, hp⟩
  have hp := Lib.hid hp
  go_wp2_with fail
  go_end0
  exact ⟨rfl, hp.out⟩
end Go.Proofs.YtocjmlncpjfnfaaDoor
