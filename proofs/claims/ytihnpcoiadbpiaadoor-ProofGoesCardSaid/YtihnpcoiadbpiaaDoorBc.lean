/-
  courierref.Bytes makes a slice as long as its room; an append to such a one makes a new one.
-/
import Derived.Test.YtihnpcoiadbpiaaDoorSl
import Derived.Test.YtihnpcoiadbpiaaDoorRsp
import Derived.Deep.DeepAppendRoom
import Derived.ArgAppend
namespace Go.Proofs.YtihnpcoiadbpiaaDoor
open Go.RowKit

/-- what a copy of bytes leaves: new memory that is its own -/
def CopyCap (w : World) (xs : List Int) (k : Nat) (v : Value) (wr : World) : Prop :=
  v = .slice (some ⟨w.heap.size, 0, none⟩) k xs.length ∧ wr.ownsRow w.heap.size 5 1 (.slice (some ⟨w.heap.size, 0, none⟩) k xs.length) k (ints .u8 (xs.take k)) ∧ Below w.heap.size w wr

set_option maxHeartbeats 1600000 in
set_option maxRecDepth 100000 in
theorem bytes_cap (A : Option Addr) (xs : List Int) (ca : Nat) (w : World) (hA : SlRead w A (ints .u8 xs)) (hx : xs.length ≤ 140737488351232) :
    Calls Tryd.prog 36 #[.slice A xs.length ca] w fun e w' => e = .returned (.slice (some ⟨w.heap.size, 0, none⟩) xs.length xs.length) ∧ SlRead w' (some ⟨w.heap.size, 0, none⟩) (ints .u8 xs) ∧ Below w.heap.size w w' := by
  obtain ⟨i0, hi, hz0, hz1, hz2⟩ := info_parts Tryd.info5
  go_enter Tryd.func36, Tryd.ntmps36
  go_wp2_with (at_make; refine wpList_make_own _ rfl _ _ 70 rfl w.heap.size 5 i0 (.int .u8 0) 1 Tryd.underlying70 hi hz0 hz1 _ _ _ xs.length rfl rfl rfl ?c1 ?c2 ?c3 ?_)
  case c1 => rw [hz2]; omega
  case c2 => unfold maxLen; omega
  case c3 => exact Nat.le_refl _
  intro w1 hown hgrow
  go_wp2
  go_loopw [3, 4] (fun v i wr => ∃ k : Nat, k ≤ xs.length ∧ i = .int .i64 k ∧ CopyCap w xs k v wr) (fun _ i _ => xs.length - (intOf i).toNat)
  case atStart => exact ⟨0, by omega, rfl, rfl, hown, (Below.refl _ _).grown hgrow (Nat.le_refl _) (by intro k h; cases h)⟩
  case round =>
    obtain ⟨k, hk, rfl, rfl, hcopy, hb⟩ := hrel
    by_cases hlt : k < xs.length
    · obtain ⟨b, o, x, rfl, hc, hxk⟩ := (hA.below hb).at_ hlt
      have HX := Lib.hid hxk; clear hxk
      go_wp2_with (at_builtin; refine wpList_append_own_spare _ rfl _ _ 70 rfl w.heap.size 5 i0 1 Tryd.underlying70 hi hz1 w.heap.size k xs.length _ rfl (hcopy.alloc _) ⟨wr.heap.size, 0, none⟩ 1 1 [.int .u8 x] rfl rfl ?c1 ?c2 ?c3 ?_)
      case c1 => exact cell_one_new _ _ _
      case c2 => intro u hu; simp at hu; subst hu; rfl
      case c3 => omega
      intro w2 hown2 hgrow2
      rw [ints_snoc .u8 xs k x HX.out] at hown2
      have hb2 : Below w.heap.size w w2 := (hb.alloc hb.size _).grown hgrow2 (by have := hb.size; simp; omega) (fun j hj => by simp at hj; omega)
      clear hown hgrow hcopy hgrow2
      go_wp2
      go_roundw
      case rel => exact ⟨k + 1, by omega, by go_num, rfl, hown2, hb2⟩
      case measure => simp [intOf]; omega
    · have hkl : k = xs.length := by omega
      have hs := SlRead.of_own hcopy
      rw [hkl, List.take_length] at hs
      subst hkl
      clear hcopy hown hgrow
      have HH := Lib.hid hs; clear hs
      go_wp2
      go_ret
      exact ⟨rfl, HH.out, hb⟩

/-- bytes appended to a slice that has no room -/
theorem run_app_full (ty : TypeId) (W : World) (g : Nat) (xs : List (BitVec 8)) (B : Option Addr) (ys : List (BitVec 8)) (cb : Nat)
    (hA : SlRead W (some ⟨g, 0, none⟩) (ints .u8 (bys xs))) (hB : SlRead W B (ints .u8 (bys ys))) (hl : xs.length + ys.length ≤ 140737488352000) :
    ∃ A' c' w', (Builtin.append_ #[70, 70] ty #[.slice (some ⟨g, 0, none⟩) xs.length xs.length, .slice B ys.length cb]).run Tryd.prog W = .ok (.slice A' (xs ++ ys).length c') w' ∧
      (xs ++ ys).length ≤ c' ∧ SlRead w' A' (ints .u8 (bys (xs ++ ys))) ∧ Below W.heap.size W w' := by
  obtain ⟨i0, hi, hz0, hz1, hz2⟩ := info_parts Tryd.info5
  have e : ints .u8 (bys xs) ++ ints .u8 (bys ys) = ints .u8 (bys (xs ++ ys)) := by simp [ints, bys]
  rcases Nat.eq_zero_or_pos ys.length with h0 | hpos
  · obtain rfl := List.eq_nil_of_length_eq_zero h0
    refine ⟨some ⟨g, 0, none⟩, xs.length, W, ?_, by simp, by simpa using hA, Below.refl _ _⟩
    have hr : (Builtin.append_ #[70, 70] ty #[.slice (some ⟨g, 0, none⟩) xs.length xs.length, .slice B 0 cb]).run Tryd.prog W = .ok (.slice (some ⟨g, 0, none⟩) xs.length xs.length) W := by
      cases B with
      | none => simp [Builtin.append_, run_underlying Tryd.underlying70, sizeOf, typeInfo, hi, Builtin.lenOf, Builtin.firstCells, storeCells]
      | some ad =>
        have hfc := run_firstCells_some (P := Tryd.prog) W i0.size 0 ad 0 cb [] (by simp) (by simp)
        simp [Builtin.append_, run_underlying Tryd.underlying70, sizeOf, typeInfo, hi, Builtin.lenOf, hfc, storeCells]
    simpa using hr
  · obtain ⟨b', o', rfl, _, hc⟩ := hB (by simp [bys]; omega)
    have hx : ∀ j u, (ints .u8 (bys xs))[j]? = some u → W.cell? ((⟨g, 0, none⟩ : Addr).add j) = some u := by
      intro j u hu
      have hn : 0 < (ints .u8 (bys xs)).length := by
        have := (List.getElem?_eq_some_iff.1 hu).1
        omega
      obtain ⟨b', o', e1, _, hc⟩ := hA hn
      obtain ⟨rfl, rfl⟩ : g = b' ∧ 0 = o' := by simpa using e1
      rw [add_eq]
      exact hc j u hu
    obtain ⟨v', w', hr, h2, h3⟩ := run_append_arg_grows (P := Tryd.prog) W 70 ty 5 i0 (.int .u8 0) 1 1 Tryd.underlying70 hi hz0 hz1 hz2 rfl (by decide) ⟨g, 0, none⟩ xs.length xs.length (ints .u8 (bys xs)) (by simp) hx
      ⟨b', o', none⟩ ys.length cb (ints .u8 (bys ys)) (by simp) (fun j u hu => by rw [add_eq]; exact hc j u hu) (by omega) (by unfold maxLen; omega) (by omega)
    rw [e] at h2
    obtain ⟨A', c', rfl, hc'⟩ := ownsRow_form h2
    exact ⟨A', c', w', by simpa using hr, by simpa using hc' (by omega), SlRead.of_own h2, (Below.refl _ _).grown h3 (Nat.le_refl _) (by intro k h; cases h)⟩

/-- bytes that are there -/
def SlIs (xs : List (BitVec 8)) (v : Value) (w : World) : Prop := ∃ A c, v = .slice A xs.length c ∧ xs.length ≤ c ∧ SlRead w A (ints .u8 (bys xs))
theorem SlIs.mono {xs : List (BitVec 8)} : ∀ y w1 w2, SlIs xs y w1 → Cells w1 w2 → SlIs xs y w2 := by
  rintro y w1 w2 ⟨A, c, h1, h2, h3⟩ hb
  exact ⟨A, c, h1, h2, h3.cells hb⟩
/-- bytes that are there, with no room behind them -/
def SlEx (xs : List (BitVec 8)) (v : Value) (w : World) : Prop := ∃ g, v = .slice (some ⟨g, 0, none⟩) xs.length xs.length ∧ SlRead w (some ⟨g, 0, none⟩) (ints .u8 (bys xs))
theorem SlEx.mono {xs : List (BitVec 8)} : ∀ y w1 w2, SlEx xs y w1 → Cells w1 w2 → SlEx xs y w2 := by
  rintro y w1 w2 ⟨g, h1, h3⟩ hb
  exact ⟨g, h1, h3.cells hb⟩
/-- a new slice of values -/
def SlV (vs : List Value) (n : Nat) (v : Value) (w : World) : Prop := ∃ g, v = .slice (some ⟨g, 0, none⟩) n n ∧ SlRead w (some ⟨g, 0, none⟩) vs
theorem SlV.mono {vs : List Value} {n : Nat} : ∀ y w1 w2, SlV vs n y w1 → Cells w1 w2 → SlV vs n y w2 := by
  rintro y w1 w2 ⟨g, h1, h3⟩ hb
  exact ⟨g, h1, h3.cells hb⟩
/-- a new slice of values, its block new since B -/
def SlN (B : Nat) (vs : List Value) (n : Nat) (v : Value) (w : World) : Prop := ∃ g, v = .slice (some ⟨g, 0, none⟩) n n ∧ B ≤ g ∧ SlRead w (some ⟨g, 0, none⟩) vs
theorem SlN.mono {B : Nat} {vs : List Value} {n : Nat} : ∀ y w1 w2, SlN B vs n y w1 → Cells w1 w2 → SlN B vs n y w2 := by
  rintro y w1 w2 ⟨g, h1, h2, h3⟩ hb
  exact ⟨g, h1, h2, h3.cells hb⟩
theorem SlRead.new_row {W : World} (cs : Array Value) (t : TypeId) (vs : List Value) (h : vs = cs.toList) : SlRead (W.alloc (.cells cs t)) (some ⟨W.heap.size, 0, none⟩) vs := by
  subst h
  intro _
  refine ⟨W.heap.size, 0, rfl, by simp, fun j u hj => ?_⟩
  rw [Nat.zero_add, World.cell?_alloc_new]
  simpa using hj
/-- behind a call that only reads nothing has turned -/
theorem Quiets.below {P : Program} {f : FuncId} {args : Array Value} {w : World} {v : Value} (h : Quiets P f args w v) : Calls P f args w fun e w' => e = .returned v ∧ Below w.heap.size w w' :=
  h.mono fun _ _ ⟨h1, m, h2⟩ => ⟨h1, by rw [h2]; exact Below.drewNr m⟩
theorem bys_inj {xs ys : List (BitVec 8)} : bys xs = bys ys ↔ xs = ys := by
  constructor
  · intro h
    unfold bys at h
    refine (List.map_inj_right ?_).1 h
    intro a b h
    have h' : (a.toNat : Int) = b.toNat := h
    exact BitVec.eq_of_toNat_eq (by omega)
  · rintro rfl; rfl
theorem bytes_cap' (A : Option Addr) (xs : List (BitVec 8)) (ca : Nat) (w : World) (hA : SlRead w A (ints .u8 (bys xs))) (hx : xs.length ≤ 140737488351232) :
    Calls Tryd.prog 36 #[.slice A xs.length ca] w fun e w' => e = .returned (.slice (some ⟨w.heap.size, 0, none⟩) xs.length xs.length) ∧ SlRead w' (some ⟨w.heap.size, 0, none⟩) (ints .u8 (bys xs)) ∧ Below w.heap.size w w' := by
  have h := bytes_cap A (bys xs) ca w hA (by simpa using hx)
  rwa [bys_length] at h
theorem eql_bool (x y : Operand) (b : Bool) (w : World) : (do eqGuard .eql 4 x y (.bool b) (.bool b); binOp .eql 4 (.bool b) (.bool b) : Sem Value).run Tryd.prog w = .ok (.bool true) w := by
  cases b <;> kernel_rfl
end Go.Proofs.YtihnpcoiadbpiaaDoor
