import Derived.Test.YthfpmjmgdeefdaaDoorTri
import Derived.Laws.EntriesVeiled
import Derived.Laws.Panics
/-
  TrapCatches: what is called within Try.
-/
namespace Go.Proofs.YthfpmjmgdeefdaaDoor
open Go.RowKit

/-- caught's variables -/
structure CV (E : Nat → Addr) (w0 : World) (B : Nat) (h : Nat) (z : Int) (p q i d : Nat) (W : World) : Prop where
  how : W.cell? ⟨B, 0, none⟩ = some (.int .i64 (h : Int))
  at_ : W.cell? ⟨B + 1, 0, none⟩ = some (.int .i64 z)
  bf : W.cell? ⟨B + 2, 0, none⟩ = some (.int .i64 (p : Int))
  af : W.cell? ⟨B + 3, 0, none⟩ = some (.int .i64 (q : Int))
  er : W.cell? ⟨B + 4, 0, none⟩ = some (errV (E i))
  dn : W.cell? ⟨B + 5, 0, none⟩ = some (.int .i64 (d : Int))
  df : W.frozen? ⟨B + 5, 0, none⟩ = false
  lt : B + 5 < W.heap.size
  b : Below B w0 W
section
variable {E : Nat → Addr} {w0 : World} {B h : Nat} {z : Int} {p q i d n : Nat} {W W' : World}
theorem CV.below (x : CV E w0 B h z p q i d W) (hn : B + 6 ≤ n) (hb : Below n W W') : CV E w0 B h z p q i d W' :=
  ⟨(World.cell?_of_block (hb.block _ (show B < n by omega))).trans x.how, (World.cell?_of_block (hb.block _ (show B + 1 < n by omega))).trans x.at_, (World.cell?_of_block (hb.block _ (show B + 2 < n by omega))).trans x.bf, (World.cell?_of_block (hb.block _ (show B + 3 < n by omega))).trans x.af, (World.cell?_of_block (hb.block _ (show B + 4 < n by omega))).trans x.er, (World.cell?_of_block (hb.block _ (show B + 5 < n by omega))).trans x.dn, (hb.frozen (p := ⟨B + 5, 0, none⟩) (show B + 5 < n by omega)).trans x.df, Nat.lt_of_lt_of_le x.lt hb.size, x.b.trans (hb.mono (by omega))⟩
theorem CV.step (x : CV E w0 B h z p q i d W) : CV E w0 B h z p q i (d + 1) (W.setCell ⟨B + 5, 0, none⟩ (.int .i64 ((d : Int) + 1))) ∧ Oth (B + 5) W.heap.size W (W.setCell ⟨B + 5, 0, none⟩ (.int .i64 ((d : Int) + 1))) := by
  have hb : Oth (B + 5) W.heap.size W (W.setCell ⟨B + 5, 0, none⟩ (.int .i64 ((d : Int) + 1))) := Oth.setCell (S := B + 5) (Oth.of (Below.refl _ _)) ⟨B + 5, 0, none⟩ (.inl rfl) _
  have hl := x.lt
  have c := fun q h1 h2 => hb.cell (q := q) 0 h1 h2
  exact ⟨⟨(c _ (by omega) (by omega)).trans x.how, (c _ (by omega) (by omega)).trans x.at_, (c _ (by omega) (by omega)).trans x.bf, (c _ (by omega) (by omega)).trans x.af, (c _ (by omega) (by omega)).trans x.er, by have := x.dn; simp [go_sem, this], by have := x.df; simpa [go_sem] using this, Nat.lt_of_lt_of_le x.lt hb.size, x.b.trans (hb.below (by omega) (by omega))⟩, hb⟩
end

section
variable {P : Program} {md : Region.Mode} {ops : Array Oper} {Q : Exit → Act → World → Prop} {S : World → Prop} {fuel : Nat} {listed : Array Bool} {a : Act} {w : World}
theorem bounds_below {α : Type} (P : Program) (k : IntKind) (x y : Int) (code : BoundsCode) (w : World) :
    ∃ s w', Below w.heap.size w w' ∧ (boundsPanic k x y code : Sem α).run P w = .halt (.panic (boundsValue P (IntKind.i64.wrap x) y s code.toNat)) w' := by
  unfold boundsPanic boundsValue
  split
  · have h : ∃ s, (do
        let signed ← (fun x => x == 1) <$> choose (.extern "runtime.boundsError.signed" 2)
        runtimePanic (.bounds (IntKind.i64.wrap x) y signed code) : Sem α).run P w = .halt (.panic (.iface P.rt.boundsError (.agg #[.int .i64 (IntKind.i64.wrap x), .int .i64 y, .bool s, .int .u8 code.toNat]))) w.drew := by
      simp [runtimePanic, goPanic, go_sem]
    obtain ⟨s, h⟩ := h
    exact ⟨s, w.drew, Below.drewNr (w := w) 1, h⟩
  · have h : ∃ s, (do
        let signed ← pure (k != .u64)
        runtimePanic (.bounds (IntKind.i64.wrap x) y signed code) : Sem α).run P w = .halt (.panic (.iface P.rt.boundsError (.agg #[.int .i64 (IntKind.i64.wrap x), .int .i64 y, .bool s, .int .u8 code.toNat]))) w := by
      simp [runtimePanic, goPanic, go_sem]
    obtain ⟨s, h⟩ := h
    exact ⟨s, w, Below.refl _ _, h⟩
theorem index_nil (t : TypeId) (k : Int) (w : World) (h : P.underlying t = some (.slice (P.elem t))) :
    ∃ s w', Below w.heap.size w w' ∧ (Instr.indexAt t (.slice none 0 0) (.int .i64 k)).run P w = .halt (.panic (boundsValue P (IntKind.i64.wrap k) 0 s 0)) w' := by
  have e : (Instr.indexAt t (.slice none 0 0) (.int .i64 k)).run P w = (boundsPanic .i64 k 0 .index).run P w := by
    simp [Instr.indexAt, run_underlying h, asIntOf]
  rw [e]
  exact bounds_below P .i64 k 0 .index w
/-- one of the operations that are ready: an index beyond nil -/
theorem rdy_bounds {rs : List Nat} (i : Nat) (t : TypeId) (x y : Operand) (dst : Option Tmp) (k : Int) (hi : ops[i]?.map (fun o => (o.op, o.dst, Region.wanted o (yielded ops a.tmps))) = some (.indexAddr t x y, dst, true))
    (hx : a.eval x = .slice none 0 0) (hy : a.eval y = .int .i64 k) (hu : P.underlying t = some (.slice (P.elem t)))
    (h : ∀ s w', Below w.heap.size w w' → Q (.panic [entry (boundsValue P (IntKind.i64.wrap k) 0 s 0)]) a w') (rest : AllReadyH P md ops Q S fuel listed a w rs) : AllReadyH P md ops Q S fuel listed a w (i :: rs) := by
  obtain ⟨oi, ho, he⟩ := Option.map_eq_some_iff.1 hi
  simp only [Prod.mk.injEq] at he
  refine AllReadyH.cons ho (fun K hK => ?_) rest
  rw [if_pos he.2.2]
  obtain ⟨s, w', hb, hr⟩ := index_nil t k w hu
  unfold Oper.wp
  simp [execOp, he.1, hx, hy, hr, Result.andThen]
  exact h s w' hb
end

/-- what is told of a fall -/
def Got (E : Nat → Addr) (lo : Nat) (c : Int) (pl : Bool) (x : Int) (v : Value) (W : World) : Prop :=
  (∃ b j, lo ≤ b ∧ j < 19 ∧ v = atV b ∧ AtAt b x (errV (E j)) W ∧ c = 101 + (j : Int) ∧ pl = true) ∨ ∃ j, j < 19 ∧ v = errV (E j) ∧ c = 101 + (j : Int) ∧ pl = false ∧ x = 0
/-- a fall, and what is told of it -/
def Fell (E : Nat → Addr) (lo : Nat) (c : Int) (pl : Bool) (x : Int) (e : Ending) (W : World) : Prop :=
  ∃ u pv rt rp, e = .panicked [entry (.iface u pv)] ∧ Got E lo c pl x (.iface rt rp) W ∧ ∀ V, ErrsAt E V → Calls Tryd.prog 34 #[.iface u pv] V fun e w' => e = .returned (.iface rt rp) ∧ Below V.heap.size V w'

def wantC (h i : Nat) : Int := if h = 2 then 0 else if h = 0 ∨ h = 1 ∨ h = 8 then 101 + (i : Int) else 106
def wantP (h : Nat) : Bool := decide (h = 0 ∨ h = 7 ∨ h = 8)
def wantD (h p q : Nat) : Nat := if h = 2 then p + q else p
def InPost (E : Nat → Addr) (w0 : World) (B h : Nat) (z : Int) (p q i : Nat) (W : World) (e : Ending) (W' : World) : Prop :=
  CV E w0 B h z p q i (wantD h p q) W' ∧ Oth (B + 5) W.heap.size W W' ∧ ((h = 2 ∧ e = .returned (.tuple #[])) ∨ h ≠ 2 ∧ Fell E W.heap.size (wantC h i) (wantP h) (if wantP h then z else 0) e W')

set_option maxRecDepth 100000 in
set_option maxHeartbeats 3200000 in
theorem in_any (E : Nat → Addr) (w0 : World) (B h : Nat) (z : Int) (p q i : Nat) (W : World) (hh : h < 9) (hp : p ≤ 50) (hq : q ≤ 50) (hi : i < 19) (hC : CV E w0 B h z p q i 0 W) (HE : ∀ V, Below B w0 V → ErrsAt E V) :
    Calls Tryd.prog 23 #[.pointer (some ⟨B + 2, 0, none⟩), .pointer (some ⟨B + 5, 0, none⟩), .pointer (some ⟨B, 0, none⟩), .pointer (some ⟨B + 1, 0, none⟩), .pointer (some ⟨B + 4, 0, none⟩), .pointer (some ⟨B + 3, 0, none⟩)] W (InPost E w0 B h z p q i W) := by
  go_enter Tryd.func23, Tryd.ntmps23
  go_wp2_with fail
  go_loopw [6] (fun v wr => ∃ k : Nat, k ≤ p ∧ v = .int .i64 (k : Int) ∧ CV E w0 B h z p q i k wr ∧ Oth (B + 5) W.heap.size W wr) (fun v _ => p - (intOf v).toNat)
  case atStart => exact ⟨0, by omega, rfl, hC, Oth.of (Below.refl _ _)⟩
  case round =>
    obtain ⟨k, hk, rfl, hx, ho⟩ := hrel
    have cb := hx.bf
    have cd := hx.dn
    have fd := hx.df
    by_cases hlt : k < p
    · have hs := hx.step
      have ho2 := Lib.hid (ho.trans hs.2 ho.size)
      have hs := Lib.hid hs.1
      clear hx ho
      go_wp2_with fail
      go_roundw
      case rel => exact ⟨k + 1, by omega, by go_num, hs.out, ho2.out⟩
      case measure => simp [intOf]; omega
    · obtain rfl : k = p := by omega
      have ch := hx.how
      have ca := hx.at_
      have ce := hx.er
      have hE := HE wr hx.b
      have HX := Lib.hid hx
      have HO := Lib.hid ho
      have hsz := ho.size
      clear hx ho hC
      have hal : ∀ o, Below wr.heap.size wr (wr.alloc o) := fun o => (Below.refl _ _).alloc (Nat.le_refl _) _
      rcases (show h = 0 ∨ h = 1 ∨ h = 2 ∨ h = 3 ∨ h = 4 ∨ h = 5 ∨ h = 6 ∨ h = 7 ∨ h = 8 by omega) with rfl | rfl | rfl | rfl | rfl | rfl | rfl | rfl | rfl
      · go_wp2_with fail
        refine (fail_any z (E i) _).mono ?_
        rintro e W1 ⟨rfl, rfl⟩
        go_wp2_with fail
        exact ⟨rfl, HX.out.below HX.out.lt (hal _), HO.out.trans (Oth.of (hal _)) hsz, .inr ⟨by decide, _, _, _, _, rfl, .inl ⟨_, i, hsz, hi, rfl, AtAt.new _ _ _, rfl, rfl⟩, fun V _ => caught_thrown _ _ V⟩⟩
      · go_wp2_with fail
        refine (must_err _ _ _).mono ?_
        rintro e W1 ⟨rfl, rfl⟩
        go_wp2_with fail
        exact ⟨rfl, HX.out, HO.out, .inr ⟨by decide, _, _, _, _, rfl, .inr ⟨i, hi, rfl, rfl, rfl, rfl⟩, fun V _ => caught_thrown _ _ V⟩⟩
      · go_wp2_with fail
        refine (must_nil _).mono ?_
        rintro e W1 ⟨rfl, rfl⟩
        go_wp2_with fail
        go_loopw [9] (fun v wr => ∃ j : Nat, j ≤ q ∧ v = .int .i64 (j : Int) ∧ CV E w0 B 2 z k q i (k + j) wr ∧ Oth (B + 5) W.heap.size W wr) (fun v _ => q - (intOf v).toNat)
        case atStart => exact ⟨0, by omega, rfl, HX.out, HO.out⟩
        case round =>
          obtain ⟨j, hj, rfl, hx, ho⟩ := hrel
          clear HX HO hE ch ca ce cb cd fd
          have cb := hx.af
          have cd := hx.dn
          have fd := hx.df
          by_cases hlt : j < q
          · have hs := hx.step
            have ho2 := Lib.hid (ho.trans hs.2 ho.size)
            have hs := Lib.hid hs.1
            clear hx ho
            obtain ⟨t, ht⟩ : ∃ t, t = k + j := ⟨_, rfl⟩
            rw [← ht] at cd hs ho2
            have ht9 : t ≤ 100 := by omega
            have HT := Lib.hid ht
            clear ht
            go_wp2_with fail
            go_roundw
            case rel => exact ⟨j + 1, by omega, by go_num, by rw [show k + (j + 1) = t + 1 by have := HT.out; omega]; exact hs.out, ho2.out⟩
            case measure => simp [intOf]; omega
          · obtain rfl : j = q := by omega
            go_wp2_with fail
            go_end0
            exact ⟨hx, ho, .inl ⟨rfl, rfl⟩⟩
      · go_wp2_with fail
        exact ⟨rfl, HX.out, HO.out, .inr ⟨by decide, _, _, _, _, rfl, .inr ⟨5, by decide, rfl, rfl, rfl, rfl⟩, fun V hV => caught_other E _ (by decide) _ V hV⟩⟩
      · go_wp2_with fail
        exact ⟨rfl, HX.out, HO.out, .inr ⟨by decide, _, _, _, _, rfl, .inr ⟨5, by decide, rfl, rfl, rfl, rfl⟩, fun V hV => caught_other E _ (by decide) _ V hV⟩⟩
      · go_upto_region 18 with (fail)
        refine wp_region_held_drew (S := fun V => CV E w0 B 5 z k q i k V ∧ Oth (B + 5) W.heap.size W V) (by kernel_rfl) ⟨HX.out.below HX.out.lt (Below.drewNr (w := wr) 1), HO.out.trans (Oth.of (Below.drewNr (w := wr) 1)) hsz⟩ (fun hHeld => ?_)
        refine held_move 1 (.tmp 7) (some 45) (.slice none 0 0) (by kernel_rfl) (by kernel_rfl) (by kernel_rfl) (by kernel_rfl) (by kernel_rfl) (fun _ _ _ d _ h => by cases d <;> exact h) hHeld ?_
        refine held_cell 0 3 (.tmp 1) (some 44) (.pointer (some ⟨B + 5, 0, none⟩)) (.int .i64 (k : Int)) (by kernel_rfl) (by kernel_rfl) (fun V hV => load_it _ _ V hV.1.dn) (by kernel_rfl) (by kernel_rfl) (by kernel_rfl) (fun _ _ _ d _ h => by cases d <;> exact h) hHeld ?_
        refine held_cell 2 3 (.tmp 0) (some 46) (.pointer (some ⟨B + 2, 0, none⟩)) (.int .i64 (k : Int)) (by kernel_rfl) (by kernel_rfl) (fun V hV => load_it _ _ V hV.1.bf) (by kernel_rfl) (by kernel_rfl) (by kernel_rfl) (fun _ _ _ d _ h => by cases d <;> exact h) hHeld ?_
        refine held_ready [3] (by kernel_rfl) (by simp) ?_
        refine rdy_bounds 3 33 (.tmp 45) (.tmp 46) (some 47) (k : Int) (by kernel_rfl) (by kernel_rfl) (by kernel_rfl) (by kernel_rfl) (fun s V hV => ?_) AllReadyH.nil
        exact ⟨rfl, hHeld.1.below hHeld.1.lt hV, hHeld.2.trans (Oth.of hV) hHeld.2.size, .inr ⟨by decide, _, _, _, _, rfl, .inr ⟨5, by decide, rfl, rfl, rfl, rfl⟩, fun V hV => caught_other E _ (by decide) _ V hV⟩⟩
      · go_wp2_with fail
        exact ⟨rfl, HX.out, HO.out, .inr ⟨by decide, _, _, _, _, rfl, .inr ⟨5, by decide, rfl, rfl, rfl, rfl⟩, fun V hV => caught_other E _ (by decide) _ V hV⟩⟩
      · go_wp2_with fail
        refine (failn_any E z _ hE).mono ?_
        rintro e W1 ⟨rfl, rfl⟩
        go_wp2_with fail
        exact ⟨rfl, HX.out.below HX.out.lt (hal _), HO.out.trans (Oth.of (hal _)) hsz, .inr ⟨by decide, _, _, _, _, rfl, .inl ⟨_, 5, hsz, by decide, rfl, AtAt.new _ _ _, rfl, rfl⟩, fun V _ => caught_thrown _ _ V⟩⟩
      · go_wp2_with fail
        refine (must_err _ _ _).mono ?_
        rintro e W1 ⟨rfl, rfl⟩
        go_wp2_with fail
        exact ⟨rfl, HX.out.below HX.out.lt (hal _), HO.out.trans (Oth.of (hal _)) hsz, .inr ⟨by decide, _, _, _, _, rfl, .inl ⟨_, i, hsz, hi, rfl, AtAt.new _ _ _, rfl, rfl⟩, fun V _ => caught_thrown _ _ V⟩⟩
end Go.Proofs.YthfpmjmgdeefdaaDoor
