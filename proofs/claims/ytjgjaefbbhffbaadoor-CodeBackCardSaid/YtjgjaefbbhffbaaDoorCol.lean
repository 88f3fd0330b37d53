import Derived.Test.YtjgjaefbbhffbaaDoorCok
import Derived.Test.YtjgjaefbbhffbaaDoorCof
import Derived.Laws.Bits128
/-
  What the laws of code share; CodeBools' function within.
-/
namespace Go.Proofs.YtjgjaefbbhffbaaDoor
open Go.RowKit

theorem i64_and255 (n : Int) : bits .and .i64 n 255 = n % 256 := by
  have h255 : (BitVec.ofInt 64 255).toNat = 2 ^ 8 - 1 := by decide
  have key : (BitVec.ofInt 64 n &&& BitVec.ofInt 64 255).toNat = (n % ((2 ^ 64 : Nat) : Int)).toNat % 2 ^ 8 := by
    rw [BitVec.toNat_and, BitVec.toNat_ofInt, h255, Nat.and_two_pow_sub_one_eq_mod]
  show IntKind.i64.wrap ((BitVec.ofInt 64 n &&& BitVec.ofInt 64 255).toNat : Nat) = n % 256
  rw [key, IntKind.wrap_i64]
  omega
theorem EndsAs.fell {E : Nat → Addr} {R : Nat} {A : Option Addr} {xs : List Int} {c lo k : Nat} {z : Int} {e : Ending} {W w : World} (h : FellAt E W k z e w) (hk : k < 19) (hlo : lo ≤ W.heap.size) : EndsAs E R A xs c lo (some (k, z)) e w := by
  obtain ⟨bt, h1, h2, h3, _⟩ := h
  exact .inr ⟨bt, k, z, h1, Nat.le_trans hlo h2, hk, h3, rfl⟩
theorem FellAt.below {E : Nat → Addr} {W w : World} {j : Nat} {z : Int} {e : Ending} (h : FellAt E W j z e w) : Below W.heap.size W w := by
  obtain ⟨_, _, _, _, hb⟩ := h
  exact hb
theorem set_turn (w : World) (B o : Nat) (u : Value) : Turn (· = B) w (w.setCell ⟨B, o, none⟩ u) := Turn.of_grown (grown_setCell w _ _) (fun _ hk => (Option.some.inj hk).symm)
/-- a variable that a function within may turn -/
structure VarS (w : World) (B : Nat) (v : Value) : Prop where
  c : w.cell? ⟨B, 0, none⟩ = some v
  f : w.frozen? ⟨B, 0, none⟩ = false
theorem VarS.lt {w : World} {B : Nat} {v : Value} (h : VarS w B v) : B < w.heap.size := cell_lt h.c
theorem VarS.turn {F : Nat → Prop} {w w' : World} {B : Nat} {v : Value} (h : VarS w B v) (ht : Turn F w w') (hF : ¬ F B) : VarS w' B v := ⟨(ht.cell h.lt hF).trans h.c, (World.frozen?_of_block (ht.block B h.lt hF)).trans h.f⟩
theorem VarS.below {w w' : World} {B : Nat} {v : Value} (h : VarS w B v) (hb : Below w.heap.size w w') : VarS w' B v := h.turn (Turn.of_below (F := fun _ => False) hb) id
theorem VarS.set {w : World} {B : Nat} {v : Value} (h : VarS w B v) (u : Value) : VarS (w.setCell ⟨B, 0, none⟩ u) B u := ⟨World.cell?_setCell_same w _ _ h.c, by rw [frozen_setCell]; exact h.f⟩
theorem Turn.sub {F G : Nat → Prop} {a b : World} (h : Turn F a b) (hF : ∀ q, F q → G q) : Turn G a b := h.mono hF
theorem Turn.and {F : Nat → Prop} {a b c : World} (h : Turn F a b) (h2 : Turn F b c) : Turn F a c := h.trans h2 (fun _ hq => .inl hq)

/-- what CodeBools knows behind read -/
def PB (Bo Ko : Nat) (v m : Int) (o : Option (Nat × Int)) (w : World) : Prop :=
  (o = none ∧ VarS w Bo (.bool (decide (v = 1))) ∧ VarS w Ko (.int .u32 m) ∧ (v = 0 ∨ v = 1)) ∨ (o = some (4, 0) ∧ VarS w Bo (.bool false) ∧ VarS w Ko (.int .u32 0) ∧ 2 ≤ v)
set_option maxRecDepth 100000 in
set_option maxHeartbeats 800000 in
theorem bools1_any {E : Nat → Addr} {w : World} {R Bo Ko c : Nat} {A : Option Addr} {xs : List Int} {v m : Int} (hR : RdS w R A xs 0 c) (hE : ErrsAt E w) (hx : Byts xs) (hl : xs.length = 5) (hv : byteI xs 0 = v) (hm : wordI xs 1 = m)
    (hB : VarS w Bo (.bool false)) (hK : VarS w Ko (.int .u32 0)) (hBR : Bo ≠ R) (hKR : Ko ≠ R) (hBK : Bo ≠ Ko) (hAB : ∀ a, A = some a → a.block ≠ Bo) (hAK : ∀ a, A = some a → a.block ≠ Ko) :
    Calls Tryd.prog 43 #[.pointer (some ⟨R, 0, none⟩), .pointer (some ⟨Bo, 0, none⟩), .pointer (some ⟨Ko, 0, none⟩)] w fun e w2 => ∃ o, Turn (fun q => (q = Bo ∨ q = Ko) ∨ q = R) w w2 ∧ EndsAs E R A xs c w.heap.size o e w2 ∧ PB Bo Ko v m o w2 := by
  have h0 := hx.at_ 0
  rw [hv] at h0
  by_cases h2 : 2 ≤ v
  · have H := rbool_form hR hE (by omega) (by omega) (by rw [hv]; exact h2)
    clear hm hv hx
    go_enter Tryd.func43, Tryd.ntmps43
    go_wp2_with fail
    refine H.mono ?_
    intro e W1 hf
    have hfin : ∃ o, Turn (fun q => (q = Bo ∨ q = Ko) ∨ q = R) w W1 ∧ EndsAs E R A xs c w.heap.size o e W1 ∧ PB Bo Ko v m o W1 :=
      ⟨_, Turn.of_below hf.below, EndsAs.fell hf (by decide) (Nat.le_refl _), .inr ⟨rfl, hB.below hf.below, hK.below hf.below, h2⟩⟩
    obtain ⟨bt, rfl, _⟩ := hf
    have hfin := Lib.hid hfin
    go_wp2_with fail
    exact ⟨rfl, hfin.out⟩
  · obtain ⟨b, hb, H⟩ : ∃ b, decide (v = 1) = b ∧ Calls Tryd.prog 32 #[.pointer (some ⟨R, 0, none⟩)] w fun e w' => e = .returned (.bool b) ∧ RdS w' R A xs (0 + 1) c ∧ Turn (· = R) w w' := by
      rcases (show v = 0 ∨ v = 1 by omega) with rfl | rfl
      · exact ⟨false, by decide, rbool_0 hR hx (by omega) (by omega) hv⟩
      · exact ⟨true, by decide, rbool_1 hR hx (by omega) (by omega) hv⟩
    have HV := Lib.hid (And.intro hb (show v = 0 ∨ v = 1 by omega))
    clear h0 h2 hb hv
    go_enter Tryd.func43, Tryd.ntmps43
    go_wp2_with fail
    refine H.mono ?_
    rintro e W1 ⟨rfl, hR1, hT1⟩
    have hB1 := hB.turn hT1 hBR
    have hK1 := hK.turn hT1 hKR
    have cB := hB1.c
    have fB := hB1.f
    clear H
    go_upto_region 2 with (fail)
    have hst := set_turn W1 Bo 0 (.bool b)
    refine wp_world (fun V => RdS V R A xs 1 c ∧ VarS V Bo (.bool b) ∧ VarS V Ko (.int .u32 0) ∧ Turn (fun q => (q = Bo ∨ q = Ko) ∨ q = R) w V) ⟨hR1.turn hst (Ne.symm hBR) hAB, hB1.set _, hK1.turn hst (Ne.symm hBK), (hT1.sub (fun q hq => .inr hq)).and (hst.sub (fun q hq => .inl (.inl hq)))⟩ ?_
    clear hst cB fB hR1 hT1 hB1 hK1
    rintro W2 ⟨hR2, hB2, hK2, hT2⟩
    have H2 := ru32_ok hR2 hx (by omega) (by omega)
    rw [hm] at H2
    go_wp2_with fail
    refine H2.mono ?_
    rintro e W3 ⟨rfl, hR3, hT3⟩
    have hB3 := hB2.turn hT3 hBR
    have hK3 := hK2.turn hT3 hKR
    have cK := hK3.c
    have fK := hK3.f
    have hst := set_turn W3 Ko 0 (.int .u32 m)
    have hfin : ∃ o, Turn (fun q => (q = Bo ∨ q = Ko) ∨ q = R) w (W3.setCell ⟨Ko, 0, none⟩ (.int .u32 m)) ∧ EndsAs E R A xs c w.heap.size o (.returned (.tuple #[])) (W3.setCell ⟨Ko, 0, none⟩ (.int .u32 m)) ∧ PB Bo Ko v m o (W3.setCell ⟨Ko, 0, none⟩ (.int .u32 m)) :=
      ⟨none, (hT2.and (hT3.sub (fun q hq => .inr hq))).and (hst.sub (fun q hq => .inl (.inr hq))), .inl ⟨rfl, 1 + 4, hR3.turn hst (Ne.symm hKR) hAK, by rw [if_neg (by omega)]⟩, .inl ⟨rfl, by rw [HV.out.1]; exact hB3.turn hst hBK, hK3.set _, HV.out.2⟩⟩
    have hfin := Lib.hid hfin
    clear hst hB3 hK3 hR3 hT3 H2 hR2 hB2 hK2 hT2
    go_wp2_with fail
    go_end0
    exact hfin.out
end Go.Proofs.YtjgjaefbbhffbaaDoor
