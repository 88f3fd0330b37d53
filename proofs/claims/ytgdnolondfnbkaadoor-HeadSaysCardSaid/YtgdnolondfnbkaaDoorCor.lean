import Derived.Test.YtgdnolondfnbkaaDoorHef
import Derived.Test.YtgdnolondfnbkaaDoorTrg
/-
  The document's Reader.
-/
namespace Go.Proofs.YtgdnolondfnbkaaDoor
open Go.RowKit

/-- the document's Reader as it lies -/
structure DrS (w : World) (X : Nat) (A : Option Addr) (xs : List Int) (p c : Nat) (cc : Int) (pl : Bool) (z : Int) : Prop where
  r : RdS w X A xs p c
  b : w.rangeAt X 2 (frow cc pl z).toList
  fz : ∀ o, w.frozen? ⟨X, o, none⟩ = false
theorem frow_len (cc : Int) (pl : Bool) (z : Int) : (frow cc pl z).toList.length = 3 := rfl
theorem info_F (cc : Int) (pl : Bool) (z : Int) : (Tryd.prog.info? 34).map (·.size) = some (frow cc pl z).toList.length := by kernel_rfl
section
variable {w : World} {X : Nat} {A : Option Addr} {xs : List Int} {p c : Nat} {cc : Int} {pl : Bool} {z : Int}
theorem DrS.turn {F : Nat → Prop} {w' : World} (h : DrS w X A xs p c cc pl z) (ht : Turn F w w') (hX : ¬ F X) (hA : ∀ a, A = some a → ¬ F a.block) : DrS w' X A xs p c cc pl z :=
  ⟨h.r.turn ht hX hA, ht.range h.b h.r.lt hX, fun o => (World.frozen?_of_block (ht.block X h.r.lt hX)).trans (h.fz o)⟩
theorem DrS.turn0 {F : Nat → Prop} {w' : World} (h : DrS w X A xs p c cc pl z) (ht : Turn F w w') (hX : ¬ F X) (hA : 0 < xs.length → ∀ a, A = some a → ¬ F a.block) : DrS w' X A xs p c cc pl z :=
  ⟨h.r.turn0 ht hX hA, ht.range h.b h.r.lt hX, fun o => (World.frozen?_of_block (ht.block X h.r.lt hX)).trans (h.fz o)⟩
theorem DrS.below {w' : World} (h : DrS w X A xs p c cc pl z) (hb : Below w.heap.size w w') : DrS w' X A xs p c cc pl z := h.turn (Turn.of_below (F := fun _ => False) hb) id (fun _ _ => id)
theorem DrS.move (h : DrS w X A xs p c cc pl z) (q : Nat) (hq : q ≤ xs.length) : DrS (w.setCell ⟨X, 1, none⟩ (.int .i64 (q : Int))) X A xs q c cc pl z ∧ Turn (· = X) w (w.setCell ⟨X, 1, none⟩ (.int .i64 (q : Int))) := by
  obtain ⟨h1, h2⟩ := h.r.move q hq
  refine ⟨⟨h1, fun j v hv => ?_, fun o => by rw [frozen_setCell]; exact h.fz o⟩, h2⟩
  rw [World.cell?_setCell_other _ _ _ _ (by intro e; have := congrArg Addr.off e; simp at this; omega)]
  exact h.b j v hv
theorem DrS.there (h : DrS w X A xs p c cc pl z) : w.there X 2 3 := fun j hj => by
  refine ⟨?_, h.fz _⟩
  have hl : j < (frow cc pl z).toList.length := hj
  rw [h.b j _ (List.getElem?_eq_getElem hl)]
  rfl
/-- it has failed -/
theorem DrS.bad (h : DrS w X A xs p c cc pl z) (cc' : Int) (pl' : Bool) (z' : Int) : DrS (w.setCells X 2 (frow cc' pl' z').toList) X A xs p c cc' pl' z' ∧ Turn (· = X) w (w.setCells X 2 (frow cc' pl' z').toList) := by
  have ht : Turn (· = X) w (w.setCells X 2 (frow cc' pl' z').toList) := Turn.of_grown (grown_setCells w X 2 _) (fun k hk => (Option.some.inj hk).symm)
  have hthere := h.there
  refine ⟨⟨⟨?_, ?_, by rw [World.frozen?_setCells]; exact h.r.f, h.r.rd.turn ht (fun h0 a ha => h.r.ap (by simpa using h0) a ha), h.r.ap, h.r.le, h.r.cl⟩, ?_, fun o => by rw [World.frozen?_setCells]; exact h.fz o⟩, ht⟩
  · rw [World.cell?_setCells_out X _ _ _ _ (fun _ _ => by left; show (0 : Nat) < 2; omega)]; exact h.r.c0
  · rw [World.cell?_setCells_out X _ _ _ _ (fun _ _ => by left; show (1 : Nat) < 2; omega)]; exact h.r.c1
  · exact World.rangeAt_setCells_same w X _ _ hthere
end
set_option maxRecDepth 100000 in
set_option maxHeartbeats 1600000 in
theorem bad_no (c : Int) (p : Bool) (z : Int) (w : World) (h : c = 0) : Calls Tryd.prog 24 #[.agg (frow c p z)] w fun e w' => e = .returned (.bool false) ∧ Below w.heap.size w w' := by
  subst h
  have hb := below_alc w (.cells (frow 0 p z) 34)
  go_enter Tryd.func24, Tryd.ntmps24
  unfold frow at *
  go_wp2_with fail
  go_ret
  exact ⟨rfl, hb⟩
set_option maxRecDepth 100000 in
set_option maxHeartbeats 1600000 in
theorem bad_yes (c : Int) (p : Bool) (z : Int) (w : World) (h : c ≠ 0) : Calls Tryd.prog 24 #[.agg (frow c p z)] w fun e w' => e = .returned (.bool true) ∧ Below w.heap.size w w' := by
  have q : (c != 0) = true := by simpa using h
  have hb := below_alc w (.cells (frow c p z) 34)
  go_enter Tryd.func24, Tryd.ntmps24
  unfold frow at *
  go_wp2_with fail
  go_ret
  exact ⟨rfl, hb⟩
section
variable {w : World} {X : Nat} {A : Option Addr} {xs : List Int} {p c : Nat} {cc : Int} {pl : Bool} {z : Int}
set_option maxRecDepth 100000 in
set_option maxHeartbeats 1600000 in
theorem fine_yes (h : DrS w X A xs p c cc pl z) (hc : cc = 0) : Calls Tryd.prog 41 #[.pointer (some ⟨X, 0, none⟩)] w fun e w' => e = .returned (.bool true) ∧ Below w.heap.size w w' := by
  have hr := h.b
  have H := bad_no cc pl z w hc
  clear h hc
  go_enter Tryd.func41, Tryd.ntmps41
  go_wp2_with (refine wpList_load_mid rfl 34 _ rfl X 2 rfl _ _ hr Tryd.underlying34 rfl (info_F _ _ _) ?_)
  refine H.mono ?_
  rintro e w1 ⟨rfl, hb⟩
  go_wp2_with fail
  go_ret
  exact ⟨rfl, hb⟩
set_option maxRecDepth 100000 in
set_option maxHeartbeats 1600000 in
theorem fine_no (h : DrS w X A xs p c cc pl z) (hc : cc ≠ 0) : Calls Tryd.prog 41 #[.pointer (some ⟨X, 0, none⟩)] w fun e w' => e = .returned (.bool false) ∧ Below w.heap.size w w' := by
  have hr := h.b
  have H := bad_yes cc pl z w hc
  clear h hc
  go_enter Tryd.func41, Tryd.ntmps41
  go_wp2_with (refine wpList_load_mid rfl 34 _ rfl X 2 rfl _ _ hr Tryd.underlying34 rfl (info_F _ _ _) ?_)
  refine H.mono ?_
  rintro e w1 ⟨rfl, hb⟩
  go_wp2_with fail
  go_ret
  exact ⟨rfl, hb⟩
set_option maxRecDepth 100000 in
set_option maxHeartbeats 1600000 in
theorem fail_ok (h : DrS w X A xs p c 0 pl z) (k q : Int) (hk : k ≠ 0) : Calls Tryd.prog 42 #[.pointer (some ⟨X, 0, none⟩), .int .i64 k, .int .i64 q] w fun e w' => e = .returned (.tuple #[]) ∧ DrS w' X A xs p c k true q ∧ Turn (· = X) w w' := by
  go_enter Tryd.func42, Tryd.ntmps42
  go_wp2_with fail
  refine (fine_yes h rfl).mono ?_
  rintro e w1 ⟨rfl, hb1⟩
  have h1 := h.below hb1
  go_wp2_with fail
  refine (placed_any k q w1 hk).mono ?_
  rintro e w2 ⟨rfl, hb2⟩
  have h2 := h1.below hb2
  have hst := h2.bad k true q
  have hthere : w2.there X 2 (frow k true q).size := h2.there
  have HF := Lib.hid (And.intro hst.1 (((Turn.of_below (hb1.trans (hb2.mono hb1.size))).trans hst.2 (fun q hq => .inl hq))))
  clear hst h h1 h2 hb1 hb2
  go_wp2_with (refine wpList_store_mid rfl 34 _ _ rfl X 2 (frow k true q) rfl rfl hthere (by kernel_rfl) (frow_one _ _ _) ?_)
  go_end0
  exact ⟨rfl, HF.out⟩
set_option maxRecDepth 100000 in
set_option maxHeartbeats 1600000 in
theorem fail_no (h : DrS w X A xs p c cc pl z) (hc : cc ≠ 0) (k q : Int) : Calls Tryd.prog 42 #[.pointer (some ⟨X, 0, none⟩), .int .i64 k, .int .i64 q] w fun e w' => e = .returned (.tuple #[]) ∧ Below w.heap.size w w' := by
  go_enter Tryd.func42, Tryd.ntmps42
  go_wp2_with fail
  refine (fine_no h hc).mono ?_
  rintro e w1 ⟨rfl, hb1⟩
  go_wp2_with fail
  go_end0
  exact ⟨rfl, hb1⟩
end
end Go.Proofs.YtgdnolondfnbkaaDoor
