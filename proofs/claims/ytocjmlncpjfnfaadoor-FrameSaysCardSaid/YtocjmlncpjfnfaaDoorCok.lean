import Derived.Test.YtocjmlncpjfnfaaDoorCoj
/-
  code: a Reader's List, Bool.
-/
namespace Go.Proofs.YtocjmlncpjfnfaaDoor
open Go.RowKit

theorem Byts.word {xs : List Int} (h : Byts xs) (p : Nat) : 0 ≤ wordI xs p ∧ wordI xs p < 4294967296 := by
  have h0 := h.at_ p
  have h1 := h.at_ (p + 1)
  have h2 := h.at_ (p + 2)
  have h3 := h.at_ (p + 3)
  unfold wordI
  omega
section
variable {w : World} {R : Nat} {A : Option Addr} {xs : List Int} {p c : Nat} {E : Nat → Addr}
set_option maxRecDepth 100000 in
set_option maxHeartbeats 1600000 in
theorem rlist_big (h : RdS w R A xs p c) (hE : ErrsAt E w) (hx : Byts xs) (hl : xs.length ≤ 100000) (hp : p + 4 ≤ xs.length) (m : Int) (hm : m < wordI xs p) : Calls Tryd.prog 46 #[.pointer (some ⟨R, 0, none⟩), .int .i64 m] w (FellAt E w 1 p) := by
  have hwd := hx.word p
  obtain ⟨x, hx0⟩ : ∃ x, wordI xs p = x := ⟨_, rfl⟩
  have H1 := word_ok h hx hl hp
  rw [hx0] at H1 hwd hm
  clear hx0
  go_enter Tryd.func46, Tryd.ntmps46
  go_wp2_with fail
  refine H1.mono ?_
  rintro e W1 ⟨rfl, hb⟩
  have h1 := h.below hb
  have hk := (hE.below hb).c 1 (by decide)
  have hlt := h1.lt
  have c1 := h1.c1
  have c0 := h1.c0
  have HB := Lib.hid hb
  clear H1 h hE hb
  go_upto_region 3 with (fail)
  refine wp_world (fun V => Below W1.heap.size W1 V) (Below.refl _ _) ?_
  intro U hU
  have hR1 := (hU.cell (p := ⟨R, 1, none⟩) hlt).trans c1
  have hEk : U.cell? ⟨6, 0, none⟩ = some (errV (E 1)) := (hU.cell (p := ⟨6, 0, none⟩) (cell_lt hk)).trans hk
  have hRl := cell_lt hR1
  have hEl := cell_lt hEk
  refine wp_region_held_drew (S := fun V => Below U.heap.size U V) (by kernel_rfl) (Below.drewNr (w := U) 1) (fun hHeld => ?_)
  refine held_move 0 (Go.Operand.tmp 0) (some 12) (.pointer (some ⟨R, 0, none⟩)) (by kernel_rfl) (by kernel_rfl) (by kernel_rfl) (by kernel_rfl) (by kernel_rfl) (fun _ _ _ d _ h => by cases d <;> exact h) hHeld ?_
  refine held_nil 1 (Go.Operand.tmp 12) (some 13) ⟨R, 0, none⟩ (by kernel_rfl) (by kernel_rfl) (by kernel_rfl) (by kernel_rfl) (by kernel_rfl) (fun _ _ _ d _ h => by cases d <;> exact h) hHeld ?_
  refine held_field 2 113 (Go.Operand.tmp 13) 1 (some 14) (.pointer (some ⟨R, 0, none⟩)) (.pointer (some ⟨R, 1, none⟩)) (by kernel_rfl) (by kernel_rfl) (fun w => by kernel_rfl) (by kernel_rfl) (by kernel_rfl) (by kernel_rfl) (fun _ _ _ d _ h => by cases d <;> exact h) hHeld ?_
  refine held_cell 3 3 (Go.Operand.tmp 14) (some 15) (.pointer (some ⟨R, 1, none⟩)) (.int .i64 (p : Int)) (by kernel_rfl) (by kernel_rfl) (fun V hV => load_i64 R 1 V _ ((hV.cell (p := ⟨R, 1, none⟩) hRl).trans hR1)) (by kernel_rfl) (by kernel_rfl) (by kernel_rfl) (fun _ _ _ d _ h => by cases d <;> exact h) hHeld ?_
  refine held_cell 4 38 (Go.Operand.global 6) (some 16) (.pointer (some ⟨6, 0, none⟩)) (errV (E 1)) (by kernel_rfl) (by kernel_rfl) (fun V hV => load_err 6 0 V _ ((hV.cell (p := ⟨6, 0, none⟩) hEl).trans hEk)) (by kernel_rfl) (by kernel_rfl) (by kernel_rfl) (fun _ _ _ d _ h => by cases d <;> exact h) hHeld ?_
  refine held_fall 5 70 #[Go.Operand.tmp 15, Go.Operand.tmp 16] #[3, 38] (some 17) #[.int .i64 (p : Int), errV (E 1)] _ (by kernel_rfl) (by kernel_rfl) (by kernel_rfl) (by kernel_rfl) (fail_any (p : Int) (E 1) _) ?_
  rintro e V ⟨rfl, rfl⟩
  refine ⟨_, rfl, ?_⟩
  exact ⟨rfl, FellAt.of 1 p (HB.out.trans ((hU.trans (hHeld.mono hU.size)).mono HB.out.size))⟩
set_option maxRecDepth 100000 in
set_option maxHeartbeats 1600000 in
theorem rlist_long (h : RdS w R A xs p c) (hE : ErrsAt E w) (hx : Byts xs) (hl : xs.length ≤ 100000) (hp : p + 4 ≤ xs.length) (m : Int) (hm : wordI xs p ≤ m ∧ (xs.length : Int) - p - 4 < wordI xs p) : Calls Tryd.prog 46 #[.pointer (some ⟨R, 0, none⟩), .int .i64 m] w (FellAt E w 2 p) := by
  have hwd := hx.word p
  obtain ⟨x, hx0⟩ : ∃ x, wordI xs p = x := ⟨_, rfl⟩
  have H1 := word_ok h hx hl hp
  rw [hx0] at H1 hwd hm
  clear hx0
  go_enter Tryd.func46, Tryd.ntmps46
  go_wp2_with fail
  refine H1.mono ?_
  rintro e W1 ⟨rfl, hb⟩
  have h1 := h.below hb
  have hk := (hE.below hb).c 2 (by decide)
  have hlt := h1.lt
  have c1 := h1.c1
  have c0 := h1.c0
  have HB := Lib.hid hb
  clear H1 h hE hb
  go_wp2_with fail
  go_quiet (fail)
  go_upto_region 5 with (fail)
  refine wp_world (fun V => Below W1.heap.size W1 V) (Below.drewNr _) ?_
  intro U hU
  have hR1 := (hU.cell (p := ⟨R, 1, none⟩) hlt).trans c1
  have hEk : U.cell? ⟨7, 0, none⟩ = some (errV (E 2)) := (hU.cell (p := ⟨7, 0, none⟩) (cell_lt hk)).trans hk
  have hRl := cell_lt hR1
  have hEl := cell_lt hEk
  refine wp_region_held_drew (S := fun V => Below U.heap.size U V) (by kernel_rfl) (Below.drewNr (w := U) 1) (fun hHeld => ?_)
  refine held_move 0 (Go.Operand.tmp 0) (some 31) (.pointer (some ⟨R, 0, none⟩)) (by kernel_rfl) (by kernel_rfl) (by kernel_rfl) (by kernel_rfl) (by kernel_rfl) (fun _ _ _ d _ h => by cases d <;> exact h) hHeld ?_
  refine held_nil 1 (Go.Operand.tmp 31) (some 32) ⟨R, 0, none⟩ (by kernel_rfl) (by kernel_rfl) (by kernel_rfl) (by kernel_rfl) (by kernel_rfl) (fun _ _ _ d _ h => by cases d <;> exact h) hHeld ?_
  refine held_field 2 113 (Go.Operand.tmp 32) 1 (some 33) (.pointer (some ⟨R, 0, none⟩)) (.pointer (some ⟨R, 1, none⟩)) (by kernel_rfl) (by kernel_rfl) (fun w => by kernel_rfl) (by kernel_rfl) (by kernel_rfl) (by kernel_rfl) (fun _ _ _ d _ h => by cases d <;> exact h) hHeld ?_
  refine held_cell 3 3 (Go.Operand.tmp 33) (some 34) (.pointer (some ⟨R, 1, none⟩)) (.int .i64 (p : Int)) (by kernel_rfl) (by kernel_rfl) (fun V hV => load_i64 R 1 V _ ((hV.cell (p := ⟨R, 1, none⟩) hRl).trans hR1)) (by kernel_rfl) (by kernel_rfl) (by kernel_rfl) (fun _ _ _ d _ h => by cases d <;> exact h) hHeld ?_
  refine held_cell 4 38 (Go.Operand.global 7) (some 35) (.pointer (some ⟨7, 0, none⟩)) (errV (E 2)) (by kernel_rfl) (by kernel_rfl) (fun V hV => load_err 7 0 V _ ((hV.cell (p := ⟨7, 0, none⟩) hEl).trans hEk)) (by kernel_rfl) (by kernel_rfl) (by kernel_rfl) (fun _ _ _ d _ h => by cases d <;> exact h) hHeld ?_
  refine held_fall 5 70 #[Go.Operand.tmp 34, Go.Operand.tmp 35] #[3, 38] (some 36) #[.int .i64 (p : Int), errV (E 2)] _ (by kernel_rfl) (by kernel_rfl) (by kernel_rfl) (by kernel_rfl) (fail_any (p : Int) (E 2) _) ?_
  rintro e V ⟨rfl, rfl⟩
  refine ⟨_, rfl, ?_⟩
  exact ⟨rfl, FellAt.of 2 p (HB.out.trans ((hU.trans (hHeld.mono hU.size)).mono HB.out.size))⟩
set_option maxRecDepth 100000 in
set_option maxHeartbeats 1600000 in
theorem rlist_ok (h : RdS w R A xs p c) (hx : Byts xs) (hl : xs.length ≤ 100000) (n : Nat) (hp : p + 4 + n ≤ xs.length) (m : Int) (hm : wordI xs p = n) (hn : (n : Int) ≤ m) : Calls Tryd.prog 46 #[.pointer (some ⟨R, 0, none⟩), .int .i64 m] w fun e w' => ∃ v, e = .returned v ∧ w'.ownsRow w.heap.size 5 1 v n (ints .u8 ((xs.drop (p + 4)).take n)) ∧ RdS w' R A xs (p + 4 + n) c ∧ Turn (· = R) w w' := by
  have H1 := word_ok h hx hl (by omega)
  rw [hm] at H1
  clear hm
  go_enter Tryd.func46, Tryd.ntmps46
  go_wp2_with fail
  refine H1.mono ?_
  rintro e W1 ⟨rfl, hb⟩
  have h1 := h.below hb
  have c1 := h1.c1
  have c0 := h1.c0
  clear H1 h
  go_wp2_with fail
  go_quiet (fail)
  go_upto_region 6 with (fail)
  refine wp_world (fun V => Below W1.heap.size W1 V) (Below.drewNr _) ?_
  intro W2 hb2
  have h2 := h1.below hb2
  have c0 := h2.c0
  have c1 := h2.c1
  have f1 := h2.f
  have hb3 : Below w.heap.size w W2 := hb.trans (hb2.mono hb.size)
  go_upto_region 7 with (fail)
  obtain ⟨hmv, hmt⟩ := h2.move (p + 4) (by omega)
  rw [show ((p + 4 : Nat) : Int) = (p : Int) + 4 by simp] at hmv hmt
  refine wp_world (fun V => RdS V R A xs (p + 4) c ∧ Turn (· = R) w V) ⟨hmv, (Turn.of_below hb3).trans hmt (fun q hq => .inl hq)⟩ ?_
  rintro U ⟨hU, hT⟩
  have HT := Lib.hid hT
  clear hT hmv hmt hb3 h2 hb2 hb h1 c0 c1 f1
  go_wp2_with fail
  refine (rraw_ok hU hl n hp).mono ?_
  rintro e V ⟨v, rfl, hown, hR, hT2⟩
  obtain ⟨Av, cv, rfl, _⟩ := ownsRow_form hown
  have HF := Lib.hid (And.intro (ownsRow_lower hown HT.out.size) (And.intro hR (HT.out.trans hT2 (fun q hq => .inl hq))))
  clear hown hR hT2 hU
  go_wp2_with fail
  go_ret
  exact ⟨.slice Av n cv, rfl, HF.out⟩
end
end Go.Proofs.YtocjmlncpjfnfaaDoor
