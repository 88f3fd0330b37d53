import Derived.Test.YtocjmlncpjfnfaaDoorCoi
/-
  code: a Reader's methods.
-/
namespace Go.Proofs.YtocjmlncpjfnfaaDoor
open Go.RowKit

section
variable {w : World} {R : Nat} {A : Option Addr} {xs : List Int} {p c : Nat} {E : Nat → Addr}
set_option maxRecDepth 100000 in
theorem rat_any (h : RdS w R A xs p c) : Calls Tryd.prog 68 #[.pointer (some ⟨R, 0, none⟩)] w fun e w' => e = .returned (.int .i64 (p : Int)) ∧ w' = w := by
  have c1 := h.c1
  clear h
  go_enter Tryd.func68, Tryd.ntmps68
  go_wp2_with fail
  go_ret
  exact ⟨rfl, rfl⟩
set_option maxRecDepth 100000 in
set_option maxHeartbeats 1600000 in
theorem word_no (h : RdS w R A xs p c) (hE : ErrsAt E w) (hl : xs.length ≤ 100000) (hp : xs.length < p + 4) : Calls Tryd.prog 72 #[.pointer (some ⟨R, 0, none⟩)] w (FellAt E w 2 p) := by
  have H1 := need_no h hE hl 4 (by omega)
  clear h hE
  go_enter Tryd.func72, Tryd.ntmps72
  go_wp2_with fail
  refine H1.mono ?_
  rintro e W1 ⟨bt, rfl, hf⟩
  have hf := Lib.hid hf
  go_wp2_with fail
  exact ⟨rfl, bt, rfl, hf.out⟩
set_option maxRecDepth 100000 in
set_option maxHeartbeats 1600000 in
theorem ru8_no (h : RdS w R A xs p c) (hE : ErrsAt E w) (hl : xs.length ≤ 100000) (hp : xs.length ≤ p) : Calls Tryd.prog 69 #[.pointer (some ⟨R, 0, none⟩)] w (FellAt E w 2 p) := by
  have H1 := need_no h hE hl 1 (by omega)
  clear h hE
  go_enter Tryd.func69, Tryd.ntmps69
  go_wp2_with fail
  refine H1.mono ?_
  rintro e W1 ⟨bt, rfl, hf⟩
  have hf := Lib.hid hf
  go_wp2_with fail
  exact ⟨rfl, bt, rfl, hf.out⟩
set_option maxRecDepth 100000 in
set_option maxHeartbeats 1600000 in
theorem ru32_no (h : RdS w R A xs p c) (hE : ErrsAt E w) (hl : xs.length ≤ 100000) (hp : xs.length < p + 4) : Calls Tryd.prog 45 #[.pointer (some ⟨R, 0, none⟩)] w (FellAt E w 2 p) := by
  have H1 := word_no h hE hl hp
  clear h hE
  go_enter Tryd.func45, Tryd.ntmps45
  go_wp2_with fail
  refine H1.mono ?_
  rintro e W1 ⟨bt, rfl, hf⟩
  have hf := Lib.hid hf
  go_wp2_with fail
  exact ⟨rfl, bt, rfl, hf.out⟩
set_option maxRecDepth 100000 in
set_option maxHeartbeats 1600000 in
theorem rraw_no (h : RdS w R A xs p c) (hE : ErrsAt E w) (hl : xs.length ≤ 100000) (n : Int) (h0 : 0 ≤ n) (hn : (xs.length : Int) - p < n) : Calls Tryd.prog 44 #[.pointer (some ⟨R, 0, none⟩), .int .i64 n] w (FellAt E w 2 p) := by
  have H1 := need_no h hE hl n hn
  clear h hE
  go_enter Tryd.func44, Tryd.ntmps44
  go_wp2_with fail
  refine H1.mono ?_
  rintro e W1 ⟨bt, rfl, hf⟩
  have hf := Lib.hid hf
  go_wp2_with fail
  exact ⟨rfl, bt, rfl, hf.out⟩
set_option maxRecDepth 100000 in
set_option maxHeartbeats 1600000 in
theorem rlist_no4 (h : RdS w R A xs p c) (hE : ErrsAt E w) (hl : xs.length ≤ 100000) (n : Int) (hp : xs.length < p + 4) : Calls Tryd.prog 46 #[.pointer (some ⟨R, 0, none⟩), .int .i64 n] w (FellAt E w 2 p) := by
  have H1 := word_no h hE hl hp
  clear h hE
  go_enter Tryd.func46, Tryd.ntmps46
  go_wp2_with fail
  refine H1.mono ?_
  rintro e W1 ⟨bt, rfl, hf⟩
  have hf := Lib.hid hf
  go_wp2_with fail
  exact ⟨rfl, bt, rfl, hf.out⟩
set_option maxRecDepth 100000 in
set_option maxHeartbeats 1600000 in
theorem rraw_neg (h : RdS w R A xs p c) (hE : ErrsAt E w) (n : Int) (h0 : n < 0) : Calls Tryd.prog 44 #[.pointer (some ⟨R, 0, none⟩), .int .i64 n] w (FellAt E w 1 p) := by
  have c1 := h.c1
  have hlt := h.lt
  have hk := hE.c 1 (by decide)
  clear h hE
  go_enter Tryd.func44, Tryd.ntmps44
  go_upto_region 2 with (fail)
  refine wp_world (fun V => Below w.heap.size w V) (Below.refl _ _) ?_
  intro U hU
  have hR1 := (hU.cell (p := ⟨R, 1, none⟩) hlt).trans c1
  have hEk : U.cell? ⟨6, 0, none⟩ = some (errV (E 1)) := (hU.cell (p := ⟨6, 0, none⟩) (cell_lt hk)).trans hk
  have hRl := cell_lt hR1
  have hEl := cell_lt hEk
  refine wp_region_held_drew (S := fun V => Below U.heap.size U V) (by kernel_rfl) (Below.drewNr (w := U) 1) (fun hHeld => ?_)
  refine held_move 0 (Go.Operand.tmp 0) (some 7) (.pointer (some ⟨R, 0, none⟩)) (by kernel_rfl) (by kernel_rfl) (by kernel_rfl) (by kernel_rfl) (by kernel_rfl) (fun _ _ _ d _ h => by cases d <;> exact h) hHeld ?_
  refine held_nil 1 (Go.Operand.tmp 7) (some 8) ⟨R, 0, none⟩ (by kernel_rfl) (by kernel_rfl) (by kernel_rfl) (by kernel_rfl) (by kernel_rfl) (fun _ _ _ d _ h => by cases d <;> exact h) hHeld ?_
  refine held_field 2 113 (Go.Operand.tmp 8) 1 (some 9) (.pointer (some ⟨R, 0, none⟩)) (.pointer (some ⟨R, 1, none⟩)) (by kernel_rfl) (by kernel_rfl) (fun w => by kernel_rfl) (by kernel_rfl) (by kernel_rfl) (by kernel_rfl) (fun _ _ _ d _ h => by cases d <;> exact h) hHeld ?_
  refine held_cell 3 3 (Go.Operand.tmp 9) (some 10) (.pointer (some ⟨R, 1, none⟩)) (.int .i64 (p : Int)) (by kernel_rfl) (by kernel_rfl) (fun V hV => load_i64 R 1 V _ ((hV.cell (p := ⟨R, 1, none⟩) hRl).trans hR1)) (by kernel_rfl) (by kernel_rfl) (by kernel_rfl) (fun _ _ _ d _ h => by cases d <;> exact h) hHeld ?_
  refine held_cell 4 38 (Go.Operand.global 6) (some 11) (.pointer (some ⟨6, 0, none⟩)) (errV (E 1)) (by kernel_rfl) (by kernel_rfl) (fun V hV => load_err 6 0 V _ ((hV.cell (p := ⟨6, 0, none⟩) hEl).trans hEk)) (by kernel_rfl) (by kernel_rfl) (by kernel_rfl) (fun _ _ _ d _ h => by cases d <;> exact h) hHeld ?_
  refine held_fall 5 70 #[Go.Operand.tmp 10, Go.Operand.tmp 11] #[3, 38] (some 12) #[.int .i64 (p : Int), errV (E 1)] _ (by kernel_rfl) (by kernel_rfl) (by kernel_rfl) (by kernel_rfl) (fail_any (p : Int) (E 1) _) ?_
  rintro e V ⟨rfl, rfl⟩
  refine ⟨_, rfl, ?_⟩
  exact ⟨rfl, FellAt.of 1 p (hU.trans (hHeld.mono hU.size))⟩
set_option maxRecDepth 100000 in
set_option maxHeartbeats 1600000 in
theorem ru8_ok (h : RdS w R A xs p c) (hx : Byts xs) (hl : xs.length ≤ 100000) (hp : p < xs.length) : Calls Tryd.prog 69 #[.pointer (some ⟨R, 0, none⟩)] w fun e w' => e = .returned (.int .i64 (byteI xs p)) ∧ RdS w' R A xs (p + 1) c ∧ Turn (· = R) w w' := by
  have H1 := need_ok h hl 1 (by omega)
  go_enter Tryd.func69, Tryd.ntmps69
  go_wp2_with fail
  refine H1.mono ?_
  rintro e W1 ⟨rfl, hb⟩
  have h1 := h.below hb
  have c0 := h1.c0
  have c1 := h1.c1
  have f1 := h1.f
  clear H1 h
  go_upto_region 3 with (fail)
  obtain ⟨hmv, hmt⟩ := h1.move (p + 1) (by omega)
  rw [show ((p + 1 : Nat) : Int) = (p : Int) + 1 by simp] at hmv hmt
  refine wp_world (fun V => RdS V R A xs (p + 1) c ∧ Turn (· = R) w V) ⟨hmv, (Turn.of_below hb).trans hmt (fun q hq => .inl hq)⟩ ?_
  rintro U ⟨hU, hT⟩
  obtain ⟨b, o, rfl, _, _, hc⟩ := hU.cells (by omega)
  have k0 := hc p hp
  have u0 := hU.c0
  have u1 : U.cell? ⟨R, 1, none⟩ = some (.int .i64 ((p : Int) + 1)) := hU.c1
  have HF := Lib.hid (And.intro hU hT)
  have r0 := hx.at_ p
  obtain ⟨x0, hx0⟩ : ∃ x0, byteI xs p = x0 := ⟨_, rfl⟩
  rw [hx0] at k0 r0
  have HV := Lib.hid hx0
  clear hx0 hU hT hmv hmt h1 hb c0 c1 f1 hc
  have hw1 : (p : Int) + 1 - 1 = p := by omega
  go_wp2_with fail
  go_quiet (fail)
  go_wp2_with fail
  go_ret
  exact ⟨by rw [HV.out]; rfl, HF.out.1.below (Below.drewNr _), HF.out.2.trans (Turn.of_below (F := (· = R)) (Below.drewNr _)) (fun q hq => .inl hq)⟩
set_option maxRecDepth 100000 in
set_option maxHeartbeats 1600000 in
theorem ru32_ok (h : RdS w R A xs p c) (hx : Byts xs) (hl : xs.length ≤ 100000) (hp : p + 4 ≤ xs.length) : Calls Tryd.prog 45 #[.pointer (some ⟨R, 0, none⟩)] w fun e w' => e = .returned (.int .u32 (wordI xs p)) ∧ RdS w' R A xs (p + 4) c ∧ Turn (· = R) w w' := by
  have H1 := word_ok h hx hl hp
  generalize wordI xs p = x at *
  go_enter Tryd.func45, Tryd.ntmps45
  go_wp2_with fail
  refine H1.mono ?_
  rintro e W1 ⟨rfl, hb⟩
  have h1 := h.below hb
  have c0 := h1.c0
  have c1 := h1.c1
  have f1 := h1.f
  clear H1 h
  go_upto_region 3 with (fail)
  obtain ⟨hmv, hmt⟩ := h1.move (p + 4) (by omega)
  rw [show ((p + 4 : Nat) : Int) = (p : Int) + 4 by simp] at hmv hmt
  refine wp_world (fun V => RdS V R A xs (p + 4) c ∧ Turn (· = R) w V) ⟨hmv, (Turn.of_below hb).trans hmt (fun q hq => .inl hq)⟩ ?_
  rintro U ⟨hU, hT⟩
  have HF := Lib.hid (And.intro hU hT)
  clear hU hT hmv hmt h1 hb c0 c1 f1
  go_wp2_with fail
  go_ret
  exact ⟨rfl, HF.out⟩
theorem sliceAt_lhA {P : Program} {t e : TypeId} (hu : P.underlying t = some (.slice e)) (hs : (P.info? e).map (·.size) = some 1) (A : Option Addr) (n cap l m : Nat) (hm : l + m ≤ cap) (w : World) :
    (Instr.sliceAt t (.slice A n cap) (some (.int .i64 (l : Int))) (some (.int .i64 ((l : Int) + m))) none).run P w = .ok (.slice (cutA A l cap) m (cap - l)) w := by
  have e2 : P.elem t = e := by simp [Program.elem, hu]
  rw [run_sliceAt_slice (h := by rw [e2]; exact hu), run_slice_lh (P := P) w t A n cap (by rw [e2]; exact hu) .i64 .i64 (l : Int) ((l : Int) + m) (by omega) (by omega) (by omega), e2]
  obtain ⟨i, hi, hz⟩ := Option.map_eq_some_iff.1 hs
  have h1 : ((l : Int) + m).toNat = l + m := by omega
  have h3 : l + m - l = m := by omega
  simp [sizeOf, typeInfo, hi, hz, Result.andThen, sliced, h1, h3, cutA]
theorem SlRead.take {w : World} {A : Option Addr} {k : IntKind} {xs : List Int} (h : SlRead w A (ints k xs)) (n : Nat) : SlRead w A (ints k (xs.take n)) := by
  intro hn
  have hn2 : 0 < xs.length := by simp at hn; omega
  obtain ⟨b, o, rfl, hlt, hc⟩ := h (by simpa using hn2)
  refine ⟨b, o, rfl, hlt, fun j u hu => hc j u ?_⟩
  have hj := (List.getElem?_eq_some_iff.1 hu).1
  rw [← hu]
  unfold ints at hj ⊢
  rw [List.map_take, List.getElem?_take, if_pos (by simp at hj; omega)]
/-- a cut of what is read -/
theorem cut_read {w : World} {A : Option Addr} {xs : List Int} {c : Nat} (rd : SlRead w A (ints .u8 xs)) (cl : xs.length ≤ c) (p n : Nat) (hp : p + n ≤ xs.length) :
    (∀ w, (Instr.sliceAt 25 (.slice A xs.length c) (some (.int .i64 (p : Int))) (some (.int .i64 ((p : Int) + n))) none).run Tryd.prog w = .ok (.slice (cutA A p c) n (c - p)) w) ∧ SlRead w (cutA A p c) (ints .u8 ((xs.drop p).take n)) := by
  refine ⟨fun w => sliceAt_lhA (P := Tryd.prog) Tryd.underlying25 (by kernel_rfl) A xs.length c p n (by omega) w, ?_⟩
  refine (rd.cut p (cutA A p c) (fun hpl b o e => ?_)).take n
  subst e
  exact cutA_some hpl cl
set_option maxRecDepth 100000 in
set_option maxHeartbeats 1600000 in
theorem rraw_ok (h : RdS w R A xs p c) (hl : xs.length ≤ 100000) (n : Nat) (hp : p + n ≤ xs.length) : Calls Tryd.prog 44 #[.pointer (some ⟨R, 0, none⟩), .int .i64 (n : Int)] w fun e w' => ∃ v, e = .returned v ∧ w'.ownsRow w.heap.size 5 1 v n (ints .u8 ((xs.drop p).take n)) ∧ RdS w' R A xs (p + n) c ∧ Turn (· = R) w w' := by
  have H1 := need_ok h hl n (by omega)
  go_enter Tryd.func44, Tryd.ntmps44
  go_wp2_with fail
  refine H1.mono ?_
  rintro e W1 ⟨rfl, hb⟩
  have h1 := h.below hb
  have c0 := h1.c0
  have c1 := h1.c1
  have f1 := h1.f
  clear H1 h
  go_upto_region 5 with (fail)
  obtain ⟨hmv, hmt⟩ := h1.move (p + n) (by omega)
  rw [show ((p + n : Nat) : Int) = (p : Int) + n from Int.natCast_add p n] at hmv hmt
  refine wp_world (fun V => RdS V R A xs (p + n) c ∧ Turn (· = R) w V) ⟨hmv, (Turn.of_below hb).trans hmt (fun q hq => .inl hq)⟩ ?_
  rintro U ⟨hU, hT⟩
  obtain ⟨hsl, hys⟩ := cut_read hU.rd hU.cl p n hp
  generalize cutA A p c = A2 at *
  generalize c - p = c2 at *
  have hyl : ((xs.drop p).take n).length ≤ 100000000 := by simp; omega
  have hyn : ((xs.drop p).take n).length = n := by simp; omega
  obtain ⟨ys, hy0⟩ : ∃ ys, (xs.drop p).take n = ys := ⟨_, rfl⟩
  rw [hy0] at hyl hyn hys
  have HY := Lib.hid hy0
  clear hy0
  have u0 := hU.c0
  have u1 : U.cell? ⟨R, 1, none⟩ = some (.int .i64 ((p : Int) + n)) := hU.c1
  have hRl := hU.lt
  have hle := hU.le
  have HF := Lib.hid (And.intro hU hT)
  clear hU hT hmv hmt h1 hb c0 c1 f1
  subst hyn
  refine wp_region_noPanic ?_
  refine wp_region_held_drew (S := fun V => Below U.heap.size U V) (by kernel_rfl) (Below.drewNr (w := U) 1) (fun hHeld => ?_)
  refine held_move 0 (Go.Operand.tmp 0) (some 24) (.pointer (some ⟨R, 0, none⟩)) (by kernel_rfl) (by kernel_rfl) (by kernel_rfl) (by kernel_rfl) (by kernel_rfl) (fun _ _ _ _ _ h => h) hHeld ?_
  refine held_nil 1 (Go.Operand.tmp 24) (some 25) ⟨R, 0, none⟩ (by kernel_rfl) (by kernel_rfl) (by kernel_rfl) (by kernel_rfl) (by kernel_rfl) (fun _ _ _ _ _ h => h) hHeld ?_
  refine held_field 2 113 (Go.Operand.tmp 25) 0 (some 26) (.pointer (some ⟨R, 0, none⟩)) (.pointer (some ⟨R, 0, none⟩)) (by kernel_rfl) (by kernel_rfl) (fun w => by kernel_rfl) (by kernel_rfl) (by kernel_rfl) (by kernel_rfl) (fun _ _ _ _ _ h => h) hHeld ?_
  refine held_cell 3 25 (Go.Operand.tmp 26) (some 27) (.pointer (some ⟨R, 0, none⟩)) (.slice A xs.length c) (by kernel_rfl) (by kernel_rfl) (fun V hV => load_slice R 0 V 25 (fun w => by kernel_rfl) _ ((hV.cell (p := ⟨R, 0, none⟩) hRl).trans u0)) (by kernel_rfl) (by kernel_rfl) (by kernel_rfl) (fun _ _ _ _ _ h => h) hHeld ?_
  refine held_move 4 (Go.Operand.tmp 0) (some 28) (.pointer (some ⟨R, 0, none⟩)) (by kernel_rfl) (by kernel_rfl) (by kernel_rfl) (by kernel_rfl) (by kernel_rfl) (fun _ _ _ _ _ h => h) hHeld ?_
  refine held_nil 5 (Go.Operand.tmp 28) (some 29) ⟨R, 0, none⟩ (by kernel_rfl) (by kernel_rfl) (by kernel_rfl) (by kernel_rfl) (by kernel_rfl) (fun _ _ _ _ _ h => h) hHeld ?_
  refine held_field 6 113 (Go.Operand.tmp 29) 1 (some 30) (.pointer (some ⟨R, 0, none⟩)) (.pointer (some ⟨R, 1, none⟩)) (by kernel_rfl) (by kernel_rfl) (fun w => by kernel_rfl) (by kernel_rfl) (by kernel_rfl) (by kernel_rfl) (fun _ _ _ _ _ h => h) hHeld ?_
  refine held_cell 7 3 (Go.Operand.tmp 30) (some 31) (.pointer (some ⟨R, 1, none⟩)) (.int .i64 ((p : Int) + ys.length)) (by kernel_rfl) (by kernel_rfl) (fun V hV => load_i64 R 1 V _ ((hV.cell (p := ⟨R, 1, none⟩) hRl).trans u1)) (by kernel_rfl) (by kernel_rfl) (by kernel_rfl) (fun _ _ _ _ _ h => h) hHeld ?_
  refine held_move 8 (Go.Operand.tmp 1) (some 32) (.int .i64 (ys.length : Int)) (by kernel_rfl) (by kernel_rfl) (by kernel_rfl) (by kernel_rfl) (by kernel_rfl) (fun _ _ _ _ _ h => h) hHeld ?_
  refine held_bin 9 Go.BinOp.sub 3 (Go.Operand.tmp 31) (Go.Operand.tmp 32) 3 (some 33) (.int .i64 ((p : Int) + ys.length)) (.int .i64 (ys.length : Int)) (.int .i64 (p : Int)) (by kernel_rfl) (by kernel_rfl) (fun w => sub_int _ _ _ w _ _ _ (by omega) (by omega) (by omega)) (by kernel_rfl) (by kernel_rfl) (by kernel_rfl) (fun _ _ _ _ _ h => h) hHeld ?_
  refine held_move 10 (Go.Operand.tmp 0) (some 34) (.pointer (some ⟨R, 0, none⟩)) (by kernel_rfl) (by kernel_rfl) (by kernel_rfl) (by kernel_rfl) (by kernel_rfl) (fun _ _ _ _ _ h => h) hHeld ?_
  refine held_nil 11 (Go.Operand.tmp 34) (some 35) ⟨R, 0, none⟩ (by kernel_rfl) (by kernel_rfl) (by kernel_rfl) (by kernel_rfl) (by kernel_rfl) (fun _ _ _ _ _ h => h) hHeld ?_
  refine held_field 12 113 (Go.Operand.tmp 35) 1 (some 36) (.pointer (some ⟨R, 0, none⟩)) (.pointer (some ⟨R, 1, none⟩)) (by kernel_rfl) (by kernel_rfl) (fun w => by kernel_rfl) (by kernel_rfl) (by kernel_rfl) (by kernel_rfl) (fun _ _ _ _ _ h => h) hHeld ?_
  refine held_cell 13 3 (Go.Operand.tmp 36) (some 37) (.pointer (some ⟨R, 1, none⟩)) (.int .i64 ((p : Int) + ys.length)) (by kernel_rfl) (by kernel_rfl) (fun V hV => load_i64 R 1 V _ ((hV.cell (p := ⟨R, 1, none⟩) hRl).trans u1)) (by kernel_rfl) (by kernel_rfl) (by kernel_rfl) (fun _ _ _ _ _ h => h) hHeld ?_
  refine held_slice 14 25 (Go.Operand.tmp 27) (some (Go.Operand.tmp 33)) (some (Go.Operand.tmp 37)) none (some 38) (.slice A xs.length c) (some (.int .i64 (p : Int))) (some (.int .i64 ((p : Int) + ys.length))) none (.slice A2 ys.length c2) (by kernel_rfl) (by kernel_rfl) (hsl) (by kernel_rfl) (by kernel_rfl) (by kernel_rfl) (fun _ _ _ _ _ h => h) hHeld ?_
  refine held_call 15 65 #[Go.Operand.tmp 38] #[25] (some 39) #[.slice A2 ys.length c2] _ (by kernel_rfl) (by kernel_rfl) (by kernel_rfl) (by kernel_rfl) (cloneI_any A2 ys c2 _ (hys.below hHeld) hyl) ?_
  rintro e Y1 ⟨v1, rfl, hown, hbY⟩
  obtain ⟨Av, cv, rfl, _⟩ := ownsRow_form hown
  refine ⟨_, rfl, hHeld.trans (hbY.mono hHeld.size), fun hHeld => ?_⟩
  refine held_assign 16 (Go.Operand.tmp 39) (some 4) (.slice Av ys.length cv) (by kernel_rfl) (by kernel_rfl) (by kernel_rfl) (by kernel_rfl) (by kernel_rfl) (fun _ _ _ _ _ h => h) hHeld ?_
  refine wpAnyH_done (by kernel_rfl) ?_ _
  refine NoPanic.normal ?_
  try simp only [Act.put, List.setIfInBounds_toArray, List.set_cons_zero, List.set_cons_succ]
  try simp only [put_list, List.set_cons_zero, List.set_cons_succ]
  go_wp2_with fail
  go_ret
  refine ⟨.slice Av ys.length cv, rfl, ?_, HF.out.1.below hHeld, HF.out.2.trans (Turn.of_below (F := (· = R)) hHeld) (fun q hq => .inl hq)⟩
  rw [HY.out]
  exact ownsRow_lower hown HF.out.2.size
end
end Go.Proofs.YtocjmlncpjfnfaaDoor
