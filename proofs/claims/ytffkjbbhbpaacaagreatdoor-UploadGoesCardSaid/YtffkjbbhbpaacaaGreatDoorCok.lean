import Derived.Test.YtffkjbbhbpaacaaGreatDoorCod
import Derived.Test.YtffkjbbhbpaacaaGreatDoorIdx
import Derived.Test.YtffkjbbhbpaacaaGreatDoorCpy
/-
  code: a Reader's need, word.
  code: a Reader's word.
  code: a Reader's methods.
  code: a Reader's List, Bool.
-/
namespace Go.Proofs.YtffkjbbhbpaacaaGreatDoor
open Go.RowKit

section
variable {P : Program} {md : Region.Mode} {ops : Array Oper} {Q : Exit → Act → World → Prop} {S : World → Prop} {fuel : Nat} {listed : Array Bool} {a : Act} {w : World}
/-- a call that comes up alone, and falls -/
theorem held_fall (i : Nat) (f : FuncId) (xs : Array Operand) (ts : Array TypeId) (dst : Option Tmp) (args : Array Value) (R : Ending → World → Prop)
    (hi : ops[i]?.map (fun o => (o.op, o.dst, Region.wanted o (yielded ops a.tmps))) = some (.call { callee := .value (.func f), args := xs, argTypes := ts }, dst, true))
    (hr : Region.ready md ops listed = [i]) (hargs : xs.map a.eval = args) (hrun : (callFunc f args).run P w = .ok (.enter f args) w) (hc : Calls P f args w R)
    (h : ∀ e w', R e w' → ∃ ps, e = .panicked ps ∧ Q (.panic ps) a w') : wpAnyH P md ops Q S (fuel + 1) listed a w := by
  obtain ⟨oi, ho, he⟩ := Option.map_eq_some_iff.1 hi
  simp only [Prod.mk.injEq] at he
  refine wpAnyH_ready (rs := [i]) hr (by simp) ?_
  refine AllReadyH.cons ho (fun K hK => ?_) AllReadyH.nil
  rw [if_pos he.2.2]
  obtain ⟨op, od, oty, opos, oaf, ogd⟩ := oi
  obtain ⟨he1, he2, he3⟩ := he
  simp only at he1 he2
  subst he1 he2
  simp only [go_sem]
  simp only [Array.empty_append, Array.append_empty, hargs, hrun, Oper.upon_enter]
  refine hc.mono fun e w' hh => ?_
  obtain ⟨ps, rfl, hq⟩ := h e w' hh
  exact hq
end
/-- it falls, with a place: nothing that was there has turned -/
def FellAt (E : Nat → Addr) (w : World) (k : Nat) (z : Int) (e : Ending) (w' : World) : Prop :=
  ∃ bt, e = .panicked [entry (thrownV (atV bt))] ∧ w.heap.size ≤ bt ∧ AtAt bt z (errV (E k)) w' ∧ Below w.heap.size w w'
theorem FellAt.of {E : Nat → Addr} {w W : World} (k : Nat) (z : Int) (h : Below w.heap.size w W) : FellAt E w k z (.panicked [entry (thrownV (atV W.heap.size))]) (W.alloc (.cells #[.int .i64 z, errV (E k)] 101)) :=
  ⟨_, rfl, h.size, AtAt.new _ _ _, h.alloc h.size _⟩
theorem FellAt.before {E : Nat → Addr} {w W w' : World} {k : Nat} {z : Int} {e : Ending} (hb : Below w.heap.size w W) (h : FellAt E W k z e w') : FellAt E w k z e w' := by
  obtain ⟨bt, h1, h2, h3, h4⟩ := h
  exact ⟨bt, h1, Nat.le_trans hb.size h2, h3, hb.trans (h4.mono hb.size)⟩

section
variable {w : World} {R : Nat} {A : Option Addr} {xs : List Int} {p c : Nat} {E : Nat → Addr}
set_option maxRecDepth 100000 in
set_option maxHeartbeats 800000 in
theorem need_ok (h : RdS w R A xs p c) (hl : xs.length ≤ 100000) (n : Int) (hn : n ≤ (xs.length : Int) - p) : Calls Tryz.prog 68 #[.pointer (some ⟨R, 0, none⟩), .int .i64 n] w fun e w' => e = .returned (.tuple #[]) ∧ Below w.heap.size w w' := by
  have c0 := h.c0
  have c1 := h.c1
  have hle := h.le
  clear h
  go_enter Tryz.func68, Tryz.ntmps68
  go_wp2_with fail
  go_quiet (fail)
  go_wp2_with fail
  go_end0
  exact ⟨rfl, Below.drewNr _⟩
set_option maxRecDepth 100000 in
set_option maxHeartbeats 800000 in
theorem need_no (h : RdS w R A xs p c) (hE : ErrsAt E w) (hl : xs.length ≤ 100000) (n : Int) (hn : (xs.length : Int) - p < n) : Calls Tryz.prog 68 #[.pointer (some ⟨R, 0, none⟩), .int .i64 n] w (FellAt E w 2 p) := by
  have c0 := h.c0
  have c1 := h.c1
  have hle := h.le
  have hlt := h.lt
  have hk := hE.c 2 (by decide)
  clear h hE
  go_enter Tryz.func68, Tryz.ntmps68
  go_wp2_with fail
  go_quiet (fail)
  go_upto_region 1 with (fail)
  refine wp_world (fun V => Below w.heap.size w V) (Below.drewNr _) ?_
  intro U hU
  have hR1 := (hU.cell (p := ⟨R, 1, none⟩) hlt).trans c1
  have hEk : U.cell? ⟨4, 0, none⟩ = some (errV (E 2)) := (hU.cell (p := ⟨4, 0, none⟩) (cell_lt hk)).trans hk
  have hRl := cell_lt hR1
  have hEl := cell_lt hEk
  refine wp_region_held_drew (S := fun V => Below U.heap.size U V) (by kernel_rfl) (Below.drewNr (w := U) 1) (fun hHeld => ?_)
  refine held_move 0 (Go.Operand.tmp 0) (some 16) (.pointer (some ⟨R, 0, none⟩)) (by kernel_rfl) (by kernel_rfl) (by kernel_rfl) (by kernel_rfl) (by kernel_rfl) (fun _ _ _ d _ h => by cases d <;> exact h) hHeld ?_
  refine held_nil 1 (Go.Operand.tmp 16) (some 17) ⟨R, 0, none⟩ (by kernel_rfl) (by kernel_rfl) (by kernel_rfl) (by kernel_rfl) (by kernel_rfl) (fun _ _ _ d _ h => by cases d <;> exact h) hHeld ?_
  refine held_field 2 97 (Go.Operand.tmp 17) 1 (some 18) (.pointer (some ⟨R, 0, none⟩)) (.pointer (some ⟨R, 1, none⟩)) (by kernel_rfl) (by kernel_rfl) (fun w => by kernel_rfl) (by kernel_rfl) (by kernel_rfl) (by kernel_rfl) (fun _ _ _ d _ h => by cases d <;> exact h) hHeld ?_
  refine held_cell 3 3 (Go.Operand.tmp 18) (some 19) (.pointer (some ⟨R, 1, none⟩)) (.int .i64 (p : Int)) (by kernel_rfl) (by kernel_rfl) (fun V hV => load_i64 R 1 V _ ((hV.cell (p := ⟨R, 1, none⟩) hRl).trans hR1)) (by kernel_rfl) (by kernel_rfl) (by kernel_rfl) (fun _ _ _ d _ h => by cases d <;> exact h) hHeld ?_
  refine held_cell 4 46 (Go.Operand.global 4) (some 20) (.pointer (some ⟨4, 0, none⟩)) (errV (E 2)) (by kernel_rfl) (by kernel_rfl) (fun V hV => load_err 4 0 V _ ((hV.cell (p := ⟨4, 0, none⟩) hEl).trans hEk)) (by kernel_rfl) (by kernel_rfl) (by kernel_rfl) (fun _ _ _ d _ h => by cases d <;> exact h) hHeld ?_
  refine held_fall 5 49 #[Go.Operand.tmp 19, Go.Operand.tmp 20] #[3, 46] (some 21) #[.int .i64 (p : Int), errV (E 2)] _ (by kernel_rfl) (by kernel_rfl) (by kernel_rfl) (by kernel_rfl) (fail_any (p : Int) (E 2) _) ?_
  rintro e V ⟨rfl, rfl⟩
  refine ⟨_, rfl, ?_⟩
  exact ⟨rfl, FellAt.of 2 p (hU.trans (hHeld.mono hU.size))⟩
end
def Byts (xs : List Int) : Prop := ∀ x ∈ xs, 0 ≤ x ∧ x < 256
def byteI (xs : List Int) (p : Nat) : Int := xs.getD p 0
theorem Byts.at_ {xs : List Int} (h : Byts xs) (p : Nat) : 0 ≤ byteI xs p ∧ byteI xs p < 256 := by
  unfold byteI
  by_cases hp : p < xs.length
  · have := h _ (List.getElem_mem hp)
    simpa [List.getD, hp] using this
  · simp [List.getD, hp]
theorem byteI_get {xs : List Int} {p : Nat} (hp : p < xs.length) : xs[p]? = some (byteI xs p) := by
  unfold byteI
  simp [List.getD, hp]
def wordI (xs : List Int) (p : Nat) : Int := byteI xs p + byteI xs (p + 1) * 256 + byteI xs (p + 2) * 65536 + byteI xs (p + 3) * 16777216
theorem or_low (a b : Nat) (k : Nat) (ha : a < 2 ^ k) : a ||| b * 2 ^ k = a + b * 2 ^ k := by
  rw [Nat.or_comm, ← Nat.shiftLeft_eq, ← Nat.shiftLeft_add_eq_or_of_lt ha b]; omega
theorem or4 (a b c d : Int) (ha : 0 ≤ a ∧ a < 256) (hb : 0 ≤ b ∧ b < 256) (hc : 0 ≤ c ∧ c < 256) (hd : 0 ≤ d ∧ d < 256) :
    bits .or .u32 (bits .or .u32 (bits .or .u32 a (b * 256)) (c * 65536)) (d * 16777216) = a + b * 256 + c * 65536 + d * 16777216 := by
  obtain ⟨a, rfl⟩ := Int.eq_ofNat_of_zero_le ha.1
  obtain ⟨b, rfl⟩ := Int.eq_ofNat_of_zero_le hb.1
  obtain ⟨c, rfl⟩ := Int.eq_ofNat_of_zero_le hc.1
  obtain ⟨d, rfl⟩ := Int.eq_ofNat_of_zero_le hd.1
  have h1 : bits .or .u32 (a : Int) ((b : Int) * 256) = ((a + b * 256 : Nat) : Int) := by
    rw [show ((b : Int) * 256) = ((b * 256 : Nat) : Int) by simp, u32_or_nat _ _ (by omega) (by omega), or_low a b 8 (by omega)]
  have h2 : bits .or .u32 ((a + b * 256 : Nat) : Int) ((c : Int) * 65536) = ((a + b * 256 + c * 65536 : Nat) : Int) := by
    rw [show ((c : Int) * 65536) = ((c * 65536 : Nat) : Int) by simp, u32_or_nat _ _ (by omega) (by omega), or_low _ c 16 (by omega)]
  have h3 : bits .or .u32 ((a + b * 256 + c * 65536 : Nat) : Int) ((d : Int) * 16777216) = ((a + b * 256 + c * 65536 + d * 16777216 : Nat) : Int) := by
    rw [show ((d : Int) * 16777216) = ((d * 16777216 : Nat) : Int) by simp, u32_or_nat _ _ (by omega) (by omega), or_low _ d 24 (by omega)]
  rw [h1, h2, h3]
  simp
theorem sliceAt_l0 {P : Program} {t e : TypeId} (hu : P.underlying t = some (.slice e)) (hs : (P.info? e).map (·.size) = some 1) (A : Option Addr) (n cap l : Nat) (h1 : l ≤ n) (w : World) :
    (Instr.sliceAt t (.slice A n cap) (some (.int .i64 (l : Int))) none none).run P w = .ok (.slice (cutA A l cap) (n - l) (cap - l)) w := by
  have e2 : P.elem t = e := by simp [Program.elem, hu]
  rw [run_sliceAt_slice (h := by rw [e2]; exact hu)]
  exact slice_sl_l hu hs A n cap l _ rfl h1 w
theorem sliceAt_lh0 {P : Program} {t e : TypeId} (hu : P.underlying t = some (.slice e)) (hs : (P.info? e).map (·.size) = some 1) (b o n cap l m : Nat) (hm : l + m ≤ n) (hc : n ≤ cap) (h0 : l < n) (w : World) :
    (Instr.sliceAt t (.slice (some ⟨b, o, none⟩) n cap) (some (.int .i64 (l : Int))) (some (.int .i64 ((l : Int) + m))) none).run P w = .ok (.slice (some ⟨b, o + l, none⟩) m (cap - l)) w := by
  have e2 : P.elem t = e := by simp [Program.elem, hu]
  rw [run_sliceAt_slice (h := by rw [e2]; exact hu)]
  exact slice_sl_lh hu hs b o n cap l m hm hc h0 w
section
variable {w : World} {R : Nat} {A : Option Addr} {xs : List Int} {p c : Nat} {E : Nat → Addr}
theorem RdS.cells {w : World} {R : Nat} {A : Option Addr} {xs : List Int} {p c : Nat} (h : RdS w R A xs p c) (h0 : 0 < xs.length) : ∃ b o, A = some ⟨b, o, none⟩ ∧ b < w.heap.size ∧ b ≠ R ∧ ∀ j, j < xs.length → w.cell? ⟨b, o + j, none⟩ = some (.int .u8 (byteI xs j)) := by
  obtain ⟨b, o, rfl, hlt, hc⟩ := h.rd (by simpa using h0)
  exact ⟨b, o, rfl, hlt, h.ap h0 _ rfl, fun j hj => hc j _ (ints_get .u8 xs j _ (byteI_get hj))⟩
set_option maxRecDepth 100000 in
set_option maxHeartbeats 1600000 in
theorem word_ok (h : RdS w R A xs p c) (hx : Byts xs) (hl : xs.length ≤ 100000) (hp : p + 4 ≤ xs.length) : Calls Tryz.prog 50 #[.pointer (some ⟨R, 0, none⟩)] w fun e w' => e = .returned (.int .u32 (wordI xs p)) ∧ Below w.heap.size w w' := by
  have H1 := need_ok h hl 4 (by omega)
  obtain ⟨b, o, rfl, hlt, hbR, hc⟩ := h.cells (by omega)
  go_enter Tryz.func50, Tryz.ntmps50
  go_wp2_with fail
  refine H1.mono ?_
  rintro e W1 ⟨rfl, hb⟩
  have h1 := h.below hb
  have hlt1 : b < W1.heap.size := Nat.lt_of_lt_of_le hlt hb.size
  have c0 := h1.c0
  have c1 := h1.c1
  have k0 := (hb.cell (p := ⟨b, o + p, none⟩) hlt).trans (hc p (by omega))
  have k1 := (hb.cell (p := ⟨b, o + (p + 1), none⟩) hlt).trans (hc (p + 1) (by omega))
  have k2 := (hb.cell (p := ⟨b, o + (p + 2), none⟩) hlt).trans (hc (p + 2) (by omega))
  have k3 := (hb.cell (p := ⟨b, o + (p + 3), none⟩) hlt).trans (hc (p + 3) (by omega))
  rw [← Nat.add_assoc] at k1 k2 k3
  have r0 := hx.at_ p
  have r1 := hx.at_ (p + 1)
  have r2 := hx.at_ (p + 2)
  have r3 := hx.at_ (p + 3)
  have HV : Hid (wordI xs p = byteI xs p + byteI xs (p + 1) * 256 + byteI xs (p + 2) * 65536 + byteI xs (p + 3) * 16777216) := Lib.hid rfl
  generalize byteI xs p = x0 at *
  generalize byteI xs (p + 1) = x1 at *
  generalize byteI xs (p + 2) = x2 at *
  generalize byteI xs (p + 3) = x3 at *
  have hor := or4 x0 x1 x2 x3 r0 r1 r2 r3
  have m1 : x1 * 256 % 4294967296 = x1 * 256 := by omega
  have m2 : x2 * 65536 % 4294967296 = x2 * 65536 := by omega
  have m3 : x3 * 16777216 % 4294967296 = x3 * 16777216 := by omega
  have hcl := h1.cl
  have hsl : ∀ w, (Instr.sliceAt 25 (.slice (some ⟨b, o, none⟩) xs.length c) (some (.int .i64 (p : Int))) none none).run Tryz.prog w = .ok (.slice (some ⟨b, o + p, none⟩) (xs.length - p) (c - p)) w := fun w => by
    have := sliceAt_l0 (P := Tryz.prog) Tryz.underlying25 (by kernel_rfl) (some ⟨b, o, none⟩) xs.length c p (by omega) w
    rwa [cutA_some (show p < xs.length by omega) h1.cl] at this
  have HB := Lib.hid hb
  clear h h1 hb hc H1 hcl
  go_wp2_with fail
  go_quiet (fail)
  go_wp2_with fail
  go_quiet (fail)
  go_wp2_with fail
  go_ret
  exact ⟨by rw [HV.out]; rfl, HB.out.trans (((Below.drewNr _).trans (Below.drewNr _)).mono HB.out.size)⟩
end
section
variable {w : World} {R : Nat} {A : Option Addr} {xs : List Int} {p c : Nat} {E : Nat → Addr}
set_option maxRecDepth 100000 in
theorem rat_any (h : RdS w R A xs p c) : Calls Tryz.prog 47 #[.pointer (some ⟨R, 0, none⟩)] w fun e w' => e = .returned (.int .i64 (p : Int)) ∧ w' = w := by
  have c1 := h.c1
  clear h
  go_enter Tryz.func47, Tryz.ntmps47
  go_wp2_with fail
  go_ret
  exact ⟨rfl, rfl⟩
set_option maxRecDepth 100000 in
set_option maxHeartbeats 1600000 in
theorem word_no (h : RdS w R A xs p c) (hE : ErrsAt E w) (hl : xs.length ≤ 100000) (hp : xs.length < p + 4) : Calls Tryz.prog 50 #[.pointer (some ⟨R, 0, none⟩)] w (FellAt E w 2 p) := by
  have H1 := need_no h hE hl 4 (by omega)
  clear h hE
  go_enter Tryz.func50, Tryz.ntmps50
  go_wp2_with fail
  refine H1.mono ?_
  rintro e W1 ⟨bt, rfl, hf⟩
  have hf := Lib.hid hf
  go_wp2_with fail
  exact ⟨rfl, bt, rfl, hf.out⟩
set_option maxRecDepth 100000 in
set_option maxHeartbeats 1600000 in
theorem ru8_no (h : RdS w R A xs p c) (hE : ErrsAt E w) (hl : xs.length ≤ 100000) (hp : xs.length ≤ p) : Calls Tryz.prog 48 #[.pointer (some ⟨R, 0, none⟩)] w (FellAt E w 2 p) := by
  have H1 := need_no h hE hl 1 (by omega)
  clear h hE
  go_enter Tryz.func48, Tryz.ntmps48
  go_wp2_with fail
  refine H1.mono ?_
  rintro e W1 ⟨bt, rfl, hf⟩
  have hf := Lib.hid hf
  go_wp2_with fail
  exact ⟨rfl, bt, rfl, hf.out⟩
set_option maxRecDepth 100000 in
set_option maxHeartbeats 1600000 in
theorem ru32_no (h : RdS w R A xs p c) (hE : ErrsAt E w) (hl : xs.length ≤ 100000) (hp : xs.length < p + 4) : Calls Tryz.prog 25 #[.pointer (some ⟨R, 0, none⟩)] w (FellAt E w 2 p) := by
  have H1 := word_no h hE hl hp
  clear h hE
  go_enter Tryz.func25, Tryz.ntmps25
  go_wp2_with fail
  refine H1.mono ?_
  rintro e W1 ⟨bt, rfl, hf⟩
  have hf := Lib.hid hf
  go_wp2_with fail
  exact ⟨rfl, bt, rfl, hf.out⟩
set_option maxRecDepth 100000 in
set_option maxHeartbeats 1600000 in
theorem rraw_no (h : RdS w R A xs p c) (hE : ErrsAt E w) (hl : xs.length ≤ 100000) (n : Int) (h0 : 0 ≤ n) (hn : (xs.length : Int) - p < n) : Calls Tryz.prog 51 #[.pointer (some ⟨R, 0, none⟩), .int .i64 n] w (FellAt E w 2 p) := by
  have H1 := need_no h hE hl n hn
  clear h hE
  go_enter Tryz.func51, Tryz.ntmps51
  go_wp2_with fail
  refine H1.mono ?_
  rintro e W1 ⟨bt, rfl, hf⟩
  have hf := Lib.hid hf
  go_wp2_with fail
  exact ⟨rfl, bt, rfl, hf.out⟩
set_option maxRecDepth 100000 in
set_option maxHeartbeats 1600000 in
theorem rlist_no4 (h : RdS w R A xs p c) (hE : ErrsAt E w) (hl : xs.length ≤ 100000) (n : Int) (hp : xs.length < p + 4) : Calls Tryz.prog 26 #[.pointer (some ⟨R, 0, none⟩), .int .i64 n] w (FellAt E w 2 p) := by
  have H1 := word_no h hE hl hp
  clear h hE
  go_enter Tryz.func26, Tryz.ntmps26
  go_wp2_with fail
  refine H1.mono ?_
  rintro e W1 ⟨bt, rfl, hf⟩
  have hf := Lib.hid hf
  go_wp2_with fail
  exact ⟨rfl, bt, rfl, hf.out⟩
set_option maxRecDepth 100000 in
set_option maxHeartbeats 1600000 in
theorem rraw_neg (h : RdS w R A xs p c) (hE : ErrsAt E w) (n : Int) (h0 : n < 0) : Calls Tryz.prog 51 #[.pointer (some ⟨R, 0, none⟩), .int .i64 n] w (FellAt E w 1 p) := by
  have c1 := h.c1
  have hlt := h.lt
  have hk := hE.c 1 (by decide)
  clear h hE
  go_enter Tryz.func51, Tryz.ntmps51
  go_upto_region 2 with (fail)
  refine wp_world (fun V => Below w.heap.size w V) (Below.refl _ _) ?_
  intro U hU
  have hR1 := (hU.cell (p := ⟨R, 1, none⟩) hlt).trans c1
  have hEk : U.cell? ⟨3, 0, none⟩ = some (errV (E 1)) := (hU.cell (p := ⟨3, 0, none⟩) (cell_lt hk)).trans hk
  have hRl := cell_lt hR1
  have hEl := cell_lt hEk
  refine wp_region_held_drew (S := fun V => Below U.heap.size U V) (by kernel_rfl) (Below.drewNr (w := U) 1) (fun hHeld => ?_)
  refine held_move 0 (Go.Operand.tmp 0) (some 7) (.pointer (some ⟨R, 0, none⟩)) (by kernel_rfl) (by kernel_rfl) (by kernel_rfl) (by kernel_rfl) (by kernel_rfl) (fun _ _ _ d _ h => by cases d <;> exact h) hHeld ?_
  refine held_nil 1 (Go.Operand.tmp 7) (some 8) ⟨R, 0, none⟩ (by kernel_rfl) (by kernel_rfl) (by kernel_rfl) (by kernel_rfl) (by kernel_rfl) (fun _ _ _ d _ h => by cases d <;> exact h) hHeld ?_
  refine held_field 2 97 (Go.Operand.tmp 8) 1 (some 9) (.pointer (some ⟨R, 0, none⟩)) (.pointer (some ⟨R, 1, none⟩)) (by kernel_rfl) (by kernel_rfl) (fun w => by kernel_rfl) (by kernel_rfl) (by kernel_rfl) (by kernel_rfl) (fun _ _ _ d _ h => by cases d <;> exact h) hHeld ?_
  refine held_cell 3 3 (Go.Operand.tmp 9) (some 10) (.pointer (some ⟨R, 1, none⟩)) (.int .i64 (p : Int)) (by kernel_rfl) (by kernel_rfl) (fun V hV => load_i64 R 1 V _ ((hV.cell (p := ⟨R, 1, none⟩) hRl).trans hR1)) (by kernel_rfl) (by kernel_rfl) (by kernel_rfl) (fun _ _ _ d _ h => by cases d <;> exact h) hHeld ?_
  refine held_cell 4 46 (Go.Operand.global 3) (some 11) (.pointer (some ⟨3, 0, none⟩)) (errV (E 1)) (by kernel_rfl) (by kernel_rfl) (fun V hV => load_err 3 0 V _ ((hV.cell (p := ⟨3, 0, none⟩) hEl).trans hEk)) (by kernel_rfl) (by kernel_rfl) (by kernel_rfl) (fun _ _ _ d _ h => by cases d <;> exact h) hHeld ?_
  refine held_fall 5 49 #[Go.Operand.tmp 10, Go.Operand.tmp 11] #[3, 46] (some 12) #[.int .i64 (p : Int), errV (E 1)] _ (by kernel_rfl) (by kernel_rfl) (by kernel_rfl) (by kernel_rfl) (fail_any (p : Int) (E 1) _) ?_
  rintro e V ⟨rfl, rfl⟩
  refine ⟨_, rfl, ?_⟩
  exact ⟨rfl, FellAt.of 1 p (hU.trans (hHeld.mono hU.size))⟩
set_option maxRecDepth 100000 in
set_option maxHeartbeats 1600000 in
theorem ru8_ok (h : RdS w R A xs p c) (hx : Byts xs) (hl : xs.length ≤ 100000) (hp : p < xs.length) : Calls Tryz.prog 48 #[.pointer (some ⟨R, 0, none⟩)] w fun e w' => e = .returned (.int .i64 (byteI xs p)) ∧ RdS w' R A xs (p + 1) c ∧ Turn (· = R) w w' := by
  have H1 := need_ok h hl 1 (by omega)
  go_enter Tryz.func48, Tryz.ntmps48
  go_wp2_with fail
  refine H1.mono ?_
  rintro e W1 ⟨rfl, hb⟩
  have h1 := h.below hb
  have c0 := h1.c0
  have c1 := h1.c1
  have f1 := h1.f
  clear H1 h
  go_upto_region 3 with (fail)
  obtain ⟨hmv, hmt⟩ := h1.move (p + 1) (by omega)
  rw [show ((p + 1 : Nat) : Int) = (p : Int) + 1 by simp] at hmv hmt
  refine wp_world (fun V => RdS V R A xs (p + 1) c ∧ Turn (· = R) w V) ⟨hmv, (Turn.of_below hb).trans hmt (fun q hq => .inl hq)⟩ ?_
  rintro U ⟨hU, hT⟩
  obtain ⟨b, o, rfl, _, _, hc⟩ := hU.cells (by omega)
  have k0 := hc p hp
  have u0 := hU.c0
  have u1 : U.cell? ⟨R, 1, none⟩ = some (.int .i64 ((p : Int) + 1)) := hU.c1
  have HF := Lib.hid (And.intro hU hT)
  have r0 := hx.at_ p
  obtain ⟨x0, hx0⟩ : ∃ x0, byteI xs p = x0 := ⟨_, rfl⟩
  rw [hx0] at k0 r0
  have HV := Lib.hid hx0
  clear hx0 hU hT hmv hmt h1 hb c0 c1 f1 hc
  have hw1 : (p : Int) + 1 - 1 = p := by omega
  go_wp2_with fail
  go_quiet (fail)
  go_wp2_with fail
  go_ret
  exact ⟨by rw [HV.out]; rfl, HF.out.1.below (Below.drewNr _), HF.out.2.trans (Turn.of_below (F := (· = R)) (Below.drewNr _)) (fun q hq => .inl hq)⟩
set_option maxRecDepth 100000 in
set_option maxHeartbeats 1600000 in
theorem ru32_ok (h : RdS w R A xs p c) (hx : Byts xs) (hl : xs.length ≤ 100000) (hp : p + 4 ≤ xs.length) : Calls Tryz.prog 25 #[.pointer (some ⟨R, 0, none⟩)] w fun e w' => e = .returned (.int .u32 (wordI xs p)) ∧ RdS w' R A xs (p + 4) c ∧ Turn (· = R) w w' := by
  have H1 := word_ok h hx hl hp
  generalize wordI xs p = x at *
  go_enter Tryz.func25, Tryz.ntmps25
  go_wp2_with fail
  refine H1.mono ?_
  rintro e W1 ⟨rfl, hb⟩
  have h1 := h.below hb
  have c0 := h1.c0
  have c1 := h1.c1
  have f1 := h1.f
  clear H1 h
  go_upto_region 3 with (fail)
  obtain ⟨hmv, hmt⟩ := h1.move (p + 4) (by omega)
  rw [show ((p + 4 : Nat) : Int) = (p : Int) + 4 by simp] at hmv hmt
  refine wp_world (fun V => RdS V R A xs (p + 4) c ∧ Turn (· = R) w V) ⟨hmv, (Turn.of_below hb).trans hmt (fun q hq => .inl hq)⟩ ?_
  rintro U ⟨hU, hT⟩
  have HF := Lib.hid (And.intro hU hT)
  clear hU hT hmv hmt h1 hb c0 c1 f1
  go_wp2_with fail
  go_ret
  exact ⟨rfl, HF.out⟩
theorem sliceAt_lhA {P : Program} {t e : TypeId} (hu : P.underlying t = some (.slice e)) (hs : (P.info? e).map (·.size) = some 1) (A : Option Addr) (n cap l m : Nat) (hm : l + m ≤ cap) (w : World) :
    (Instr.sliceAt t (.slice A n cap) (some (.int .i64 (l : Int))) (some (.int .i64 ((l : Int) + m))) none).run P w = .ok (.slice (cutA A l cap) m (cap - l)) w := by
  have e2 : P.elem t = e := by simp [Program.elem, hu]
  rw [run_sliceAt_slice (h := by rw [e2]; exact hu), run_slice_lh (P := P) w t A n cap (by rw [e2]; exact hu) .i64 .i64 (l : Int) ((l : Int) + m) (by omega) (by omega) (by omega), e2]
  obtain ⟨i, hi, hz⟩ := Option.map_eq_some_iff.1 hs
  have h1 : ((l : Int) + m).toNat = l + m := by omega
  have h3 : l + m - l = m := by omega
  simp [sizeOf, typeInfo, hi, hz, Result.andThen, sliced, h1, h3, cutA]
theorem SlRead.take {w : World} {A : Option Addr} {k : IntKind} {xs : List Int} (h : SlRead w A (ints k xs)) (n : Nat) : SlRead w A (ints k (xs.take n)) := by
  intro hn
  have hn2 : 0 < xs.length := by simp at hn; omega
  obtain ⟨b, o, rfl, hlt, hc⟩ := h (by simpa using hn2)
  refine ⟨b, o, rfl, hlt, fun j u hu => hc j u ?_⟩
  have hj := (List.getElem?_eq_some_iff.1 hu).1
  rw [← hu]
  unfold ints at hj ⊢
  rw [List.map_take, List.getElem?_take, if_pos (by simp at hj; omega)]
/-- a cut of what is read -/
theorem cut_read {w : World} {A : Option Addr} {xs : List Int} {c : Nat} (rd : SlRead w A (ints .u8 xs)) (cl : xs.length ≤ c) (p n : Nat) (hp : p + n ≤ xs.length) :
    (∀ w, (Instr.sliceAt 25 (.slice A xs.length c) (some (.int .i64 (p : Int))) (some (.int .i64 ((p : Int) + n))) none).run Tryz.prog w = .ok (.slice (cutA A p c) n (c - p)) w) ∧ SlRead w (cutA A p c) (ints .u8 ((xs.drop p).take n)) := by
  refine ⟨fun w => sliceAt_lhA (P := Tryz.prog) Tryz.underlying25 (by kernel_rfl) A xs.length c p n (by omega) w, ?_⟩
  refine (rd.cut p (cutA A p c) (fun hpl b o e => ?_)).take n
  subst e
  exact cutA_some hpl cl
set_option maxRecDepth 100000 in
set_option maxHeartbeats 1600000 in
theorem rraw_ok (h : RdS w R A xs p c) (hl : xs.length ≤ 100000) (n : Nat) (hp : p + n ≤ xs.length) : Calls Tryz.prog 51 #[.pointer (some ⟨R, 0, none⟩), .int .i64 (n : Int)] w fun e w' => ∃ v, e = .returned v ∧ w'.ownsRow w.heap.size 5 1 v n (ints .u8 ((xs.drop p).take n)) ∧ RdS w' R A xs (p + n) c ∧ Turn (· = R) w w' := by
  have H1 := need_ok h hl n (by omega)
  go_enter Tryz.func51, Tryz.ntmps51
  go_wp2_with fail
  refine H1.mono ?_
  rintro e W1 ⟨rfl, hb⟩
  have h1 := h.below hb
  have c0 := h1.c0
  have c1 := h1.c1
  have f1 := h1.f
  clear H1 h
  go_upto_region 5 with (fail)
  obtain ⟨hmv, hmt⟩ := h1.move (p + n) (by omega)
  rw [show ((p + n : Nat) : Int) = (p : Int) + n from Int.natCast_add p n] at hmv hmt
  refine wp_world (fun V => RdS V R A xs (p + n) c ∧ Turn (· = R) w V) ⟨hmv, (Turn.of_below hb).trans hmt (fun q hq => .inl hq)⟩ ?_
  rintro U ⟨hU, hT⟩
  obtain ⟨hsl, hys⟩ := cut_read hU.rd hU.cl p n hp
  generalize cutA A p c = A2 at *
  generalize c - p = c2 at *
  have hyl : ((xs.drop p).take n).length ≤ 100000000 := by simp; omega
  have hyn : ((xs.drop p).take n).length = n := by simp; omega
  obtain ⟨ys, hy0⟩ : ∃ ys, (xs.drop p).take n = ys := ⟨_, rfl⟩
  rw [hy0] at hyl hyn hys
  have HY := Lib.hid hy0
  clear hy0
  have u0 := hU.c0
  have u1 : U.cell? ⟨R, 1, none⟩ = some (.int .i64 ((p : Int) + n)) := hU.c1
  have hRl := hU.lt
  have hle := hU.le
  have HF := Lib.hid (And.intro hU hT)
  clear hU hT hmv hmt h1 hb c0 c1 f1
  subst hyn
  refine wp_region_noPanic ?_
  refine wp_region_held_drew (S := fun V => Below U.heap.size U V) (by kernel_rfl) (Below.drewNr (w := U) 1) (fun hHeld => ?_)
  refine held_move 0 (Go.Operand.tmp 0) (some 24) (.pointer (some ⟨R, 0, none⟩)) (by kernel_rfl) (by kernel_rfl) (by kernel_rfl) (by kernel_rfl) (by kernel_rfl) (fun _ _ _ _ _ h => h) hHeld ?_
  refine held_nil 1 (Go.Operand.tmp 24) (some 25) ⟨R, 0, none⟩ (by kernel_rfl) (by kernel_rfl) (by kernel_rfl) (by kernel_rfl) (by kernel_rfl) (fun _ _ _ _ _ h => h) hHeld ?_
  refine held_field 2 97 (Go.Operand.tmp 25) 0 (some 26) (.pointer (some ⟨R, 0, none⟩)) (.pointer (some ⟨R, 0, none⟩)) (by kernel_rfl) (by kernel_rfl) (fun w => by kernel_rfl) (by kernel_rfl) (by kernel_rfl) (by kernel_rfl) (fun _ _ _ _ _ h => h) hHeld ?_
  refine held_cell 3 25 (Go.Operand.tmp 26) (some 27) (.pointer (some ⟨R, 0, none⟩)) (.slice A xs.length c) (by kernel_rfl) (by kernel_rfl) (fun V hV => load_slice R 0 V 25 (fun w => by kernel_rfl) _ ((hV.cell (p := ⟨R, 0, none⟩) hRl).trans u0)) (by kernel_rfl) (by kernel_rfl) (by kernel_rfl) (fun _ _ _ _ _ h => h) hHeld ?_
  refine held_move 4 (Go.Operand.tmp 0) (some 28) (.pointer (some ⟨R, 0, none⟩)) (by kernel_rfl) (by kernel_rfl) (by kernel_rfl) (by kernel_rfl) (by kernel_rfl) (fun _ _ _ _ _ h => h) hHeld ?_
  refine held_nil 5 (Go.Operand.tmp 28) (some 29) ⟨R, 0, none⟩ (by kernel_rfl) (by kernel_rfl) (by kernel_rfl) (by kernel_rfl) (by kernel_rfl) (fun _ _ _ _ _ h => h) hHeld ?_
  refine held_field 6 97 (Go.Operand.tmp 29) 1 (some 30) (.pointer (some ⟨R, 0, none⟩)) (.pointer (some ⟨R, 1, none⟩)) (by kernel_rfl) (by kernel_rfl) (fun w => by kernel_rfl) (by kernel_rfl) (by kernel_rfl) (by kernel_rfl) (fun _ _ _ _ _ h => h) hHeld ?_
  refine held_cell 7 3 (Go.Operand.tmp 30) (some 31) (.pointer (some ⟨R, 1, none⟩)) (.int .i64 ((p : Int) + ys.length)) (by kernel_rfl) (by kernel_rfl) (fun V hV => load_i64 R 1 V _ ((hV.cell (p := ⟨R, 1, none⟩) hRl).trans u1)) (by kernel_rfl) (by kernel_rfl) (by kernel_rfl) (fun _ _ _ _ _ h => h) hHeld ?_
  refine held_move 8 (Go.Operand.tmp 1) (some 32) (.int .i64 (ys.length : Int)) (by kernel_rfl) (by kernel_rfl) (by kernel_rfl) (by kernel_rfl) (by kernel_rfl) (fun _ _ _ _ _ h => h) hHeld ?_
  refine held_bin 9 Go.BinOp.sub 3 (Go.Operand.tmp 31) (Go.Operand.tmp 32) 3 (some 33) (.int .i64 ((p : Int) + ys.length)) (.int .i64 (ys.length : Int)) (.int .i64 (p : Int)) (by kernel_rfl) (by kernel_rfl) (fun w => sub_int _ _ _ w _ _ _ (by omega) (by omega) (by omega)) (by kernel_rfl) (by kernel_rfl) (by kernel_rfl) (fun _ _ _ _ _ h => h) hHeld ?_
  refine held_move 10 (Go.Operand.tmp 0) (some 34) (.pointer (some ⟨R, 0, none⟩)) (by kernel_rfl) (by kernel_rfl) (by kernel_rfl) (by kernel_rfl) (by kernel_rfl) (fun _ _ _ _ _ h => h) hHeld ?_
  refine held_nil 11 (Go.Operand.tmp 34) (some 35) ⟨R, 0, none⟩ (by kernel_rfl) (by kernel_rfl) (by kernel_rfl) (by kernel_rfl) (by kernel_rfl) (fun _ _ _ _ _ h => h) hHeld ?_
  refine held_field 12 97 (Go.Operand.tmp 35) 1 (some 36) (.pointer (some ⟨R, 0, none⟩)) (.pointer (some ⟨R, 1, none⟩)) (by kernel_rfl) (by kernel_rfl) (fun w => by kernel_rfl) (by kernel_rfl) (by kernel_rfl) (by kernel_rfl) (fun _ _ _ _ _ h => h) hHeld ?_
  refine held_cell 13 3 (Go.Operand.tmp 36) (some 37) (.pointer (some ⟨R, 1, none⟩)) (.int .i64 ((p : Int) + ys.length)) (by kernel_rfl) (by kernel_rfl) (fun V hV => load_i64 R 1 V _ ((hV.cell (p := ⟨R, 1, none⟩) hRl).trans u1)) (by kernel_rfl) (by kernel_rfl) (by kernel_rfl) (fun _ _ _ _ _ h => h) hHeld ?_
  refine held_slice 14 25 (Go.Operand.tmp 27) (some (Go.Operand.tmp 33)) (some (Go.Operand.tmp 37)) none (some 38) (.slice A xs.length c) (some (.int .i64 (p : Int))) (some (.int .i64 ((p : Int) + ys.length))) none (.slice A2 ys.length c2) (by kernel_rfl) (by kernel_rfl) (hsl) (by kernel_rfl) (by kernel_rfl) (by kernel_rfl) (fun _ _ _ _ _ h => h) hHeld ?_
  refine held_call 15 44 #[Go.Operand.tmp 38] #[25] (some 39) #[.slice A2 ys.length c2] _ (by kernel_rfl) (by kernel_rfl) (by kernel_rfl) (by kernel_rfl) (cloneI_any A2 ys c2 _ (hys.below hHeld) hyl) ?_
  rintro e Y1 ⟨v1, rfl, hown, hbY⟩
  obtain ⟨Av, cv, rfl, _⟩ := ownsRow_form hown
  refine ⟨_, rfl, hHeld.trans (hbY.mono hHeld.size), fun hHeld => ?_⟩
  refine held_assign 16 (Go.Operand.tmp 39) (some 4) (.slice Av ys.length cv) (by kernel_rfl) (by kernel_rfl) (by kernel_rfl) (by kernel_rfl) (by kernel_rfl) (fun _ _ _ _ _ h => h) hHeld ?_
  refine wpAnyH_done (by kernel_rfl) ?_ _
  refine NoPanic.normal ?_
  try simp only [Act.put, List.setIfInBounds_toArray, List.set_cons_zero, List.set_cons_succ]
  try simp only [put_list, List.set_cons_zero, List.set_cons_succ]
  go_wp2_with fail
  go_ret
  refine ⟨.slice Av ys.length cv, rfl, ?_, HF.out.1.below hHeld, HF.out.2.trans (Turn.of_below (F := (· = R)) hHeld) (fun q hq => .inl hq)⟩
  rw [HY.out]
  exact ownsRow_lower hown HF.out.2.size
end
theorem Byts.word {xs : List Int} (h : Byts xs) (p : Nat) : 0 ≤ wordI xs p ∧ wordI xs p < 4294967296 := by
  have h0 := h.at_ p
  have h1 := h.at_ (p + 1)
  have h2 := h.at_ (p + 2)
  have h3 := h.at_ (p + 3)
  unfold wordI
  omega
section
variable {w : World} {R : Nat} {A : Option Addr} {xs : List Int} {p c : Nat} {E : Nat → Addr}
set_option maxRecDepth 100000 in
set_option maxHeartbeats 1600000 in
theorem rlist_big (h : RdS w R A xs p c) (hE : ErrsAt E w) (hx : Byts xs) (hl : xs.length ≤ 100000) (hp : p + 4 ≤ xs.length) (m : Int) (hm : m < wordI xs p) : Calls Tryz.prog 26 #[.pointer (some ⟨R, 0, none⟩), .int .i64 m] w (FellAt E w 1 p) := by
  have hwd := hx.word p
  obtain ⟨x, hx0⟩ : ∃ x, wordI xs p = x := ⟨_, rfl⟩
  have H1 := word_ok h hx hl hp
  rw [hx0] at H1 hwd hm
  clear hx0
  go_enter Tryz.func26, Tryz.ntmps26
  go_wp2_with fail
  refine H1.mono ?_
  rintro e W1 ⟨rfl, hb⟩
  have h1 := h.below hb
  have hk := (hE.below hb).c 1 (by decide)
  have hlt := h1.lt
  have c1 := h1.c1
  have c0 := h1.c0
  have HB := Lib.hid hb
  clear H1 h hE hb
  go_upto_region 3 with (fail)
  refine wp_world (fun V => Below W1.heap.size W1 V) (Below.refl _ _) ?_
  intro U hU
  have hR1 := (hU.cell (p := ⟨R, 1, none⟩) hlt).trans c1
  have hEk : U.cell? ⟨3, 0, none⟩ = some (errV (E 1)) := (hU.cell (p := ⟨3, 0, none⟩) (cell_lt hk)).trans hk
  have hRl := cell_lt hR1
  have hEl := cell_lt hEk
  refine wp_region_held_drew (S := fun V => Below U.heap.size U V) (by kernel_rfl) (Below.drewNr (w := U) 1) (fun hHeld => ?_)
  refine held_move 0 (Go.Operand.tmp 0) (some 12) (.pointer (some ⟨R, 0, none⟩)) (by kernel_rfl) (by kernel_rfl) (by kernel_rfl) (by kernel_rfl) (by kernel_rfl) (fun _ _ _ d _ h => by cases d <;> exact h) hHeld ?_
  refine held_nil 1 (Go.Operand.tmp 12) (some 13) ⟨R, 0, none⟩ (by kernel_rfl) (by kernel_rfl) (by kernel_rfl) (by kernel_rfl) (by kernel_rfl) (fun _ _ _ d _ h => by cases d <;> exact h) hHeld ?_
  refine held_field 2 97 (Go.Operand.tmp 13) 1 (some 14) (.pointer (some ⟨R, 0, none⟩)) (.pointer (some ⟨R, 1, none⟩)) (by kernel_rfl) (by kernel_rfl) (fun w => by kernel_rfl) (by kernel_rfl) (by kernel_rfl) (by kernel_rfl) (fun _ _ _ d _ h => by cases d <;> exact h) hHeld ?_
  refine held_cell 3 3 (Go.Operand.tmp 14) (some 15) (.pointer (some ⟨R, 1, none⟩)) (.int .i64 (p : Int)) (by kernel_rfl) (by kernel_rfl) (fun V hV => load_i64 R 1 V _ ((hV.cell (p := ⟨R, 1, none⟩) hRl).trans hR1)) (by kernel_rfl) (by kernel_rfl) (by kernel_rfl) (fun _ _ _ d _ h => by cases d <;> exact h) hHeld ?_
  refine held_cell 4 46 (Go.Operand.global 3) (some 16) (.pointer (some ⟨3, 0, none⟩)) (errV (E 1)) (by kernel_rfl) (by kernel_rfl) (fun V hV => load_err 3 0 V _ ((hV.cell (p := ⟨3, 0, none⟩) hEl).trans hEk)) (by kernel_rfl) (by kernel_rfl) (by kernel_rfl) (fun _ _ _ d _ h => by cases d <;> exact h) hHeld ?_
  refine held_fall 5 49 #[Go.Operand.tmp 15, Go.Operand.tmp 16] #[3, 46] (some 17) #[.int .i64 (p : Int), errV (E 1)] _ (by kernel_rfl) (by kernel_rfl) (by kernel_rfl) (by kernel_rfl) (fail_any (p : Int) (E 1) _) ?_
  rintro e V ⟨rfl, rfl⟩
  refine ⟨_, rfl, ?_⟩
  exact ⟨rfl, FellAt.of 1 p (HB.out.trans ((hU.trans (hHeld.mono hU.size)).mono HB.out.size))⟩
set_option maxRecDepth 100000 in
set_option maxHeartbeats 1600000 in
theorem rlist_long (h : RdS w R A xs p c) (hE : ErrsAt E w) (hx : Byts xs) (hl : xs.length ≤ 100000) (hp : p + 4 ≤ xs.length) (m : Int) (hm : wordI xs p ≤ m ∧ (xs.length : Int) - p - 4 < wordI xs p) : Calls Tryz.prog 26 #[.pointer (some ⟨R, 0, none⟩), .int .i64 m] w (FellAt E w 2 p) := by
  have hwd := hx.word p
  obtain ⟨x, hx0⟩ : ∃ x, wordI xs p = x := ⟨_, rfl⟩
  have H1 := word_ok h hx hl hp
  rw [hx0] at H1 hwd hm
  clear hx0
  go_enter Tryz.func26, Tryz.ntmps26
  go_wp2_with fail
  refine H1.mono ?_
  rintro e W1 ⟨rfl, hb⟩
  have h1 := h.below hb
  have hk := (hE.below hb).c 2 (by decide)
  have hlt := h1.lt
  have c1 := h1.c1
  have c0 := h1.c0
  have HB := Lib.hid hb
  clear H1 h hE hb
  go_wp2_with fail
  go_quiet (fail)
  go_upto_region 5 with (fail)
  refine wp_world (fun V => Below W1.heap.size W1 V) (Below.drewNr _) ?_
  intro U hU
  have hR1 := (hU.cell (p := ⟨R, 1, none⟩) hlt).trans c1
  have hEk : U.cell? ⟨4, 0, none⟩ = some (errV (E 2)) := (hU.cell (p := ⟨4, 0, none⟩) (cell_lt hk)).trans hk
  have hRl := cell_lt hR1
  have hEl := cell_lt hEk
  refine wp_region_held_drew (S := fun V => Below U.heap.size U V) (by kernel_rfl) (Below.drewNr (w := U) 1) (fun hHeld => ?_)
  refine held_move 0 (Go.Operand.tmp 0) (some 31) (.pointer (some ⟨R, 0, none⟩)) (by kernel_rfl) (by kernel_rfl) (by kernel_rfl) (by kernel_rfl) (by kernel_rfl) (fun _ _ _ d _ h => by cases d <;> exact h) hHeld ?_
  refine held_nil 1 (Go.Operand.tmp 31) (some 32) ⟨R, 0, none⟩ (by kernel_rfl) (by kernel_rfl) (by kernel_rfl) (by kernel_rfl) (by kernel_rfl) (fun _ _ _ d _ h => by cases d <;> exact h) hHeld ?_
  refine held_field 2 97 (Go.Operand.tmp 32) 1 (some 33) (.pointer (some ⟨R, 0, none⟩)) (.pointer (some ⟨R, 1, none⟩)) (by kernel_rfl) (by kernel_rfl) (fun w => by kernel_rfl) (by kernel_rfl) (by kernel_rfl) (by kernel_rfl) (fun _ _ _ d _ h => by cases d <;> exact h) hHeld ?_
  refine held_cell 3 3 (Go.Operand.tmp 33) (some 34) (.pointer (some ⟨R, 1, none⟩)) (.int .i64 (p : Int)) (by kernel_rfl) (by kernel_rfl) (fun V hV => load_i64 R 1 V _ ((hV.cell (p := ⟨R, 1, none⟩) hRl).trans hR1)) (by kernel_rfl) (by kernel_rfl) (by kernel_rfl) (fun _ _ _ d _ h => by cases d <;> exact h) hHeld ?_
  refine held_cell 4 46 (Go.Operand.global 4) (some 35) (.pointer (some ⟨4, 0, none⟩)) (errV (E 2)) (by kernel_rfl) (by kernel_rfl) (fun V hV => load_err 4 0 V _ ((hV.cell (p := ⟨4, 0, none⟩) hEl).trans hEk)) (by kernel_rfl) (by kernel_rfl) (by kernel_rfl) (fun _ _ _ d _ h => by cases d <;> exact h) hHeld ?_
  refine held_fall 5 49 #[Go.Operand.tmp 34, Go.Operand.tmp 35] #[3, 46] (some 36) #[.int .i64 (p : Int), errV (E 2)] _ (by kernel_rfl) (by kernel_rfl) (by kernel_rfl) (by kernel_rfl) (fail_any (p : Int) (E 2) _) ?_
  rintro e V ⟨rfl, rfl⟩
  refine ⟨_, rfl, ?_⟩
  exact ⟨rfl, FellAt.of 2 p (HB.out.trans ((hU.trans (hHeld.mono hU.size)).mono HB.out.size))⟩
set_option maxRecDepth 100000 in
set_option maxHeartbeats 1600000 in
theorem rlist_ok (h : RdS w R A xs p c) (hx : Byts xs) (hl : xs.length ≤ 100000) (n : Nat) (hp : p + 4 + n ≤ xs.length) (m : Int) (hm : wordI xs p = n) (hn : (n : Int) ≤ m) : Calls Tryz.prog 26 #[.pointer (some ⟨R, 0, none⟩), .int .i64 m] w fun e w' => ∃ v, e = .returned v ∧ w'.ownsRow w.heap.size 5 1 v n (ints .u8 ((xs.drop (p + 4)).take n)) ∧ RdS w' R A xs (p + 4 + n) c ∧ Turn (· = R) w w' := by
  have H1 := word_ok h hx hl (by omega)
  rw [hm] at H1
  clear hm
  go_enter Tryz.func26, Tryz.ntmps26
  go_wp2_with fail
  refine H1.mono ?_
  rintro e W1 ⟨rfl, hb⟩
  have h1 := h.below hb
  have c1 := h1.c1
  have c0 := h1.c0
  clear H1 h
  go_wp2_with fail
  go_quiet (fail)
  go_upto_region 6 with (fail)
  refine wp_world (fun V => Below W1.heap.size W1 V) (Below.drewNr _) ?_
  intro W2 hb2
  have h2 := h1.below hb2
  have c0 := h2.c0
  have c1 := h2.c1
  have f1 := h2.f
  have hb3 : Below w.heap.size w W2 := hb.trans (hb2.mono hb.size)
  go_upto_region 7 with (fail)
  obtain ⟨hmv, hmt⟩ := h2.move (p + 4) (by omega)
  rw [show ((p + 4 : Nat) : Int) = (p : Int) + 4 by simp] at hmv hmt
  refine wp_world (fun V => RdS V R A xs (p + 4) c ∧ Turn (· = R) w V) ⟨hmv, (Turn.of_below hb3).trans hmt (fun q hq => .inl hq)⟩ ?_
  rintro U ⟨hU, hT⟩
  have HT := Lib.hid hT
  clear hT hmv hmt hb3 h2 hb2 hb h1 c0 c1 f1
  go_wp2_with fail
  refine (rraw_ok hU hl n hp).mono ?_
  rintro e V ⟨v, rfl, hown, hR, hT2⟩
  obtain ⟨Av, cv, rfl, _⟩ := ownsRow_form hown
  have HF := Lib.hid (And.intro (ownsRow_lower hown HT.out.size) (And.intro hR (HT.out.trans hT2 (fun q hq => .inl hq))))
  clear hown hR hT2 hU
  go_wp2_with fail
  go_ret
  exact ⟨.slice Av n cv, rfl, HF.out⟩
end
end Go.Proofs.YtffkjbbhbpaacaaGreatDoor
