import Derived.Test.YtplennobcbmccaaDoorBog
namespace Go.Proofs.YtplennobcbmccaaDoor
open Go.RowKit

theorem neqs_i64 (t : TypeId) (x y : Operand) (a : Int) (w : World) : (do eqGuard .neq t x y (.int .i64 a) (.int .i64 a); binOp .neq t (.int .i64 a) (.int .i64 a) : Sem Value).run Tryd.prog w = .ok (.bool false) w := by
  simp [eqGuard, binOp, Op.intCmp]
theorem neqs_bool (x y : Operand) (a : Bool) (w : World) : (do eqGuard .neq 4 x y (.bool a) (.bool a); binOp .neq 4 (.bool a) (.bool a) : Sem Value).run Tryd.prog w = .ok (.bool false) w := by
  cases a <;> kernel_rfl
theorem gt_i64B (t : TypeId) (x y : Operand) (a b : Int) (h : b < a) (w : World) : (do eqGuard .gtr t x y (.int .i64 a) (.int .i64 b); binOp .gtr t (.int .i64 a) (.int .i64 b) : Sem Value).run Tryd.prog w = .ok (.bool true) w := by
  simp [eqGuard, binOp, Op.intCmp, h]
theorem load_i64B (b k : Nat) (v : Value) (w : World) (h : w.cell? ⟨b, k, none⟩ = some v) : (Instr.loadAt 3 (.pointer (some ⟨b, k, none⟩))).run Tryd.prog w = .ok v w := by
  have h2 := Tryd.underlying3
  go_simp
theorem region_cutG {P : Program} {c : Code} {Q : Exit → Act → World → Prop} {a : Act} {w : World} (R : Act → Act → World → Prop) (h : c.wp P (fun ex a' w' => ex = .normal ∧ R a a' w') a w) (k : ∀ a' w', R a a' w' → Q .normal a' w') : c.wp P Q a w :=
  wp_mono h fun _ _ _ ⟨h1, h2⟩ => h1 ▸ k _ _ h2
def hasL (l : List Bool) (i : Int) : Bool := decide (0 ≤ i) && l.getD i.toNat false
/-- what comes next is the same of both -/
theorem next_both (l : List Bool) (s : Int) (hs : s ≤ 9223372036854775807) : ∃ v : Int, (∀ b a w, IsMap w b a l → Quiets Tryd.prog 15 #[.pointer (some ⟨b, 0, none⟩), .int .i64 s] w (.int .i64 v)) ∧ (∀ b a w, IsRMap w b a l → Quiets Tryd.prog 16 #[.pointer (some ⟨b, 0, none⟩), .int .i64 s] w (.int .i64 v)) := by
  rcases Nat.lt_or_ge (trues l) l.length with h | h
  · obtain ⟨d, hd⟩ := exists_next l s.toNat h
    exact ⟨_, fun b a w hm => next_at b a l s d w hm h hd hs, fun b a w hm => rnext_at b a l s d w hm hd hs⟩
  · have h2 := Nat.le_antisymm (trues_le l) h
    exact ⟨_, fun b a w hm => next_full b a l s w hm h2, fun b a w hm => rnext_full b a l s w hm h2 hs⟩
/-- Set turns its own two blocks alone -/
theorem setk_any (b a : Nat) (l : List Bool) (i : Int) (w : World) (h : IsMap w b a l) :
    Calls Tryd.prog 11 #[.pointer (some ⟨b, 0, none⟩), .int .i64 i] w fun e w' => SetPost w b a l i e w' ∧ ∀ q, q ≠ a → q ≠ b → w'.heap[q]? = w.heap[q]? := by
  by_cases hc : Could l i
  · obtain ⟨h1, h2, h3⟩ := id hc
    obtain ⟨k, rfl⟩ := Int.eq_ofNat_of_zero_le h1
    refine (set_yes b a l k w h (by omega) (by simpa using h3)).mono ?_
    rintro e w' ⟨rfl, m, rfl⟩
    refine ⟨⟨by simp [hc], ?_, fun B hBa hBb => ?_⟩, fun q hqa hqb => ?_⟩
    · rw [if_pos hc]
      exact (h.drewN m).set k (by omega) (by simpa using h3)
    · exact ((Below.drewNr m).setCell hBa _).setCell hBb _
    · unfold World.setCell
      simp [Array.getElem?_modify, Ne.symm hqa, Ne.symm hqb]
  · refine (set_no b a l i w h hc).mono ?_
    rintro e w' ⟨rfl, m, rfl⟩
    refine ⟨⟨by simp [hc], ?_, fun B _ _ => Below.drewNr m⟩, fun q _ _ => rfl⟩
    rw [if_neg hc]
    exact h.drewN m
/-- both maps, throughout -/
structure PlS (w : World) (b a rb ra : Nat) (l : List Bool) (W : World) : Prop where
  bel : Below w.heap.size w W
  m : IsMap W b a l
  r : IsRMap W rb ra l
  ha : w.heap.size ≤ a
  hb : w.heap.size ≤ b
  o1 : a < ra
  o2 : b < ra
  o3 : a < rb
  o4 : b < rb
namespace PlS
variable {w : World} {b a rb ra : Nat} {l : List Bool} {W W' : World}
theorem next (x : PlS w b a rb ra l W) (hb : Below W.heap.size W W') : PlS w b a rb ra l W' := ⟨below_tr x.bel hb, x.m.below' hb, x.r.below' hb, x.ha, x.hb, x.o1, x.o2, x.o3, x.o4⟩
theorem hra (x : PlS w b a rb ra l W) : w.heap.size ≤ ra := by have := x.ha; have := x.o1; omega
theorem hrb (x : PlS w b a rb ra l W) : w.heap.size ≤ rb := by have := x.ha; have := x.o3; omega
theorem n1 (x : PlS w b a rb ra l W) : a ≠ rb := by have := x.o3; omega
theorem n2 (x : PlS w b a rb ra l W) : b ≠ rb := by have := x.o4; omega
theorem n3 (x : PlS w b a rb ra l W) : a ≠ ra := by have := x.o1; omega
theorem n4 (x : PlS w b a rb ra l W) : b ≠ ra := by have := x.o2; omega
theorem lt1 (x : PlS w b a rb ra l W) : a < min ra rb := by have := x.o1; have := x.o3; omega
theorem lt2 (x : PlS w b a rb ra l W) : b < min ra rb := by have := x.o2; have := x.o4; omega
end PlS

set_option maxRecDepth 100000 in
set_option maxHeartbeats 6400000 in
theorem play_walk (E : Nat → Addr) (zn : Int) (A : Option Addr) (xs : List Int) (ca : Nat) (zf : Int) (hzf : zf ≤ 9223372036854775807) (w : World) (hA : SlRead w A (ints .i64 xs)) (hE0 : FormAt E w) :
    Calls Tryd.prog 3 #[.int .i64 zn, .slice A xs.length ca, .int .i64 zf] w fun e w' => e = .returned (.bool true) ∧ Below w.heap.size w w' := by
  go_enter Tryd.func3, Tryd.ntmps3
  go_wp2_with fail
  refine (first_any w).mono ?_
  rintro e W1 ⟨rfl, hb1⟩
  by_cases h60 : 60 < xs.length
  · have d1 : decide ((60 : Int) < (xs.length : Int)) = true := by simp; omega
    go_wp2_with fail
    go_ret
    exact ⟨rfl, hb1⟩
  have d1 : decide ((60 : Int) < (xs.length : Int)) = false := by simp; omega
  have d6 := Bool.eq_false_or_eq_true (decide (0 < bits .and .i64 zn 3))
  rcases d6 with d6 | d6
  · obtain ⟨mn, hn1, hn2⟩ := exists_mod zn 30 (by omega)
    go_wp2_with fail
    refine (number_nat zn 30 mn W1 (by omega) hn1).mono ?_
    rintro e W2 ⟨rfl, n2, rfl⟩
    replace hb1 := below_tr hb1 (Below.drewNr n2)
    generalize W1.drewN n2 = W1 at *
    clear d1 d6 hn1 hn2
    generalize (mn : Int) = z at *
    go_wp2_with fail
    refine (newz_any z W1).mono ?_
    rintro e W2 ⟨b, a, rfl, hm, hb2, ha, hb⟩
    replace ha := Nat.le_trans hb1.size ha
    replace hb := Nat.le_trans hb1.size hb
    replace hb1 := below_tr hb1 hb2
    clear hb2
    go_wp2_with fail
    refine (rnewz_any z W2).mono ?_
    rintro e W3 ⟨rb, ra, rfl, hr, hb2, hra, hrb⟩
    have x : PlS w b a rb ra (List.replicate (sizeN z) false) W3 := ⟨below_tr hb1 hb2, hm.below' hb2, hr, ha, hb, by have := hm.row.lt; omega, by have := hm.st.lt; omega, by have := hm.row.lt; omega, by have := hm.st.lt; omega⟩
    clear hm hr hb1 hb2 ha hb hra hrb
    obtain ⟨N, hN⟩ : ∃ N, N = sizeN z := ⟨_, rfl⟩
    have HSZ : ∀ w', Below W3.heap.size W3 w' → Calls Tryd.prog 10 #[.pointer (some ⟨b, 0, none⟩)] w' fun e w'' => e = .returned (.int .i64 (N : Nat)) ∧ Below w'.heap.size w' w'' := fun w' hb => by
      have h := quiet_below (size_any b a _ w' (x.next hb).m)
      rwa [List.length_replicate, ← hN] at h
    have HR0 : ∀ w', Below W3.heap.size W3 w' → w'.cell? ⟨rb, 0, none⟩ = some (.slice (some ⟨ra, 0, none⟩) N N) := fun w' hb => by
      have h := (x.next hb).r.h0
      rwa [List.length_replicate, ← hN] at h
    have hl0 : (List.replicate (sizeN z) false).length = N := by rw [List.length_replicate, hN]
    obtain ⟨l0, hl00⟩ : ∃ l0, l0 = List.replicate (sizeN z) false := ⟨_, rfl⟩
    rw [← hl00] at x hl0
    have HN := Lib.hid hN; have HL0 := Lib.hid hl0
    clear hN hl0 hl00
    go_upto_region 10 with (fail)
    refine wp_region_spec [Sp.k 0 (some 30) [] (.pointer (some ⟨b, 0, none⟩)),
      Sp.k 1 (some 31) [0] (.bool false),
      Sp.k 2 (some 32) [1] (.bool false),
      Sp.k 3 (some 33) [2] (.pointer (some ⟨b, 0, none⟩)),
      Sp.k 4 (some 34) [2, 3] (.int .i64 N),
      Sp.k 5 (some 35) [2] (.pointer (some ⟨rb, 0, none⟩)),
      Sp.k 6 (some 36) [2, 5] (.pointer (some ⟨rb, 0, none⟩)),
      Sp.k 7 (some 37) [2, 6] (.pointer (some ⟨rb, 0, none⟩)),
      Sp.k 8 (some 38) [2, 7] (.slice (some ⟨ra, 0, none⟩) N N),
      Sp.k 9 (some 39) [2, 8] (.int .i64 N),
      Sp.k 10 (some 40) [2, 4, 9] (.bool false),
      Sp.k 11 (some 41) [2, 10] (.bool false)] (by kernel_rfl) (by kernel_rfl)
      ⟨owes_move 0 (some 30) [] (.pointer (some ⟨b, 0, none⟩)) (Go.Operand.tmp 8) (fun v => by kernel_rfl) (fun v => by kernel_rfl),
      owes_bin 1 (some 31) [0] (.bool false) Go.BinOp.eql 25 (Go.Operand.tmp 30) (Go.Operand.const (Go.Value.pointer none)) 25 (.pointer (some ⟨b, 0, none⟩)) (Go.Value.pointer none) (fun v => by kernel_rfl) (fun v => by kernel_rfl) (fun w => by kernel_rfl),
      owes_move 2 (some 32) [1] (.bool false) (Go.Operand.tmp 31) (fun v => by kernel_rfl) (fun v => by kernel_rfl),
      owes_move 3 (some 33) [2] (.pointer (some ⟨b, 0, none⟩)) (Go.Operand.tmp 8) (fun v => by kernel_rfl) (fun v => by kernel_rfl),
      owes_call 4 (some 34) [2, 3] (.int .i64 N) 10 #[Go.Operand.tmp 33] #[25] (fun v => by kernel_rfl) (fun _ _ => by kernel_rfl) (fun v w' hb ho => by
          exact ⟨#[.pointer (some ⟨b, 0, none⟩)], by kernel_rfl, (HSZ w' (drB hb)).mono (fun _ _ h => h)⟩),
      owes_move 5 (some 35) [2] (.pointer (some ⟨rb, 0, none⟩)) (Go.Operand.tmp 9) (fun v => by kernel_rfl) (fun v => by kernel_rfl),
      owes_nil 6 (some 36) [2, 5] (Go.Operand.tmp 35) _ (fun v => by kernel_rfl) (fun v => by kernel_rfl),
      owes_field 7 (some 37) [2, 6] (.pointer (some ⟨rb, 0, none⟩)) 32 (Go.Operand.tmp 36) 0 (.pointer (some ⟨rb, 0, none⟩)) (fun v => by kernel_rfl) (fun v => by kernel_rfl) (fun w => by kernel_rfl),
      owes_load 8 (some 38) [2, 7] (.slice (some ⟨ra, 0, none⟩) N N) 30 (Go.Operand.tmp 37) (.pointer (some ⟨rb, 0, none⟩)) (fun v => by kernel_rfl) (fun v => by kernel_rfl) (fun w' hb => load_slB _ _ w' (HR0 w' (drB hb))),
      owes_lenB 9 (some 39) [2, 8] (.int .i64 N) (.tmp 38) 30 3 (.slice (some ⟨ra, 0, none⟩) N N) (fun v => by kernel_rfl) (by kernel_rfl) (fun v => by kernel_rfl) (fun w => by kernel_rfl),
      owes_bin 10 (some 40) [2, 4, 9] (.bool false) Go.BinOp.neq 3 (Go.Operand.tmp 34) (Go.Operand.tmp 39) 3 (.int .i64 N) (.int .i64 N) (fun v => by kernel_rfl) (fun v => by kernel_rfl) (fun w => neqs_i64 _ _ _ _ w),
      owes_pick 11 (some 41) [2, 10] (.bool false) (Go.Operand.tmp 32) (Go.Operand.const (Go.Value.bool true)) (Go.Operand.tmp 40) false (fun v => by kernel_rfl) (fun v => by kernel_rfl) (fun v => by kernel_rfl), trivial⟩ ?_
    intro v W4 hb' hall
    clear hall HSZ HR0
    replace x := x.next (drB hb')
    clear hb'
    simp only [putsL_k, putsL_nil, List.set_cons_zero, List.set_cons_succ]
    go_wp2_with fail
    go_loopw [10] (fun p wr => ∃ (k : Nat) (l : List Bool), p = .int .i64 k ∧ k ≤ xs.length + 1 ∧ Hid (l.length = N) ∧ PlS w b a rb ra l wr) (fun p _ => xs.length + 1 - (intOf p).toNat)
    case atStart => exact ⟨0, _, rfl, by omega, HL0, x⟩
    clear x HL0
    clear l0
    case round =>
      obtain ⟨k, l, rfl, hk, HNL, x⟩ := hrel
      by_cases hlt : k ≤ xs.length
      · have hlt' : decide (k ≤ xs.length) = true := by simpa using hlt
        go_upto_region 15 with (fail)
        refine region_cutG (fun a_ a' w' => ∃ w0 w1 w2 w3 w4 w5 w6 w7 w8 w9 w10 w11 w12 w13 w14 w15 w16 w17 l2, a' = (((((((((((((((((((a_.put (some 48) (w0)).put (some 49) (w1)).put (some 50) (w2)).put (some 51) (w3)).put (some 52) (w4)).put (some 53) (w5)).put (some 54) (w6)).put (some 55) (w7)).put (some 56) (w8)).put (some 57) (w9)).put (some 58) (w10)).put (some 59) (w11)).put (some 60) (w12)).put (some 61) (w13)).put (some 62) (w14)).put (some 63) (w15)).put (some 64) (w16)).put (some 65) (w17)).put (some 66) (.bool false)) ∧ l2.length = N ∧ PlS w b a rb ra l2 w') ?_ ?_
        · by_cases hk0 : k = 0
          · subst hk0
            refine wp_region_spec [Sp.k 0 (some 48) [] (.int .i64 ((0 : Nat) : Int)),
              Sp.k 1 (some 49) [0] (.bool false),
              Sp.k 2 (some 50) [1] (.bool false),
              Sp.k 3 (some 51) [2] (undef),
              Sp.k 4 (some 52) [2] (undef),
              Sp.k 5 (some 53) [2] (undef),
              Sp.k 6 (some 54) [2, 5] (undef),
              Sp.k 7 (some 55) [2, 4, 6] (undef),
              Sp.k 8 (some 56) [2, 7] (undef),
              Sp.k 9 (some 57) [2, 3, 8] (undef),
              Sp.k 10 (some 58) [2] (undef),
              Sp.k 11 (some 59) [2] (undef),
              Sp.k 12 (some 60) [2] (undef),
              Sp.k 13 (some 61) [2, 12] (undef),
              Sp.k 14 (some 62) [2, 11, 13] (undef),
              Sp.k 15 (some 63) [2, 14] (undef),
              Sp.k 16 (some 64) [2, 10, 15] (undef),
              Sp.k 17 (some 65) [2, 9, 16] (undef),
              Sp.k 18 (some 66) [2, 17] (Go.Value.bool false)] (by kernel_rfl) (by kernel_rfl)
              ⟨owes_move 0 (some 48) [] (.int .i64 ((0 : Nat) : Int)) (Go.Operand.tmp 10) (fun v => by kernel_rfl) (fun v => by kernel_rfl),
              owes_bin 1 (some 49) [0] (.bool false) Go.BinOp.gtr 3 (Go.Operand.tmp 48) (Go.Operand.const (Go.Value.int Go.IntKind.i64 0)) 3 (.int .i64 ((0 : Nat) : Int)) (Go.Value.int Go.IntKind.i64 0) (fun v => by kernel_rfl) (fun v => by kernel_rfl) (fun w => by kernel_rfl),
              owes_move 2 (some 50) [1] (.bool false) (Go.Operand.tmp 49) (fun v => by kernel_rfl) (fun v => by kernel_rfl),
              owes_skip 3 (some 51) [2] (fun v => by kernel_rfl),
              owes_skip 4 (some 52) [2] (fun v => by kernel_rfl),
              owes_skip 5 (some 53) [2] (fun v => by kernel_rfl),
              owes_skip 6 (some 54) [2, 5] (fun v => by kernel_rfl),
              owes_skip 7 (some 55) [2, 4, 6] (fun v => by kernel_rfl),
              owes_skip 8 (some 56) [2, 7] (fun v => by kernel_rfl),
              owes_skip 9 (some 57) [2, 3, 8] (fun v => by kernel_rfl),
              owes_skip 10 (some 58) [2] (fun v => by kernel_rfl),
              owes_skip 11 (some 59) [2] (fun v => by kernel_rfl),
              owes_skip 12 (some 60) [2] (fun v => by kernel_rfl),
              owes_skip 13 (some 61) [2, 12] (fun v => by kernel_rfl),
              owes_skip 14 (some 62) [2, 11, 13] (fun v => by kernel_rfl),
              owes_skip 15 (some 63) [2, 14] (fun v => by kernel_rfl),
              owes_skip 16 (some 64) [2, 10, 15] (fun v => by kernel_rfl),
              owes_skip 17 (some 65) [2, 9, 16] (fun v => by kernel_rfl),
              owes_pick 18 (some 66) [2, 17] (Go.Value.bool false) (Go.Operand.tmp 50) (Go.Operand.tmp 65) (Go.Operand.const (Go.Value.bool false)) false (fun v => by kernel_rfl) (fun v => by kernel_rfl) (fun v => by kernel_rfl), trivial⟩ ?_
            intro v w' hb' hall
            exact ⟨rfl, _, _, _, _, _, _, _, _, _, _, _, _, _, _, _, _, _, _, l, rfl, HNL.out, x.next (drB hb')⟩
          · obtain ⟨zz, xb, xo, hA1, hzz⟩ : ∃ (zz : Int) (xb xo : Nat), A = some ⟨xb, xo, none⟩ ∧ ∀ w', Below w.heap.size w w' → w'.cell? ⟨xb, xo + (k - 1), none⟩ = some (.int .i64 zz) := by
              obtain ⟨xb, xo, e, hxb, hc⟩ := hA (by simp [ints]; omega)
              exact ⟨xs[k - 1]'(by omega), xb, xo, e, fun w' hb => (hb.cell (p := ⟨xb, xo + (k - 1), none⟩) hxb).trans (hc (k - 1) _ (by rw [ints, List.getElem?_map, List.getElem?_eq_getElem (show k - 1 < xs.length by omega)]; rfl))⟩
            subst hA1
            have HXC := hzz
            refine wp_region_noPanic ?_
            refine wp_region_held_drew (S := fun W' => Below w.heap.size w W') (by kernel_rfl) (x.bel.trans (Below.drewNr (w := wr) 1)) (fun hHeld => ?_)
            replace x : PlS w b a rb ra l wr.drew := x.next (Below.drewNr (w := wr) 1)
            generalize wr.drew = WD at *
            refine held_move 0 (Go.Operand.tmp 10) (some 48) (.int .i64 k) (by kernel_rfl) (by kernel_rfl) (by kernel_rfl) (by kernel_rfl) (by kernel_rfl) (fun _ _ _ _ _ h => h) hHeld ?_
            refine held_bin 1 Go.BinOp.gtr 3 (Go.Operand.tmp 48) (Go.Operand.const (Go.Value.int Go.IntKind.i64 0)) 3 (some 49) (.int .i64 k) (Go.Value.int Go.IntKind.i64 0) (.bool true) (by kernel_rfl) (by kernel_rfl) (gt_i64B _ _ _ (k : Int) 0 (by omega)) (by kernel_rfl) (by kernel_rfl) (by kernel_rfl) (fun _ _ _ _ _ h => h) hHeld ?_
            refine held_move 2 (Go.Operand.tmp 49) (some 50) (.bool true) (by kernel_rfl) (by kernel_rfl) (by kernel_rfl) (by kernel_rfl) (by kernel_rfl) (fun _ _ _ _ _ h => h) hHeld ?_
            refine held_move 3 (Go.Operand.tmp 8) (some 51) (.pointer (some ⟨b, 0, none⟩)) (by kernel_rfl) (by kernel_rfl) (by kernel_rfl) (by kernel_rfl) (by kernel_rfl) (fun _ _ _ _ _ h => h) hHeld ?_
            refine held_move 4 (Go.Operand.tmp 1) (some 52) (.slice (some ⟨xb, xo, none⟩) xs.length ca) (by kernel_rfl) (by kernel_rfl) (by kernel_rfl) (by kernel_rfl) (by kernel_rfl) (fun _ _ _ _ _ h => h) hHeld ?_
            refine held_move 5 (Go.Operand.tmp 10) (some 53) (.int .i64 k) (by kernel_rfl) (by kernel_rfl) (by kernel_rfl) (by kernel_rfl) (by kernel_rfl) (fun _ _ _ _ _ h => h) hHeld ?_
            refine held_bin 6 Go.BinOp.sub 3 (Go.Operand.tmp 53) (Go.Operand.const (Go.Value.int Go.IntKind.i64 1)) 3 (some 54) (.int .i64 k) (Go.Value.int Go.IntKind.i64 1) (.int .i64 ((k - 1 : Nat) : Int)) (by kernel_rfl) (by kernel_rfl) (sub_i64B _ _ _ _ _ _ (by omega) (by omega) (by omega)) (by kernel_rfl) (by kernel_rfl) (by kernel_rfl) (fun _ _ _ _ _ h => h) hHeld ?_
            refine held_index 7 22 (Go.Operand.tmp 52) (Go.Operand.tmp 54) (some 55) (.slice (some ⟨xb, xo, none⟩) xs.length ca) (.int .i64 ((k - 1 : Nat) : Int)) (.pointer (some ⟨xb, xo + (k - 1), none⟩)) (by kernel_rfl) (by kernel_rfl) (idx_sl (P := Tryd.prog) Tryd.underlying22 (show (Tryd.prog.info? 3).map (·.size) = some 1 by kernel_rfl) xb xo xs.length ca (k - 1) (by omega)) (by kernel_rfl) (by kernel_rfl) (by kernel_rfl) (fun _ _ _ _ _ h => h) hHeld ?_
            refine held_cell 8 3 (Go.Operand.tmp 55) (some 56) (.pointer (some ⟨xb, xo + (k - 1), none⟩)) (.int .i64 zz) (by kernel_rfl) (by kernel_rfl) (fun w h => load_i64B _ _ _ w (HXC w h)) (by kernel_rfl) (by kernel_rfl) (by kernel_rfl) (fun _ _ _ _ _ h => h) hHeld ?_
            refine held_move 10 (Go.Operand.tmp 9) (some 58) (.pointer (some ⟨rb, 0, none⟩)) (by kernel_rfl) (by kernel_rfl) (by kernel_rfl) (by kernel_rfl) (by kernel_rfl) (fun _ _ _ _ _ h => h) hHeld ?_
            refine held_move 11 (Go.Operand.tmp 1) (some 59) (.slice (some ⟨xb, xo, none⟩) xs.length ca) (by kernel_rfl) (by kernel_rfl) (by kernel_rfl) (by kernel_rfl) (by kernel_rfl) (fun _ _ _ _ _ h => h) hHeld ?_
            refine held_move 12 (Go.Operand.tmp 10) (some 60) (.int .i64 k) (by kernel_rfl) (by kernel_rfl) (by kernel_rfl) (by kernel_rfl) (by kernel_rfl) (fun _ _ _ _ _ h => h) hHeld ?_
            refine held_bin 13 Go.BinOp.sub 3 (Go.Operand.tmp 60) (Go.Operand.const (Go.Value.int Go.IntKind.i64 1)) 3 (some 61) (.int .i64 k) (Go.Value.int Go.IntKind.i64 1) (.int .i64 ((k - 1 : Nat) : Int)) (by kernel_rfl) (by kernel_rfl) (sub_i64B _ _ _ _ _ _ (by omega) (by omega) (by omega)) (by kernel_rfl) (by kernel_rfl) (by kernel_rfl) (fun _ _ _ _ _ h => h) hHeld ?_
            refine held_index 14 22 (Go.Operand.tmp 59) (Go.Operand.tmp 61) (some 62) (.slice (some ⟨xb, xo, none⟩) xs.length ca) (.int .i64 ((k - 1 : Nat) : Int)) (.pointer (some ⟨xb, xo + (k - 1), none⟩)) (by kernel_rfl) (by kernel_rfl) (idx_sl (P := Tryd.prog) Tryd.underlying22 (show (Tryd.prog.info? 3).map (·.size) = some 1 by kernel_rfl) xb xo xs.length ca (k - 1) (by omega)) (by kernel_rfl) (by kernel_rfl) (by kernel_rfl) (fun _ _ _ _ _ h => h) hHeld ?_
            refine held_cell 15 3 (Go.Operand.tmp 62) (some 63) (.pointer (some ⟨xb, xo + (k - 1), none⟩)) (.int .i64 zz) (by kernel_rfl) (by kernel_rfl) (fun w h => load_i64B _ _ _ w (HXC w h)) (by kernel_rfl) (by kernel_rfl) (by kernel_rfl) (fun _ _ _ _ _ h => h) hHeld ?_
            refine held_call 9 11 #[.tmp 51, .tmp 56] #[25, 3] (some 57) _ _ (by kernel_rfl) (by kernel_rfl) (by kernel_rfl) (by kernel_rfl) (setk_any b a l zz WD x.m) ?_
            rintro e V1 ⟨⟨rfl, hm1, hB1⟩, hkeep⟩
            have hB1' := x.bel.trans (hB1 w.heap.size x.ha x.hb)
            refine ⟨_, rfl, hB1', fun hHeld => ?_⟩
            have hr1 : IsRMap V1 rb ra l := ⟨x.r.st.of_block (hkeep _ (Ne.symm x.n1) (Ne.symm x.n2)), x.r.row.of_block (hkeep _ (Ne.symm x.n3) (Ne.symm x.n4)), x.r.ne, x.r.hl⟩
            refine held_call 16 12 #[.tmp 58, .tmp 63] #[27, 3] (some 64) _ _ (by kernel_rfl) (by kernel_rfl) (by kernel_rfl) (by kernel_rfl) (rset_any rb ra l zz V1 hr1) ?_
            rintro e V2 ⟨rfl, hr2, hB2⟩
            have x2 : PlS w b a rb ra (if Could l zz then l.set zz.toNat true else l) V2 := ⟨hB1'.trans (hB2 w.heap.size x.hra x.hrb), hm1.below (hB2 (min ra rb) (Nat.min_le_left _ _) (Nat.min_le_right _ _)) x.lt1 x.lt2, hr2, x.ha, x.hb, x.o1, x.o2, x.o3, x.o4⟩
            refine ⟨_, rfl, x2.bel, fun hHeld => ?_⟩
            refine held_bin 17 Go.BinOp.neq 4 (Go.Operand.tmp 57) (Go.Operand.tmp 64) 4 (some 65) (.bool (decide (Could l zz))) (.bool (decide (Could l zz))) (.bool false) (by kernel_rfl) (by kernel_rfl) (neqs_bool _ _ _) (by kernel_rfl) (by kernel_rfl) (by kernel_rfl) (fun _ _ _ _ _ h => h) hHeld ?_
            refine held_pick 18 (Go.Operand.tmp 50) (Go.Operand.tmp 65) (Go.Operand.const (Go.Value.bool false)) (some 66) true (.bool false) (by kernel_rfl) (by kernel_rfl) (by kernel_rfl) (by kernel_rfl) (by kernel_rfl) (by kernel_rfl) (fun _ _ _ _ _ h => h) hHeld ?_
            refine wpAnyH_done (by kernel_rfl) ?_ _
            refine NoPanic.normal ?_
            refine ⟨rfl, .int .i64 k, .bool true, .bool true, .pointer (some ⟨b, 0, none⟩), .slice (some ⟨xb, xo, none⟩) xs.length ca, .int .i64 k, .int .i64 ((k - 1 : Nat) : Int), .pointer (some ⟨xb, xo + (k - 1), none⟩), .int .i64 zz, .bool (decide (Could l zz)), .pointer (some ⟨rb, 0, none⟩), .slice (some ⟨xb, xo, none⟩) xs.length ca, .int .i64 k, .int .i64 ((k - 1 : Nat) : Int), .pointer (some ⟨xb, xo + (k - 1), none⟩), .int .i64 zz, .bool (decide (Could l zz)), .bool false, _, ?_, by split <;> simp [HNL.out], x2⟩
            simp only [put_list, List.set_cons_zero, List.set_cons_succ]
        · rintro a' W ⟨w0, w1, w2, w3, w4, w5, w6, w7, w8, w9, w10, w11, w12, w13, w14, w15, w16, w17, l2, rfl, hl2, x⟩
          simp only [put_list, List.set_cons_zero, List.set_cons_succ]
          obtain ⟨NF, hNF1, hNF2⟩ := next_both l2 zf hzf
          obtain ⟨NK, hNK1, hNK2⟩ := next_both l2 (k : Int) (by omega)
          have HC1 : ∀ w', Below W.heap.size W w' → Calls Tryd.prog 13 #[.pointer (some ⟨b, 0, none⟩)] w' fun e w'' => e = .returned (.int .i64 ((trues l2 : Nat) : Int)) ∧ Below w'.heap.size w' w'' := fun w' hb => quiet_below (count_any b a l2 w' (x.next hb).m)
          have HC2 : ∀ w', Below W.heap.size W w' → Calls Tryd.prog 14 #[.pointer (some ⟨rb, 0, none⟩)] w' fun e w'' => e = .returned (.int .i64 ((trues l2 : Nat) : Int)) ∧ Below w'.heap.size w' w'' := fun w' hb => quiet_below (rcount_any rb ra l2 w' (x.next hb).r)
          have HF1 : ∀ w', Below W.heap.size W w' → Calls Tryd.prog 15 #[.pointer (some ⟨b, 0, none⟩), .int .i64 zf] w' fun e w'' => e = .returned (.int .i64 NF) ∧ Below w'.heap.size w' w'' := fun w' hb => quiet_below (hNF1 b a w' (x.next hb).m)
          have HF2 : ∀ w', Below W.heap.size W w' → Calls Tryd.prog 16 #[.pointer (some ⟨rb, 0, none⟩), .int .i64 zf] w' fun e w'' => e = .returned (.int .i64 NF) ∧ Below w'.heap.size w' w'' := fun w' hb => quiet_below (hNF2 rb ra w' (x.next hb).r)
          have HK1 : ∀ w', Below W.heap.size W w' → Calls Tryd.prog 15 #[.pointer (some ⟨b, 0, none⟩), .int .i64 (k : Int)] w' fun e w'' => e = .returned (.int .i64 NK) ∧ Below w'.heap.size w' w'' := fun w' hb => quiet_below (hNK1 b a w' (x.next hb).m)
          have HK2 : ∀ w', Below W.heap.size W w' → Calls Tryd.prog 16 #[.pointer (some ⟨rb, 0, none⟩), .int .i64 (k : Int)] w' fun e w'' => e = .returned (.int .i64 NK) ∧ Below w'.heap.size w' w'' := fun w' hb => quiet_below (hNK2 rb ra w' (x.next hb).r)
          have HR1 : ∀ w', Below W.heap.size W w' → Calls Tryd.prog 17 #[.pointer (some ⟨b, 0, none⟩)] w' fun e w'' => e = .returned (.int .i64 ((front l2 : Nat) : Int)) ∧ Below w'.heap.size w' w'' := fun w' hb => quiet_below (front_any b a l2 w' (x.next hb).m)
          have HR2 : ∀ w', Below W.heap.size W w' → Calls Tryd.prog 18 #[.pointer (some ⟨rb, 0, none⟩)] w' fun e w'' => e = .returned (.int .i64 ((front l2 : Nat) : Int)) ∧ Below w'.heap.size w' w'' := fun w' hb => quiet_below (rfront_any rb ra l2 w' (x.next hb).r)
          have HH1 : ∀ w', Below W.heap.size W w' → Calls Tryd.prog 19 #[.pointer (some ⟨b, 0, none⟩), .int .i64 (k : Int)] w' fun e w'' => e = .returned (.bool (hasL l2 (k : Int))) ∧ Below w'.heap.size w' w'' := fun w' hb => quiet_below (has_any b a l2 (k : Int) w' (x.next hb).m)
          have HH2 : ∀ w', Below W.heap.size W w' → Calls Tryd.prog 20 #[.pointer (some ⟨rb, 0, none⟩), .int .i64 (k : Int)] w' fun e w'' => e = .returned (.bool (hasL l2 (k : Int))) ∧ Below w'.heap.size w' w'' := fun w' hb => quiet_below (rhas_any rb ra l2 (k : Int) w' (x.next hb).r)
          have HG1 : ∀ w', Below W.heap.size W w' → Calls Tryd.prog 19 #[.pointer (some ⟨b, 0, none⟩), .int .i64 zf] w' fun e w'' => e = .returned (.bool (hasL l2 zf)) ∧ Below w'.heap.size w' w'' := fun w' hb => quiet_below (has_any b a l2 zf w' (x.next hb).m)
          have HG2 : ∀ w', Below W.heap.size W w' → Calls Tryd.prog 20 #[.pointer (some ⟨rb, 0, none⟩), .int .i64 zf] w' fun e w'' => e = .returned (.bool (hasL l2 zf)) ∧ Below w'.heap.size w' w'' := fun w' hb => quiet_below (rhas_any rb ra l2 zf w' (x.next hb).r)
          generalize ((trues l2 : Nat) : Int) = TR at HC1 HC2
          generalize ((front l2 : Nat) : Int) = FR at HR1 HR2
          generalize hasL l2 (k : Int) = hk at HH1 HH2
          generalize hasL l2 zf = hf at HG1 HG2
          have HL2 := Lib.hid hl2
          clear hNF1 hNF2 hNK1 hNK2 hl2
          go_upto_region 17 with (fail)
          refine wp_region_text [Sp.k 0 (some 67) [] (.pointer (some ⟨b, 0, none⟩)),
            Sp.k 1 (some 68) [0] (.int .i64 TR),
            Sp.k 2 (some 69) [] (.pointer (some ⟨rb, 0, none⟩)),
            Sp.k 3 (some 70) [2] (.int .i64 TR),
            Sp.k 4 (some 71) [1, 3] (.bool false),
            Sp.k 5 (some 72) [4] (.bool false),
            Sp.k 6 (some 73) [5] (.pointer (some ⟨b, 0, none⟩)),
            Sp.k 7 (some 74) [5] (.int .i64 zf),
            Sp.k 8 (some 75) [5, 6, 7] (.int .i64 NF),
            Sp.k 9 (some 76) [5] (.pointer (some ⟨rb, 0, none⟩)),
            Sp.k 10 (some 77) [5] (.int .i64 zf),
            Sp.k 11 (some 78) [5, 9, 10] (.int .i64 NF),
            Sp.k 12 (some 79) [5, 8, 11] (.bool false),
            Sp.k 13 (some 80) [5, 12] (.bool false),
            Sp.k 14 (some 81) [13] (.bool false),
            Sp.k 15 (some 82) [14] (.pointer (some ⟨b, 0, none⟩)),
            Sp.k 16 (some 83) [14] (.int .i64 k),
            Sp.k 17 (some 84) [14, 15, 16] (.int .i64 NK),
            Sp.k 18 (some 85) [14] (.pointer (some ⟨rb, 0, none⟩)),
            Sp.k 19 (some 86) [14] (.int .i64 k),
            Sp.k 20 (some 87) [14, 18, 19] (.int .i64 NK),
            Sp.k 21 (some 88) [14, 17, 20] (.bool false),
            Sp.k 22 (some 89) [14, 21] (.bool false),
            Sp.k 23 (some 90) [22] (.bool false),
            Sp.k 24 (some 91) [23] (.pointer (some ⟨b, 0, none⟩)),
            Sp.k 25 (some 92) [23, 24] (.int .i64 FR),
            Sp.k 26 (some 93) [23] (.pointer (some ⟨rb, 0, none⟩)),
            Sp.k 27 (some 94) [23, 26] (.int .i64 FR),
            Sp.k 28 (some 95) [23, 25, 27] (.bool false),
            Sp.k 29 (some 96) [23, 28] (.bool false),
            Sp.k 30 (some 97) [29] (.bool false),
            Sp.k 31 (some 98) [30] (.pointer (some ⟨b, 0, none⟩)),
            Sp.k 32 (some 99) [30] (.int .i64 k),
            Sp.k 33 (some 100) [30, 31, 32] (.bool hk),
            Sp.k 34 (some 101) [30] (.pointer (some ⟨rb, 0, none⟩)),
            Sp.k 35 (some 102) [30] (.int .i64 k),
            Sp.k 36 (some 103) [30, 34, 35] (.bool hk),
            Sp.k 37 (some 104) [30, 33, 36] (.bool false),
            Sp.k 38 (some 105) [30, 37] (.bool false),
            Sp.k 39 (some 106) [38] (.bool false),
            Sp.k 40 (some 107) [39] (.pointer (some ⟨b, 0, none⟩)),
            Sp.k 41 (some 108) [39] (.int .i64 zf),
            Sp.k 42 (some 109) [39, 40, 41] (.bool hf),
            Sp.k 43 (some 110) [39] (.pointer (some ⟨rb, 0, none⟩)),
            Sp.k 44 (some 111) [39] (.int .i64 zf),
            Sp.k 45 (some 112) [39, 43, 44] (.bool hf),
            Sp.k 46 (some 113) [39, 42, 45] (.bool false),
            Sp.k 47 (some 114) [39, 46] (.bool false)] (by kernel_rfl)
            ⟨owes_move 0 (some 67) [] (.pointer (some ⟨b, 0, none⟩)) (Go.Operand.tmp 8) (fun v => by kernel_rfl) (fun v => by kernel_rfl),
            owes_call 1 (some 68) [0] (.int .i64 TR) 13 #[Go.Operand.tmp 67] #[25] (fun v => by kernel_rfl) (fun _ _ => by kernel_rfl) (fun v w' hb ho => by
                exact ⟨#[.pointer (some ⟨b, 0, none⟩)], by kernel_rfl, (HC1 w' hb).mono (fun _ _ h => h)⟩),
            owes_move 2 (some 69) [] (.pointer (some ⟨rb, 0, none⟩)) (Go.Operand.tmp 9) (fun v => by kernel_rfl) (fun v => by kernel_rfl),
            owes_call 3 (some 70) [2] (.int .i64 TR) 14 #[Go.Operand.tmp 69] #[27] (fun v => by kernel_rfl) (fun _ _ => by kernel_rfl) (fun v w' hb ho => by
                exact ⟨#[.pointer (some ⟨rb, 0, none⟩)], by kernel_rfl, (HC2 w' hb).mono (fun _ _ h => h)⟩),
            owes_bin 4 (some 71) [1, 3] (.bool false) Go.BinOp.neq 3 (Go.Operand.tmp 68) (Go.Operand.tmp 70) 3 (.int .i64 TR) (.int .i64 TR) (fun v => by kernel_rfl) (fun v => by kernel_rfl) (fun w => neqs_i64 _ _ _ _ w),
            owes_move 5 (some 72) [4] (.bool false) (Go.Operand.tmp 71) (fun v => by kernel_rfl) (fun v => by kernel_rfl),
            owes_move 6 (some 73) [5] (.pointer (some ⟨b, 0, none⟩)) (Go.Operand.tmp 8) (fun v => by kernel_rfl) (fun v => by kernel_rfl),
            owes_move 7 (some 74) [5] (.int .i64 zf) (Go.Operand.tmp 2) (fun v => by kernel_rfl) (fun v => by kernel_rfl),
            owes_call 8 (some 75) [5, 6, 7] (.int .i64 NF) 15 #[Go.Operand.tmp 73, Go.Operand.tmp 74] #[25, 3] (fun v => by kernel_rfl) (fun _ _ => by kernel_rfl) (fun v w' hb ho => by
                exact ⟨#[.pointer (some ⟨b, 0, none⟩), .int .i64 zf], by kernel_rfl, (HF1 w' hb).mono (fun _ _ h => h)⟩),
            owes_move 9 (some 76) [5] (.pointer (some ⟨rb, 0, none⟩)) (Go.Operand.tmp 9) (fun v => by kernel_rfl) (fun v => by kernel_rfl),
            owes_move 10 (some 77) [5] (.int .i64 zf) (Go.Operand.tmp 2) (fun v => by kernel_rfl) (fun v => by kernel_rfl),
            owes_call 11 (some 78) [5, 9, 10] (.int .i64 NF) 16 #[Go.Operand.tmp 76, Go.Operand.tmp 77] #[27, 3] (fun v => by kernel_rfl) (fun _ _ => by kernel_rfl) (fun v w' hb ho => by
                exact ⟨#[.pointer (some ⟨rb, 0, none⟩), .int .i64 zf], by kernel_rfl, (HF2 w' hb).mono (fun _ _ h => h)⟩),
            owes_bin 12 (some 79) [5, 8, 11] (.bool false) Go.BinOp.neq 3 (Go.Operand.tmp 75) (Go.Operand.tmp 78) 3 (.int .i64 NF) (.int .i64 NF) (fun v => by kernel_rfl) (fun v => by kernel_rfl) (fun w => neqs_i64 _ _ _ _ w),
            owes_pick 13 (some 80) [5, 12] (.bool false) (Go.Operand.tmp 72) (Go.Operand.const (Go.Value.bool true)) (Go.Operand.tmp 79) false (fun v => by kernel_rfl) (fun v => by kernel_rfl) (fun v => by kernel_rfl),
            owes_move 14 (some 81) [13] (.bool false) (Go.Operand.tmp 80) (fun v => by kernel_rfl) (fun v => by kernel_rfl),
            owes_move 15 (some 82) [14] (.pointer (some ⟨b, 0, none⟩)) (Go.Operand.tmp 8) (fun v => by kernel_rfl) (fun v => by kernel_rfl),
            owes_move 16 (some 83) [14] (.int .i64 k) (Go.Operand.tmp 10) (fun v => by kernel_rfl) (fun v => by kernel_rfl),
            owes_call 17 (some 84) [14, 15, 16] (.int .i64 NK) 15 #[Go.Operand.tmp 82, Go.Operand.tmp 83] #[25, 3] (fun v => by kernel_rfl) (fun _ _ => by kernel_rfl) (fun v w' hb ho => by
                exact ⟨#[.pointer (some ⟨b, 0, none⟩), .int .i64 k], by kernel_rfl, (HK1 w' hb).mono (fun _ _ h => h)⟩),
            owes_move 18 (some 85) [14] (.pointer (some ⟨rb, 0, none⟩)) (Go.Operand.tmp 9) (fun v => by kernel_rfl) (fun v => by kernel_rfl),
            owes_move 19 (some 86) [14] (.int .i64 k) (Go.Operand.tmp 10) (fun v => by kernel_rfl) (fun v => by kernel_rfl),
            owes_call 20 (some 87) [14, 18, 19] (.int .i64 NK) 16 #[Go.Operand.tmp 85, Go.Operand.tmp 86] #[27, 3] (fun v => by kernel_rfl) (fun _ _ => by kernel_rfl) (fun v w' hb ho => by
                exact ⟨#[.pointer (some ⟨rb, 0, none⟩), .int .i64 k], by kernel_rfl, (HK2 w' hb).mono (fun _ _ h => h)⟩),
            owes_bin 21 (some 88) [14, 17, 20] (.bool false) Go.BinOp.neq 3 (Go.Operand.tmp 84) (Go.Operand.tmp 87) 3 (.int .i64 NK) (.int .i64 NK) (fun v => by kernel_rfl) (fun v => by kernel_rfl) (fun w => neqs_i64 _ _ _ _ w),
            owes_pick 22 (some 89) [14, 21] (.bool false) (Go.Operand.tmp 81) (Go.Operand.const (Go.Value.bool true)) (Go.Operand.tmp 88) false (fun v => by kernel_rfl) (fun v => by kernel_rfl) (fun v => by kernel_rfl),
            owes_move 23 (some 90) [22] (.bool false) (Go.Operand.tmp 89) (fun v => by kernel_rfl) (fun v => by kernel_rfl),
            owes_move 24 (some 91) [23] (.pointer (some ⟨b, 0, none⟩)) (Go.Operand.tmp 8) (fun v => by kernel_rfl) (fun v => by kernel_rfl),
            owes_call 25 (some 92) [23, 24] (.int .i64 FR) 17 #[Go.Operand.tmp 91] #[25] (fun v => by kernel_rfl) (fun _ _ => by kernel_rfl) (fun v w' hb ho => by
                exact ⟨#[.pointer (some ⟨b, 0, none⟩)], by kernel_rfl, (HR1 w' hb).mono (fun _ _ h => h)⟩),
            owes_move 26 (some 93) [23] (.pointer (some ⟨rb, 0, none⟩)) (Go.Operand.tmp 9) (fun v => by kernel_rfl) (fun v => by kernel_rfl),
            owes_call 27 (some 94) [23, 26] (.int .i64 FR) 18 #[Go.Operand.tmp 93] #[27] (fun v => by kernel_rfl) (fun _ _ => by kernel_rfl) (fun v w' hb ho => by
                exact ⟨#[.pointer (some ⟨rb, 0, none⟩)], by kernel_rfl, (HR2 w' hb).mono (fun _ _ h => h)⟩),
            owes_bin 28 (some 95) [23, 25, 27] (.bool false) Go.BinOp.neq 3 (Go.Operand.tmp 92) (Go.Operand.tmp 94) 3 (.int .i64 FR) (.int .i64 FR) (fun v => by kernel_rfl) (fun v => by kernel_rfl) (fun w => neqs_i64 _ _ _ _ w),
            owes_pick 29 (some 96) [23, 28] (.bool false) (Go.Operand.tmp 90) (Go.Operand.const (Go.Value.bool true)) (Go.Operand.tmp 95) false (fun v => by kernel_rfl) (fun v => by kernel_rfl) (fun v => by kernel_rfl),
            owes_move 30 (some 97) [29] (.bool false) (Go.Operand.tmp 96) (fun v => by kernel_rfl) (fun v => by kernel_rfl),
            owes_move 31 (some 98) [30] (.pointer (some ⟨b, 0, none⟩)) (Go.Operand.tmp 8) (fun v => by kernel_rfl) (fun v => by kernel_rfl),
            owes_move 32 (some 99) [30] (.int .i64 k) (Go.Operand.tmp 10) (fun v => by kernel_rfl) (fun v => by kernel_rfl),
            owes_call 33 (some 100) [30, 31, 32] (.bool hk) 19 #[Go.Operand.tmp 98, Go.Operand.tmp 99] #[25, 3] (fun v => by kernel_rfl) (fun _ _ => by kernel_rfl) (fun v w' hb ho => by
                exact ⟨#[.pointer (some ⟨b, 0, none⟩), .int .i64 k], by kernel_rfl, (HH1 w' hb).mono (fun _ _ h => h)⟩),
            owes_move 34 (some 101) [30] (.pointer (some ⟨rb, 0, none⟩)) (Go.Operand.tmp 9) (fun v => by kernel_rfl) (fun v => by kernel_rfl),
            owes_move 35 (some 102) [30] (.int .i64 k) (Go.Operand.tmp 10) (fun v => by kernel_rfl) (fun v => by kernel_rfl),
            owes_call 36 (some 103) [30, 34, 35] (.bool hk) 20 #[Go.Operand.tmp 101, Go.Operand.tmp 102] #[27, 3] (fun v => by kernel_rfl) (fun _ _ => by kernel_rfl) (fun v w' hb ho => by
                exact ⟨#[.pointer (some ⟨rb, 0, none⟩), .int .i64 k], by kernel_rfl, (HH2 w' hb).mono (fun _ _ h => h)⟩),
            owes_bin 37 (some 104) [30, 33, 36] (.bool false) Go.BinOp.neq 4 (Go.Operand.tmp 100) (Go.Operand.tmp 103) 4 (.bool hk) (.bool hk) (fun v => by kernel_rfl) (fun v => by kernel_rfl) (fun w => neqs_bool _ _ _ w),
            owes_pick 38 (some 105) [30, 37] (.bool false) (Go.Operand.tmp 97) (Go.Operand.const (Go.Value.bool true)) (Go.Operand.tmp 104) false (fun v => by kernel_rfl) (fun v => by kernel_rfl) (fun v => by kernel_rfl),
            owes_move 39 (some 106) [38] (.bool false) (Go.Operand.tmp 105) (fun v => by kernel_rfl) (fun v => by kernel_rfl),
            owes_move 40 (some 107) [39] (.pointer (some ⟨b, 0, none⟩)) (Go.Operand.tmp 8) (fun v => by kernel_rfl) (fun v => by kernel_rfl),
            owes_move 41 (some 108) [39] (.int .i64 zf) (Go.Operand.tmp 2) (fun v => by kernel_rfl) (fun v => by kernel_rfl),
            owes_call 42 (some 109) [39, 40, 41] (.bool hf) 19 #[Go.Operand.tmp 107, Go.Operand.tmp 108] #[25, 3] (fun v => by kernel_rfl) (fun _ _ => by kernel_rfl) (fun v w' hb ho => by
                exact ⟨#[.pointer (some ⟨b, 0, none⟩), .int .i64 zf], by kernel_rfl, (HG1 w' hb).mono (fun _ _ h => h)⟩),
            owes_move 43 (some 110) [39] (.pointer (some ⟨rb, 0, none⟩)) (Go.Operand.tmp 9) (fun v => by kernel_rfl) (fun v => by kernel_rfl),
            owes_move 44 (some 111) [39] (.int .i64 zf) (Go.Operand.tmp 2) (fun v => by kernel_rfl) (fun v => by kernel_rfl),
            owes_call 45 (some 112) [39, 43, 44] (.bool hf) 20 #[Go.Operand.tmp 110, Go.Operand.tmp 111] #[27, 3] (fun v => by kernel_rfl) (fun _ _ => by kernel_rfl) (fun v w' hb ho => by
                exact ⟨#[.pointer (some ⟨rb, 0, none⟩), .int .i64 zf], by kernel_rfl, (HG2 w' hb).mono (fun _ _ h => h)⟩),
            owes_bin 46 (some 113) [39, 42, 45] (.bool false) Go.BinOp.neq 4 (Go.Operand.tmp 109) (Go.Operand.tmp 112) 4 (.bool hf) (.bool hf) (fun v => by kernel_rfl) (fun v => by kernel_rfl) (fun w => neqs_bool _ _ _ w),
            owes_pick 47 (some 114) [39, 46] (.bool false) (Go.Operand.tmp 106) (Go.Operand.const (Go.Value.bool true)) (Go.Operand.tmp 113) false (fun v => by kernel_rfl) (fun v => by kernel_rfl) (fun v => by kernel_rfl), trivial⟩ ?_
          intro v W' hb' hall
          clear hall HC1 HC2 HF1 HF2 HK1 HK2 HR1 HR2 HH1 HH2 HG1 HG2
          replace x := x.next hb'
          clear hb'
          simp only [putsL_k, putsL_nil, List.set_cons_zero, List.set_cons_succ]
          go_wp2_with fail
          go_roundw
          case rel => exact ⟨k + 1, l2, by go_num, by omega, HL2, x⟩
          case measure => simp [intOf]; omega
      · have hlt' : decide (k ≤ xs.length) = false := by simpa using hlt
        have hmb := mbytes_any b a l wr x.m
        rw [HNL.out] at hmb
        have hN1000 : N ≤ 1000 := by rw [HN.out]; exact sizeN_le z
        obtain ⟨L, hL⟩ : ∃ L, L = (N + 7) / 8 := ⟨_, rfl⟩
        rw [← hL] at hmb
        have hL8 : L ≤ 200 := by omega
        have HL8 := Lib.hid hL; clear hL
        go_wp2_with fail
        refine hmb.mono ?_
        rintro e W3 ⟨G, rfl, hrow, hGw, hb3⟩
        replace x := x.next hb3
        clear hmb hb3 hGw
        obtain ⟨bs, hbs⟩ : ∃ bs : List (BitVec 8), bs = (List.range L).map (byteAt l N) := ⟨_, rfl⟩
        have HBL : bs.length = L := by rw [hbs]; simp
        have HBG : Hid (∀ q, q < L → byteAt l N q = bs.getD q 0#8) := Lib.hid (fun q hq => by rw [hbs]; simp [hq])
        have HRB0 : Hid (readOf bs N (8 * bs.length) = l ∧ NoMore bs N) := Lib.hid (by
          have h := read_bytes l bs (by rw [HBL, HNL.out]; exact HL8.out) (fun q hq => by rw [HNL.out]; exact (HBG.out q (by rw [← HBL]; exact hq)).symm)
          rwa [HNL.out] at h)
        clear hbs
        have hG : SlRead W3 (some ⟨G, 0, none⟩) (ints .u8 (bys bs)) := SlRead.of_bytes hrow HBL fun q hq => HBG.out q hq
        rw [← HBL]
        have HLB := Lib.hid HBL
        have hbl : bs.length ≤ 200 := by omega
        clear HBL hrow
        have hof := of_form E z bs (some ⟨G, 0, none⟩) bs.length W3 (hE0.below x.bel) hG (by omega)
        go_wp2_with fail
        refine hof.mono ?_
        intro e W hp
        clear hof
        rcases Or.symm hp with ⟨q3, _, _⟩ | ⟨q1, q2, b2, a2, rfl, hm2, hbd, _, _⟩
        · exact absurd (by rw [← HN.out]; exact ⟨HLB.out.trans HL8.out, HRB0.out.2⟩) q3
        clear hp q1 q2
        rw [← HN.out, HRB0.out.1] at hm2
        replace x := x.next hbd
        replace hG := hG.below hbd
        clear hbd
        have hbytes : ∀ (b a : Nat) w', IsMap w' b a l → Calls Tryd.prog 21 #[.pointer (some ⟨b, 0, none⟩)] w' fun e w'' => (∃ g, e = .returned (.slice (some ⟨g, 0, none⟩) bs.length bs.length) ∧ SlRead w'' (some ⟨g, 0, none⟩) (ints .u8 (bys bs))) ∧ Below w'.heap.size w' w'' := fun b a w' hm => by
          refine (mbytes_any b a l w' hm).mono ?_
          rintro e w'' ⟨g, rfl, hrow, _, hb2⟩
          rw [HNL.out, ← HL8.out] at hrow ⊢
          rw [← HLB.out] at hrow ⊢
          exact ⟨⟨g, rfl, SlRead.of_bytes hrow rfl fun q hq => HBG.out q (by rw [← HLB.out]; exact hq)⟩, hb2⟩
        have HRB : ∀ w', Below W.heap.size W w' → Calls Tryd.prog 24 #[.pointer (some ⟨rb, 0, none⟩)] w' fun e w'' => (∃ g, e = .returned (.slice (some ⟨g, 0, none⟩) bs.length bs.length) ∧ SlRead w'' (some ⟨g, 0, none⟩) (ints .u8 (bys bs))) ∧ Below w'.heap.size w' w'' := fun w' hb => by
          refine (rbytes_any rb ra l w' (x.next hb).r).mono ?_
          rintro e w'' ⟨g, rfl, hrow, _, hb2⟩
          rw [HNL.out, ← HL8.out] at hrow ⊢
          rw [← HLB.out] at hrow ⊢
          exact ⟨⟨g, rfl, SlRead.of_bytes hrow rfl fun q hq => HBG.out q (by rw [← HLB.out]; exact hq)⟩, hb2⟩
        have HMB := fun w' (hb : Below W.heap.size W w') => hbytes b2 a2 w' (hm2.below' hb)
        have same : ∀ g h w', SlRead w' (some ⟨g, 0, none⟩) (ints .u8 (bys bs)) → SlRead w' (some ⟨h, 0, none⟩) (ints .u8 (bys bs)) → Calls Tryd.prog 23 #[.slice (some ⟨g, 0, none⟩) bs.length bs.length, .slice (some ⟨h, 0, none⟩) bs.length bs.length] w' fun e w'' => e = .returned (.bool true) ∧ Below w'.heap.size w' w'' := fun g h w' hg hh => by
          have h := quiet_below (sameBytes_any (some ⟨g, 0, none⟩) (some ⟨h, 0, none⟩) (bys bs) (bys bs) bs.length bs.length w' hg hh (by simp [bys]; omega) (by simp [bys]; omega))
          simpa [bys] using h
        have HS1 := fun w' (hb : Below W.heap.size W w') g (hg : SlRead w' (some ⟨g, 0, none⟩) (ints .u8 (bys bs))) => same G g w' (hG.below hb) hg
        have HS2 := fun w' (hb : Below W.heap.size W w') g (hg : SlRead w' (some ⟨g, 0, none⟩) (ints .u8 (bys bs))) => same g G w' hg (hG.below hb)
        have HC1 := fun w' (hb : Below W.heap.size W w') => quiet_below (count_any b2 a2 l w' (hm2.below' hb))
        have HC2 := fun w' (hb : Below W.heap.size W w') => quiet_below (rcount_any rb ra l w' (x.next hb).r)
        generalize ((trues l : Nat) : Int) = TR at HC1 HC2
        clear hbytes same hm2 hG
        go_upto_region 21 with (fail)
        refine wp_region_text [Sp.k 0 (some 123) [] (.bool true),
          Sp.k 1 (some 124) [0] (.bool true),
          Sp.k 2 (some 125) [1] (.slice (some ⟨G, 0, none⟩) bs.length bs.length),
          Sp.k 3 (some 126) [1] (.pointer (some ⟨rb, 0, none⟩)),
          Sp.o 4 (some 127) [1, 3] (SlVB (ints .u8 (bys bs)) bs.length),
          Sp.k 5 (some 128) [1, 2, 4] (.bool true),
          Sp.k 6 (some 129) [1, 5] (.bool true),
          Sp.k 7 (some 130) [6] (.bool true),
          Sp.k 8 (some 131) [7] (.nilIface),
          Sp.k 9 (some 132) [7, 8] (.bool true),
          Sp.k 10 (some 133) [7, 9] (.bool true),
          Sp.k 11 (some 134) [10] (.bool true),
          Sp.k 12 (some 135) [11] (.pointer (some ⟨b2, 0, none⟩)),
          Sp.k 13 (some 136) [11, 12] (.bool true),
          Sp.k 14 (some 137) [11, 13] (.bool true),
          Sp.k 15 (some 138) [14] (.bool true),
          Sp.k 16 (some 139) [15] (.pointer (some ⟨b2, 0, none⟩)),
          Sp.o 17 (some 140) [15, 16] (SlVB (ints .u8 (bys bs)) bs.length),
          Sp.k 18 (some 141) [15] (.slice (some ⟨G, 0, none⟩) bs.length bs.length),
          Sp.k 19 (some 142) [15, 17, 18] (.bool true),
          Sp.k 20 (some 143) [15, 19] (.bool true),
          Sp.k 21 (some 144) [20] (.bool true),
          Sp.k 22 (some 145) [21] (.pointer (some ⟨b2, 0, none⟩)),
          Sp.k 23 (some 146) [21, 22] (.int .i64 TR),
          Sp.k 24 (some 147) [21] (.pointer (some ⟨rb, 0, none⟩)),
          Sp.k 25 (some 148) [21, 24] (.int .i64 TR),
          Sp.k 26 (some 149) [21, 23, 25] (.bool true),
          Sp.k 27 (some 150) [21, 26] (.bool true),
          Sp.k 28 (some 6) [27] (.bool true)] (by kernel_rfl)
          ⟨owes_move 0 (some 123) [] (.bool true) (Go.Operand.tmp 7) (fun v => by kernel_rfl) (fun v => by kernel_rfl),
          owes_move 1 (some 124) [0] (.bool true) (Go.Operand.tmp 123) (fun v => by kernel_rfl) (fun v => by kernel_rfl),
          owes_move 2 (some 125) [1] (.slice (some ⟨G, 0, none⟩) bs.length bs.length) (Go.Operand.tmp 11) (fun v => by kernel_rfl) (fun v => by kernel_rfl),
          owes_move 3 (some 126) [1] (.pointer (some ⟨rb, 0, none⟩)) (Go.Operand.tmp 9) (fun v => by kernel_rfl) (fun v => by kernel_rfl),
          owes_call_o 4 (some 127) [1, 3] (SlVB (ints .u8 (bys bs)) bs.length) 24 #[Go.Operand.tmp 126] #[27] (fun v => by kernel_rfl) (fun _ _ => by kernel_rfl) SlVB.mono (fun v w' hb ho => by
              exact ⟨#[.pointer (some ⟨rb, 0, none⟩)], by kernel_rfl, (HRB w' hb).mono (fun e w1 ⟨⟨g, h1, h2⟩, h3⟩ => ⟨_, h1, h3, g, rfl, h2⟩)⟩),
          owes_call 5 (some 128) [1, 2, 4] (.bool true) 23 #[Go.Operand.tmp 125, Go.Operand.tmp 127] #[35, 35] (fun v => by kernel_rfl) (fun _ _ => by kernel_rfl) (fun v w' hb ho => by
              obtain ⟨g4, e4, r4⟩ := ho.get 4 _ _ (SlVB (ints .u8 (bys bs)) bs.length) rfl rfl
              exact ⟨#[.slice (some ⟨G, 0, none⟩) bs.length bs.length, .slice (some ⟨g4, 0, none⟩) bs.length bs.length], Eq.trans (b := #[.slice (some ⟨G, 0, none⟩) bs.length bs.length, v 4]) (by kernel_rfl) (by rw [e4]), (HS1 w' hb _ r4).mono (fun _ _ h => h)⟩),
          owes_pick 6 (some 129) [1, 5] (.bool true) (Go.Operand.tmp 124) (Go.Operand.tmp 128) (Go.Operand.const (Go.Value.bool false)) true (fun v => by kernel_rfl) (fun v => by kernel_rfl) (fun v => by kernel_rfl),
          owes_move 7 (some 130) [6] (.bool true) (Go.Operand.tmp 129) (fun v => by kernel_rfl) (fun v => by kernel_rfl),
          owes_move 8 (some 131) [7] (.nilIface) (Go.Operand.tmp 13) (fun v => by kernel_rfl) (fun v => by kernel_rfl),
          owes_bin 9 (some 132) [7, 8] (.bool true) Go.BinOp.eql 38 (Go.Operand.tmp 131) (Go.Operand.const Go.Value.nilIface) 38 (.nilIface) (Go.Value.nilIface) (fun v => by kernel_rfl) (fun v => by kernel_rfl) (fun w => by kernel_rfl),
          owes_pick 10 (some 133) [7, 9] (.bool true) (Go.Operand.tmp 130) (Go.Operand.tmp 132) (Go.Operand.const (Go.Value.bool false)) true (fun v => by kernel_rfl) (fun v => by kernel_rfl) (fun v => by kernel_rfl),
          owes_move 11 (some 134) [10] (.bool true) (Go.Operand.tmp 133) (fun v => by kernel_rfl) (fun v => by kernel_rfl),
          owes_move 12 (some 135) [11] (.pointer (some ⟨b2, 0, none⟩)) (Go.Operand.tmp 12) (fun v => by kernel_rfl) (fun v => by kernel_rfl),
          owes_bin 13 (some 136) [11, 12] (.bool true) Go.BinOp.neq 25 (Go.Operand.tmp 135) (Go.Operand.const (Go.Value.pointer none)) 25 (.pointer (some ⟨b2, 0, none⟩)) (Go.Value.pointer none) (fun v => by kernel_rfl) (fun v => by kernel_rfl) (fun w => by kernel_rfl),
          owes_pick 14 (some 137) [11, 13] (.bool true) (Go.Operand.tmp 134) (Go.Operand.tmp 136) (Go.Operand.const (Go.Value.bool false)) true (fun v => by kernel_rfl) (fun v => by kernel_rfl) (fun v => by kernel_rfl),
          owes_move 15 (some 138) [14] (.bool true) (Go.Operand.tmp 137) (fun v => by kernel_rfl) (fun v => by kernel_rfl),
          owes_move 16 (some 139) [15] (.pointer (some ⟨b2, 0, none⟩)) (Go.Operand.tmp 12) (fun v => by kernel_rfl) (fun v => by kernel_rfl),
          owes_call_o 17 (some 140) [15, 16] (SlVB (ints .u8 (bys bs)) bs.length) 21 #[Go.Operand.tmp 139] #[25] (fun v => by kernel_rfl) (fun _ _ => by kernel_rfl) SlVB.mono (fun v w' hb ho => by
              exact ⟨#[.pointer (some ⟨b2, 0, none⟩)], by kernel_rfl, (HMB w' hb).mono (fun e w1 ⟨⟨g, h1, h2⟩, h3⟩ => ⟨_, h1, h3, g, rfl, h2⟩)⟩),
          owes_move 18 (some 141) [15] (.slice (some ⟨G, 0, none⟩) bs.length bs.length) (Go.Operand.tmp 11) (fun v => by kernel_rfl) (fun v => by kernel_rfl),
          owes_call 19 (some 142) [15, 17, 18] (.bool true) 23 #[Go.Operand.tmp 140, Go.Operand.tmp 141] #[35, 35] (fun v => by kernel_rfl) (fun _ _ => by kernel_rfl) (fun v w' hb ho => by
              obtain ⟨g17, e17, r17⟩ := ho.get 17 _ _ (SlVB (ints .u8 (bys bs)) bs.length) rfl rfl
              exact ⟨#[.slice (some ⟨g17, 0, none⟩) bs.length bs.length, .slice (some ⟨G, 0, none⟩) bs.length bs.length], Eq.trans (b := #[v 17, .slice (some ⟨G, 0, none⟩) bs.length bs.length]) (by kernel_rfl) (by rw [e17]), (HS2 w' hb _ r17).mono (fun _ _ h => h)⟩),
          owes_pick 20 (some 143) [15, 19] (.bool true) (Go.Operand.tmp 138) (Go.Operand.tmp 142) (Go.Operand.const (Go.Value.bool false)) true (fun v => by kernel_rfl) (fun v => by kernel_rfl) (fun v => by kernel_rfl),
          owes_move 21 (some 144) [20] (.bool true) (Go.Operand.tmp 143) (fun v => by kernel_rfl) (fun v => by kernel_rfl),
          owes_move 22 (some 145) [21] (.pointer (some ⟨b2, 0, none⟩)) (Go.Operand.tmp 12) (fun v => by kernel_rfl) (fun v => by kernel_rfl),
          owes_call 23 (some 146) [21, 22] (.int .i64 TR) 13 #[Go.Operand.tmp 145] #[25] (fun v => by kernel_rfl) (fun _ _ => by kernel_rfl) (fun v w' hb ho => by
              exact ⟨#[.pointer (some ⟨b2, 0, none⟩)], by kernel_rfl, (HC1 w' hb).mono (fun _ _ h => h)⟩),
          owes_move 24 (some 147) [21] (.pointer (some ⟨rb, 0, none⟩)) (Go.Operand.tmp 9) (fun v => by kernel_rfl) (fun v => by kernel_rfl),
          owes_call 25 (some 148) [21, 24] (.int .i64 TR) 14 #[Go.Operand.tmp 147] #[27] (fun v => by kernel_rfl) (fun _ _ => by kernel_rfl) (fun v w' hb ho => by
              exact ⟨#[.pointer (some ⟨rb, 0, none⟩)], by kernel_rfl, (HC2 w' hb).mono (fun _ _ h => h)⟩),
          owes_bin 26 (some 149) [21, 23, 25] (.bool true) Go.BinOp.eql 3 (Go.Operand.tmp 146) (Go.Operand.tmp 148) 3 (.int .i64 TR) (.int .i64 TR) (fun v => by kernel_rfl) (fun v => by kernel_rfl) (fun w => eqs_i64 _ _ _ _ w),
          owes_pick 27 (some 150) [21, 26] (.bool true) (Go.Operand.tmp 144) (Go.Operand.tmp 149) (Go.Operand.const (Go.Value.bool false)) true (fun v => by kernel_rfl) (fun v => by kernel_rfl) (fun v => by kernel_rfl),
          owes_assign 28 (some 6) [27] (.bool true) (Go.Operand.tmp 150) (fun v => by kernel_rfl) (fun v => by kernel_rfl), trivial⟩ ?_
        intro v w' hb' hall
        clear hall HC1 HC2 HMB HRB HS1 HS2
        have hbb := below_tr x.bel hb'
        clear hb' x
        simp only [putsL_k, putsL_o, putsL_nil, List.set_cons_zero, List.set_cons_succ]
        go_wp2_with fail
        go_ret
        exact ⟨rfl, hbb⟩
  · clear d1
    go_upto_region 8 with (fail)
    clear d6
    obtain ⟨z, hz⟩ : ∃ z, z = zn := ⟨_, rfl⟩
    rw [← hz]
    clear hz
    go_wp2_with fail
    refine (newz_any z W1).mono ?_
    rintro e W2 ⟨b, a, rfl, hm, hb2, ha, hb⟩
    replace ha := Nat.le_trans hb1.size ha
    replace hb := Nat.le_trans hb1.size hb
    replace hb1 := below_tr hb1 hb2
    clear hb2
    go_wp2_with fail
    refine (rnewz_any z W2).mono ?_
    rintro e W3 ⟨rb, ra, rfl, hr, hb2, hra, hrb⟩
    have x : PlS w b a rb ra (List.replicate (sizeN z) false) W3 := ⟨below_tr hb1 hb2, hm.below' hb2, hr, ha, hb, by have := hm.row.lt; omega, by have := hm.st.lt; omega, by have := hm.row.lt; omega, by have := hm.st.lt; omega⟩
    clear hm hr hb1 hb2 ha hb hra hrb
    obtain ⟨N, hN⟩ : ∃ N, N = sizeN z := ⟨_, rfl⟩
    have HSZ : ∀ w', Below W3.heap.size W3 w' → Calls Tryd.prog 10 #[.pointer (some ⟨b, 0, none⟩)] w' fun e w'' => e = .returned (.int .i64 (N : Nat)) ∧ Below w'.heap.size w' w'' := fun w' hb => by
      have h := quiet_below (size_any b a _ w' (x.next hb).m)
      rwa [List.length_replicate, ← hN] at h
    have HR0 : ∀ w', Below W3.heap.size W3 w' → w'.cell? ⟨rb, 0, none⟩ = some (.slice (some ⟨ra, 0, none⟩) N N) := fun w' hb => by
      have h := (x.next hb).r.h0
      rwa [List.length_replicate, ← hN] at h
    have hl0 : (List.replicate (sizeN z) false).length = N := by rw [List.length_replicate, hN]
    obtain ⟨l0, hl00⟩ : ∃ l0, l0 = List.replicate (sizeN z) false := ⟨_, rfl⟩
    rw [← hl00] at x hl0
    have HN := Lib.hid hN; have HL0 := Lib.hid hl0
    clear hN hl0 hl00
    go_upto_region 10 with (fail)
    refine wp_region_spec [Sp.k 0 (some 30) [] (.pointer (some ⟨b, 0, none⟩)),
      Sp.k 1 (some 31) [0] (.bool false),
      Sp.k 2 (some 32) [1] (.bool false),
      Sp.k 3 (some 33) [2] (.pointer (some ⟨b, 0, none⟩)),
      Sp.k 4 (some 34) [2, 3] (.int .i64 N),
      Sp.k 5 (some 35) [2] (.pointer (some ⟨rb, 0, none⟩)),
      Sp.k 6 (some 36) [2, 5] (.pointer (some ⟨rb, 0, none⟩)),
      Sp.k 7 (some 37) [2, 6] (.pointer (some ⟨rb, 0, none⟩)),
      Sp.k 8 (some 38) [2, 7] (.slice (some ⟨ra, 0, none⟩) N N),
      Sp.k 9 (some 39) [2, 8] (.int .i64 N),
      Sp.k 10 (some 40) [2, 4, 9] (.bool false),
      Sp.k 11 (some 41) [2, 10] (.bool false)] (by kernel_rfl) (by kernel_rfl)
      ⟨owes_move 0 (some 30) [] (.pointer (some ⟨b, 0, none⟩)) (Go.Operand.tmp 8) (fun v => by kernel_rfl) (fun v => by kernel_rfl),
      owes_bin 1 (some 31) [0] (.bool false) Go.BinOp.eql 25 (Go.Operand.tmp 30) (Go.Operand.const (Go.Value.pointer none)) 25 (.pointer (some ⟨b, 0, none⟩)) (Go.Value.pointer none) (fun v => by kernel_rfl) (fun v => by kernel_rfl) (fun w => by kernel_rfl),
      owes_move 2 (some 32) [1] (.bool false) (Go.Operand.tmp 31) (fun v => by kernel_rfl) (fun v => by kernel_rfl),
      owes_move 3 (some 33) [2] (.pointer (some ⟨b, 0, none⟩)) (Go.Operand.tmp 8) (fun v => by kernel_rfl) (fun v => by kernel_rfl),
      owes_call 4 (some 34) [2, 3] (.int .i64 N) 10 #[Go.Operand.tmp 33] #[25] (fun v => by kernel_rfl) (fun _ _ => by kernel_rfl) (fun v w' hb ho => by
          exact ⟨#[.pointer (some ⟨b, 0, none⟩)], by kernel_rfl, (HSZ w' (drB hb)).mono (fun _ _ h => h)⟩),
      owes_move 5 (some 35) [2] (.pointer (some ⟨rb, 0, none⟩)) (Go.Operand.tmp 9) (fun v => by kernel_rfl) (fun v => by kernel_rfl),
      owes_nil 6 (some 36) [2, 5] (Go.Operand.tmp 35) _ (fun v => by kernel_rfl) (fun v => by kernel_rfl),
      owes_field 7 (some 37) [2, 6] (.pointer (some ⟨rb, 0, none⟩)) 32 (Go.Operand.tmp 36) 0 (.pointer (some ⟨rb, 0, none⟩)) (fun v => by kernel_rfl) (fun v => by kernel_rfl) (fun w => by kernel_rfl),
      owes_load 8 (some 38) [2, 7] (.slice (some ⟨ra, 0, none⟩) N N) 30 (Go.Operand.tmp 37) (.pointer (some ⟨rb, 0, none⟩)) (fun v => by kernel_rfl) (fun v => by kernel_rfl) (fun w' hb => load_slB _ _ w' (HR0 w' (drB hb))),
      owes_lenB 9 (some 39) [2, 8] (.int .i64 N) (.tmp 38) 30 3 (.slice (some ⟨ra, 0, none⟩) N N) (fun v => by kernel_rfl) (by kernel_rfl) (fun v => by kernel_rfl) (fun w => by kernel_rfl),
      owes_bin 10 (some 40) [2, 4, 9] (.bool false) Go.BinOp.neq 3 (Go.Operand.tmp 34) (Go.Operand.tmp 39) 3 (.int .i64 N) (.int .i64 N) (fun v => by kernel_rfl) (fun v => by kernel_rfl) (fun w => neqs_i64 _ _ _ _ w),
      owes_pick 11 (some 41) [2, 10] (.bool false) (Go.Operand.tmp 32) (Go.Operand.const (Go.Value.bool true)) (Go.Operand.tmp 40) false (fun v => by kernel_rfl) (fun v => by kernel_rfl) (fun v => by kernel_rfl), trivial⟩ ?_
    intro v W4 hb' hall
    clear hall HSZ HR0
    replace x := x.next (drB hb')
    clear hb'
    simp only [putsL_k, putsL_nil, List.set_cons_zero, List.set_cons_succ]
    go_wp2_with fail
    go_loopw [10] (fun p wr => ∃ (k : Nat) (l : List Bool), p = .int .i64 k ∧ k ≤ xs.length + 1 ∧ Hid (l.length = N) ∧ PlS w b a rb ra l wr) (fun p _ => xs.length + 1 - (intOf p).toNat)
    case atStart => exact ⟨0, _, rfl, by omega, HL0, x⟩
    clear x HL0
    clear l0
    case round =>
      obtain ⟨k, l, rfl, hk, HNL, x⟩ := hrel
      by_cases hlt : k ≤ xs.length
      · have hlt' : decide (k ≤ xs.length) = true := by simpa using hlt
        go_upto_region 15 with (fail)
        refine region_cutG (fun a_ a' w' => ∃ w0 w1 w2 w3 w4 w5 w6 w7 w8 w9 w10 w11 w12 w13 w14 w15 w16 w17 l2, a' = (((((((((((((((((((a_.put (some 48) (w0)).put (some 49) (w1)).put (some 50) (w2)).put (some 51) (w3)).put (some 52) (w4)).put (some 53) (w5)).put (some 54) (w6)).put (some 55) (w7)).put (some 56) (w8)).put (some 57) (w9)).put (some 58) (w10)).put (some 59) (w11)).put (some 60) (w12)).put (some 61) (w13)).put (some 62) (w14)).put (some 63) (w15)).put (some 64) (w16)).put (some 65) (w17)).put (some 66) (.bool false)) ∧ l2.length = N ∧ PlS w b a rb ra l2 w') ?_ ?_
        · by_cases hk0 : k = 0
          · subst hk0
            refine wp_region_spec [Sp.k 0 (some 48) [] (.int .i64 ((0 : Nat) : Int)),
              Sp.k 1 (some 49) [0] (.bool false),
              Sp.k 2 (some 50) [1] (.bool false),
              Sp.k 3 (some 51) [2] (undef),
              Sp.k 4 (some 52) [2] (undef),
              Sp.k 5 (some 53) [2] (undef),
              Sp.k 6 (some 54) [2, 5] (undef),
              Sp.k 7 (some 55) [2, 4, 6] (undef),
              Sp.k 8 (some 56) [2, 7] (undef),
              Sp.k 9 (some 57) [2, 3, 8] (undef),
              Sp.k 10 (some 58) [2] (undef),
              Sp.k 11 (some 59) [2] (undef),
              Sp.k 12 (some 60) [2] (undef),
              Sp.k 13 (some 61) [2, 12] (undef),
              Sp.k 14 (some 62) [2, 11, 13] (undef),
              Sp.k 15 (some 63) [2, 14] (undef),
              Sp.k 16 (some 64) [2, 10, 15] (undef),
              Sp.k 17 (some 65) [2, 9, 16] (undef),
              Sp.k 18 (some 66) [2, 17] (Go.Value.bool false)] (by kernel_rfl) (by kernel_rfl)
              ⟨owes_move 0 (some 48) [] (.int .i64 ((0 : Nat) : Int)) (Go.Operand.tmp 10) (fun v => by kernel_rfl) (fun v => by kernel_rfl),
              owes_bin 1 (some 49) [0] (.bool false) Go.BinOp.gtr 3 (Go.Operand.tmp 48) (Go.Operand.const (Go.Value.int Go.IntKind.i64 0)) 3 (.int .i64 ((0 : Nat) : Int)) (Go.Value.int Go.IntKind.i64 0) (fun v => by kernel_rfl) (fun v => by kernel_rfl) (fun w => by kernel_rfl),
              owes_move 2 (some 50) [1] (.bool false) (Go.Operand.tmp 49) (fun v => by kernel_rfl) (fun v => by kernel_rfl),
              owes_skip 3 (some 51) [2] (fun v => by kernel_rfl),
              owes_skip 4 (some 52) [2] (fun v => by kernel_rfl),
              owes_skip 5 (some 53) [2] (fun v => by kernel_rfl),
              owes_skip 6 (some 54) [2, 5] (fun v => by kernel_rfl),
              owes_skip 7 (some 55) [2, 4, 6] (fun v => by kernel_rfl),
              owes_skip 8 (some 56) [2, 7] (fun v => by kernel_rfl),
              owes_skip 9 (some 57) [2, 3, 8] (fun v => by kernel_rfl),
              owes_skip 10 (some 58) [2] (fun v => by kernel_rfl),
              owes_skip 11 (some 59) [2] (fun v => by kernel_rfl),
              owes_skip 12 (some 60) [2] (fun v => by kernel_rfl),
              owes_skip 13 (some 61) [2, 12] (fun v => by kernel_rfl),
              owes_skip 14 (some 62) [2, 11, 13] (fun v => by kernel_rfl),
              owes_skip 15 (some 63) [2, 14] (fun v => by kernel_rfl),
              owes_skip 16 (some 64) [2, 10, 15] (fun v => by kernel_rfl),
              owes_skip 17 (some 65) [2, 9, 16] (fun v => by kernel_rfl),
              owes_pick 18 (some 66) [2, 17] (Go.Value.bool false) (Go.Operand.tmp 50) (Go.Operand.tmp 65) (Go.Operand.const (Go.Value.bool false)) false (fun v => by kernel_rfl) (fun v => by kernel_rfl) (fun v => by kernel_rfl), trivial⟩ ?_
            intro v w' hb' hall
            exact ⟨rfl, _, _, _, _, _, _, _, _, _, _, _, _, _, _, _, _, _, _, l, rfl, HNL.out, x.next (drB hb')⟩
          · obtain ⟨zz, xb, xo, hA1, hzz⟩ : ∃ (zz : Int) (xb xo : Nat), A = some ⟨xb, xo, none⟩ ∧ ∀ w', Below w.heap.size w w' → w'.cell? ⟨xb, xo + (k - 1), none⟩ = some (.int .i64 zz) := by
              obtain ⟨xb, xo, e, hxb, hc⟩ := hA (by simp [ints]; omega)
              exact ⟨xs[k - 1]'(by omega), xb, xo, e, fun w' hb => (hb.cell (p := ⟨xb, xo + (k - 1), none⟩) hxb).trans (hc (k - 1) _ (by rw [ints, List.getElem?_map, List.getElem?_eq_getElem (show k - 1 < xs.length by omega)]; rfl))⟩
            subst hA1
            have HXC := hzz
            refine wp_region_noPanic ?_
            refine wp_region_held_drew (S := fun W' => Below w.heap.size w W') (by kernel_rfl) (x.bel.trans (Below.drewNr (w := wr) 1)) (fun hHeld => ?_)
            replace x : PlS w b a rb ra l wr.drew := x.next (Below.drewNr (w := wr) 1)
            generalize wr.drew = WD at *
            refine held_move 0 (Go.Operand.tmp 10) (some 48) (.int .i64 k) (by kernel_rfl) (by kernel_rfl) (by kernel_rfl) (by kernel_rfl) (by kernel_rfl) (fun _ _ _ _ _ h => h) hHeld ?_
            refine held_bin 1 Go.BinOp.gtr 3 (Go.Operand.tmp 48) (Go.Operand.const (Go.Value.int Go.IntKind.i64 0)) 3 (some 49) (.int .i64 k) (Go.Value.int Go.IntKind.i64 0) (.bool true) (by kernel_rfl) (by kernel_rfl) (gt_i64B _ _ _ (k : Int) 0 (by omega)) (by kernel_rfl) (by kernel_rfl) (by kernel_rfl) (fun _ _ _ _ _ h => h) hHeld ?_
            refine held_move 2 (Go.Operand.tmp 49) (some 50) (.bool true) (by kernel_rfl) (by kernel_rfl) (by kernel_rfl) (by kernel_rfl) (by kernel_rfl) (fun _ _ _ _ _ h => h) hHeld ?_
            refine held_move 3 (Go.Operand.tmp 8) (some 51) (.pointer (some ⟨b, 0, none⟩)) (by kernel_rfl) (by kernel_rfl) (by kernel_rfl) (by kernel_rfl) (by kernel_rfl) (fun _ _ _ _ _ h => h) hHeld ?_
            refine held_move 4 (Go.Operand.tmp 1) (some 52) (.slice (some ⟨xb, xo, none⟩) xs.length ca) (by kernel_rfl) (by kernel_rfl) (by kernel_rfl) (by kernel_rfl) (by kernel_rfl) (fun _ _ _ _ _ h => h) hHeld ?_
            refine held_move 5 (Go.Operand.tmp 10) (some 53) (.int .i64 k) (by kernel_rfl) (by kernel_rfl) (by kernel_rfl) (by kernel_rfl) (by kernel_rfl) (fun _ _ _ _ _ h => h) hHeld ?_
            refine held_bin 6 Go.BinOp.sub 3 (Go.Operand.tmp 53) (Go.Operand.const (Go.Value.int Go.IntKind.i64 1)) 3 (some 54) (.int .i64 k) (Go.Value.int Go.IntKind.i64 1) (.int .i64 ((k - 1 : Nat) : Int)) (by kernel_rfl) (by kernel_rfl) (sub_i64B _ _ _ _ _ _ (by omega) (by omega) (by omega)) (by kernel_rfl) (by kernel_rfl) (by kernel_rfl) (fun _ _ _ _ _ h => h) hHeld ?_
            refine held_index 7 22 (Go.Operand.tmp 52) (Go.Operand.tmp 54) (some 55) (.slice (some ⟨xb, xo, none⟩) xs.length ca) (.int .i64 ((k - 1 : Nat) : Int)) (.pointer (some ⟨xb, xo + (k - 1), none⟩)) (by kernel_rfl) (by kernel_rfl) (idx_sl (P := Tryd.prog) Tryd.underlying22 (show (Tryd.prog.info? 3).map (·.size) = some 1 by kernel_rfl) xb xo xs.length ca (k - 1) (by omega)) (by kernel_rfl) (by kernel_rfl) (by kernel_rfl) (fun _ _ _ _ _ h => h) hHeld ?_
            refine held_cell 8 3 (Go.Operand.tmp 55) (some 56) (.pointer (some ⟨xb, xo + (k - 1), none⟩)) (.int .i64 zz) (by kernel_rfl) (by kernel_rfl) (fun w h => load_i64B _ _ _ w (HXC w h)) (by kernel_rfl) (by kernel_rfl) (by kernel_rfl) (fun _ _ _ _ _ h => h) hHeld ?_
            refine held_move 10 (Go.Operand.tmp 9) (some 58) (.pointer (some ⟨rb, 0, none⟩)) (by kernel_rfl) (by kernel_rfl) (by kernel_rfl) (by kernel_rfl) (by kernel_rfl) (fun _ _ _ _ _ h => h) hHeld ?_
            refine held_move 11 (Go.Operand.tmp 1) (some 59) (.slice (some ⟨xb, xo, none⟩) xs.length ca) (by kernel_rfl) (by kernel_rfl) (by kernel_rfl) (by kernel_rfl) (by kernel_rfl) (fun _ _ _ _ _ h => h) hHeld ?_
            refine held_move 12 (Go.Operand.tmp 10) (some 60) (.int .i64 k) (by kernel_rfl) (by kernel_rfl) (by kernel_rfl) (by kernel_rfl) (by kernel_rfl) (fun _ _ _ _ _ h => h) hHeld ?_
            refine held_bin 13 Go.BinOp.sub 3 (Go.Operand.tmp 60) (Go.Operand.const (Go.Value.int Go.IntKind.i64 1)) 3 (some 61) (.int .i64 k) (Go.Value.int Go.IntKind.i64 1) (.int .i64 ((k - 1 : Nat) : Int)) (by kernel_rfl) (by kernel_rfl) (sub_i64B _ _ _ _ _ _ (by omega) (by omega) (by omega)) (by kernel_rfl) (by kernel_rfl) (by kernel_rfl) (fun _ _ _ _ _ h => h) hHeld ?_
            refine held_index 14 22 (Go.Operand.tmp 59) (Go.Operand.tmp 61) (some 62) (.slice (some ⟨xb, xo, none⟩) xs.length ca) (.int .i64 ((k - 1 : Nat) : Int)) (.pointer (some ⟨xb, xo + (k - 1), none⟩)) (by kernel_rfl) (by kernel_rfl) (idx_sl (P := Tryd.prog) Tryd.underlying22 (show (Tryd.prog.info? 3).map (·.size) = some 1 by kernel_rfl) xb xo xs.length ca (k - 1) (by omega)) (by kernel_rfl) (by kernel_rfl) (by kernel_rfl) (fun _ _ _ _ _ h => h) hHeld ?_
            refine held_cell 15 3 (Go.Operand.tmp 62) (some 63) (.pointer (some ⟨xb, xo + (k - 1), none⟩)) (.int .i64 zz) (by kernel_rfl) (by kernel_rfl) (fun w h => load_i64B _ _ _ w (HXC w h)) (by kernel_rfl) (by kernel_rfl) (by kernel_rfl) (fun _ _ _ _ _ h => h) hHeld ?_
            refine held_call 9 11 #[.tmp 51, .tmp 56] #[25, 3] (some 57) _ _ (by kernel_rfl) (by kernel_rfl) (by kernel_rfl) (by kernel_rfl) (setk_any b a l zz WD x.m) ?_
            rintro e V1 ⟨⟨rfl, hm1, hB1⟩, hkeep⟩
            have hB1' := x.bel.trans (hB1 w.heap.size x.ha x.hb)
            refine ⟨_, rfl, hB1', fun hHeld => ?_⟩
            have hr1 : IsRMap V1 rb ra l := ⟨x.r.st.of_block (hkeep _ (Ne.symm x.n1) (Ne.symm x.n2)), x.r.row.of_block (hkeep _ (Ne.symm x.n3) (Ne.symm x.n4)), x.r.ne, x.r.hl⟩
            refine held_call 16 12 #[.tmp 58, .tmp 63] #[27, 3] (some 64) _ _ (by kernel_rfl) (by kernel_rfl) (by kernel_rfl) (by kernel_rfl) (rset_any rb ra l zz V1 hr1) ?_
            rintro e V2 ⟨rfl, hr2, hB2⟩
            have x2 : PlS w b a rb ra (if Could l zz then l.set zz.toNat true else l) V2 := ⟨hB1'.trans (hB2 w.heap.size x.hra x.hrb), hm1.below (hB2 (min ra rb) (Nat.min_le_left _ _) (Nat.min_le_right _ _)) x.lt1 x.lt2, hr2, x.ha, x.hb, x.o1, x.o2, x.o3, x.o4⟩
            refine ⟨_, rfl, x2.bel, fun hHeld => ?_⟩
            refine held_bin 17 Go.BinOp.neq 4 (Go.Operand.tmp 57) (Go.Operand.tmp 64) 4 (some 65) (.bool (decide (Could l zz))) (.bool (decide (Could l zz))) (.bool false) (by kernel_rfl) (by kernel_rfl) (neqs_bool _ _ _) (by kernel_rfl) (by kernel_rfl) (by kernel_rfl) (fun _ _ _ _ _ h => h) hHeld ?_
            refine held_pick 18 (Go.Operand.tmp 50) (Go.Operand.tmp 65) (Go.Operand.const (Go.Value.bool false)) (some 66) true (.bool false) (by kernel_rfl) (by kernel_rfl) (by kernel_rfl) (by kernel_rfl) (by kernel_rfl) (by kernel_rfl) (fun _ _ _ _ _ h => h) hHeld ?_
            refine wpAnyH_done (by kernel_rfl) ?_ _
            refine NoPanic.normal ?_
            refine ⟨rfl, .int .i64 k, .bool true, .bool true, .pointer (some ⟨b, 0, none⟩), .slice (some ⟨xb, xo, none⟩) xs.length ca, .int .i64 k, .int .i64 ((k - 1 : Nat) : Int), .pointer (some ⟨xb, xo + (k - 1), none⟩), .int .i64 zz, .bool (decide (Could l zz)), .pointer (some ⟨rb, 0, none⟩), .slice (some ⟨xb, xo, none⟩) xs.length ca, .int .i64 k, .int .i64 ((k - 1 : Nat) : Int), .pointer (some ⟨xb, xo + (k - 1), none⟩), .int .i64 zz, .bool (decide (Could l zz)), .bool false, _, ?_, by split <;> simp [HNL.out], x2⟩
            simp only [put_list, List.set_cons_zero, List.set_cons_succ]
        · rintro a' W ⟨w0, w1, w2, w3, w4, w5, w6, w7, w8, w9, w10, w11, w12, w13, w14, w15, w16, w17, l2, rfl, hl2, x⟩
          simp only [put_list, List.set_cons_zero, List.set_cons_succ]
          obtain ⟨NF, hNF1, hNF2⟩ := next_both l2 zf hzf
          obtain ⟨NK, hNK1, hNK2⟩ := next_both l2 (k : Int) (by omega)
          have HC1 : ∀ w', Below W.heap.size W w' → Calls Tryd.prog 13 #[.pointer (some ⟨b, 0, none⟩)] w' fun e w'' => e = .returned (.int .i64 ((trues l2 : Nat) : Int)) ∧ Below w'.heap.size w' w'' := fun w' hb => quiet_below (count_any b a l2 w' (x.next hb).m)
          have HC2 : ∀ w', Below W.heap.size W w' → Calls Tryd.prog 14 #[.pointer (some ⟨rb, 0, none⟩)] w' fun e w'' => e = .returned (.int .i64 ((trues l2 : Nat) : Int)) ∧ Below w'.heap.size w' w'' := fun w' hb => quiet_below (rcount_any rb ra l2 w' (x.next hb).r)
          have HF1 : ∀ w', Below W.heap.size W w' → Calls Tryd.prog 15 #[.pointer (some ⟨b, 0, none⟩), .int .i64 zf] w' fun e w'' => e = .returned (.int .i64 NF) ∧ Below w'.heap.size w' w'' := fun w' hb => quiet_below (hNF1 b a w' (x.next hb).m)
          have HF2 : ∀ w', Below W.heap.size W w' → Calls Tryd.prog 16 #[.pointer (some ⟨rb, 0, none⟩), .int .i64 zf] w' fun e w'' => e = .returned (.int .i64 NF) ∧ Below w'.heap.size w' w'' := fun w' hb => quiet_below (hNF2 rb ra w' (x.next hb).r)
          have HK1 : ∀ w', Below W.heap.size W w' → Calls Tryd.prog 15 #[.pointer (some ⟨b, 0, none⟩), .int .i64 (k : Int)] w' fun e w'' => e = .returned (.int .i64 NK) ∧ Below w'.heap.size w' w'' := fun w' hb => quiet_below (hNK1 b a w' (x.next hb).m)
          have HK2 : ∀ w', Below W.heap.size W w' → Calls Tryd.prog 16 #[.pointer (some ⟨rb, 0, none⟩), .int .i64 (k : Int)] w' fun e w'' => e = .returned (.int .i64 NK) ∧ Below w'.heap.size w' w'' := fun w' hb => quiet_below (hNK2 rb ra w' (x.next hb).r)
          have HR1 : ∀ w', Below W.heap.size W w' → Calls Tryd.prog 17 #[.pointer (some ⟨b, 0, none⟩)] w' fun e w'' => e = .returned (.int .i64 ((front l2 : Nat) : Int)) ∧ Below w'.heap.size w' w'' := fun w' hb => quiet_below (front_any b a l2 w' (x.next hb).m)
          have HR2 : ∀ w', Below W.heap.size W w' → Calls Tryd.prog 18 #[.pointer (some ⟨rb, 0, none⟩)] w' fun e w'' => e = .returned (.int .i64 ((front l2 : Nat) : Int)) ∧ Below w'.heap.size w' w'' := fun w' hb => quiet_below (rfront_any rb ra l2 w' (x.next hb).r)
          have HH1 : ∀ w', Below W.heap.size W w' → Calls Tryd.prog 19 #[.pointer (some ⟨b, 0, none⟩), .int .i64 (k : Int)] w' fun e w'' => e = .returned (.bool (hasL l2 (k : Int))) ∧ Below w'.heap.size w' w'' := fun w' hb => quiet_below (has_any b a l2 (k : Int) w' (x.next hb).m)
          have HH2 : ∀ w', Below W.heap.size W w' → Calls Tryd.prog 20 #[.pointer (some ⟨rb, 0, none⟩), .int .i64 (k : Int)] w' fun e w'' => e = .returned (.bool (hasL l2 (k : Int))) ∧ Below w'.heap.size w' w'' := fun w' hb => quiet_below (rhas_any rb ra l2 (k : Int) w' (x.next hb).r)
          have HG1 : ∀ w', Below W.heap.size W w' → Calls Tryd.prog 19 #[.pointer (some ⟨b, 0, none⟩), .int .i64 zf] w' fun e w'' => e = .returned (.bool (hasL l2 zf)) ∧ Below w'.heap.size w' w'' := fun w' hb => quiet_below (has_any b a l2 zf w' (x.next hb).m)
          have HG2 : ∀ w', Below W.heap.size W w' → Calls Tryd.prog 20 #[.pointer (some ⟨rb, 0, none⟩), .int .i64 zf] w' fun e w'' => e = .returned (.bool (hasL l2 zf)) ∧ Below w'.heap.size w' w'' := fun w' hb => quiet_below (rhas_any rb ra l2 zf w' (x.next hb).r)
          generalize ((trues l2 : Nat) : Int) = TR at HC1 HC2
          generalize ((front l2 : Nat) : Int) = FR at HR1 HR2
          generalize hasL l2 (k : Int) = hk at HH1 HH2
          generalize hasL l2 zf = hf at HG1 HG2
          have HL2 := Lib.hid hl2
          clear hNF1 hNF2 hNK1 hNK2 hl2
          go_upto_region 17 with (fail)
          refine wp_region_text [Sp.k 0 (some 67) [] (.pointer (some ⟨b, 0, none⟩)),
            Sp.k 1 (some 68) [0] (.int .i64 TR),
            Sp.k 2 (some 69) [] (.pointer (some ⟨rb, 0, none⟩)),
            Sp.k 3 (some 70) [2] (.int .i64 TR),
            Sp.k 4 (some 71) [1, 3] (.bool false),
            Sp.k 5 (some 72) [4] (.bool false),
            Sp.k 6 (some 73) [5] (.pointer (some ⟨b, 0, none⟩)),
            Sp.k 7 (some 74) [5] (.int .i64 zf),
            Sp.k 8 (some 75) [5, 6, 7] (.int .i64 NF),
            Sp.k 9 (some 76) [5] (.pointer (some ⟨rb, 0, none⟩)),
            Sp.k 10 (some 77) [5] (.int .i64 zf),
            Sp.k 11 (some 78) [5, 9, 10] (.int .i64 NF),
            Sp.k 12 (some 79) [5, 8, 11] (.bool false),
            Sp.k 13 (some 80) [5, 12] (.bool false),
            Sp.k 14 (some 81) [13] (.bool false),
            Sp.k 15 (some 82) [14] (.pointer (some ⟨b, 0, none⟩)),
            Sp.k 16 (some 83) [14] (.int .i64 k),
            Sp.k 17 (some 84) [14, 15, 16] (.int .i64 NK),
            Sp.k 18 (some 85) [14] (.pointer (some ⟨rb, 0, none⟩)),
            Sp.k 19 (some 86) [14] (.int .i64 k),
            Sp.k 20 (some 87) [14, 18, 19] (.int .i64 NK),
            Sp.k 21 (some 88) [14, 17, 20] (.bool false),
            Sp.k 22 (some 89) [14, 21] (.bool false),
            Sp.k 23 (some 90) [22] (.bool false),
            Sp.k 24 (some 91) [23] (.pointer (some ⟨b, 0, none⟩)),
            Sp.k 25 (some 92) [23, 24] (.int .i64 FR),
            Sp.k 26 (some 93) [23] (.pointer (some ⟨rb, 0, none⟩)),
            Sp.k 27 (some 94) [23, 26] (.int .i64 FR),
            Sp.k 28 (some 95) [23, 25, 27] (.bool false),
            Sp.k 29 (some 96) [23, 28] (.bool false),
            Sp.k 30 (some 97) [29] (.bool false),
            Sp.k 31 (some 98) [30] (.pointer (some ⟨b, 0, none⟩)),
            Sp.k 32 (some 99) [30] (.int .i64 k),
            Sp.k 33 (some 100) [30, 31, 32] (.bool hk),
            Sp.k 34 (some 101) [30] (.pointer (some ⟨rb, 0, none⟩)),
            Sp.k 35 (some 102) [30] (.int .i64 k),
            Sp.k 36 (some 103) [30, 34, 35] (.bool hk),
            Sp.k 37 (some 104) [30, 33, 36] (.bool false),
            Sp.k 38 (some 105) [30, 37] (.bool false),
            Sp.k 39 (some 106) [38] (.bool false),
            Sp.k 40 (some 107) [39] (.pointer (some ⟨b, 0, none⟩)),
            Sp.k 41 (some 108) [39] (.int .i64 zf),
            Sp.k 42 (some 109) [39, 40, 41] (.bool hf),
            Sp.k 43 (some 110) [39] (.pointer (some ⟨rb, 0, none⟩)),
            Sp.k 44 (some 111) [39] (.int .i64 zf),
            Sp.k 45 (some 112) [39, 43, 44] (.bool hf),
            Sp.k 46 (some 113) [39, 42, 45] (.bool false),
            Sp.k 47 (some 114) [39, 46] (.bool false)] (by kernel_rfl)
            ⟨owes_move 0 (some 67) [] (.pointer (some ⟨b, 0, none⟩)) (Go.Operand.tmp 8) (fun v => by kernel_rfl) (fun v => by kernel_rfl),
            owes_call 1 (some 68) [0] (.int .i64 TR) 13 #[Go.Operand.tmp 67] #[25] (fun v => by kernel_rfl) (fun _ _ => by kernel_rfl) (fun v w' hb ho => by
                exact ⟨#[.pointer (some ⟨b, 0, none⟩)], by kernel_rfl, (HC1 w' hb).mono (fun _ _ h => h)⟩),
            owes_move 2 (some 69) [] (.pointer (some ⟨rb, 0, none⟩)) (Go.Operand.tmp 9) (fun v => by kernel_rfl) (fun v => by kernel_rfl),
            owes_call 3 (some 70) [2] (.int .i64 TR) 14 #[Go.Operand.tmp 69] #[27] (fun v => by kernel_rfl) (fun _ _ => by kernel_rfl) (fun v w' hb ho => by
                exact ⟨#[.pointer (some ⟨rb, 0, none⟩)], by kernel_rfl, (HC2 w' hb).mono (fun _ _ h => h)⟩),
            owes_bin 4 (some 71) [1, 3] (.bool false) Go.BinOp.neq 3 (Go.Operand.tmp 68) (Go.Operand.tmp 70) 3 (.int .i64 TR) (.int .i64 TR) (fun v => by kernel_rfl) (fun v => by kernel_rfl) (fun w => neqs_i64 _ _ _ _ w),
            owes_move 5 (some 72) [4] (.bool false) (Go.Operand.tmp 71) (fun v => by kernel_rfl) (fun v => by kernel_rfl),
            owes_move 6 (some 73) [5] (.pointer (some ⟨b, 0, none⟩)) (Go.Operand.tmp 8) (fun v => by kernel_rfl) (fun v => by kernel_rfl),
            owes_move 7 (some 74) [5] (.int .i64 zf) (Go.Operand.tmp 2) (fun v => by kernel_rfl) (fun v => by kernel_rfl),
            owes_call 8 (some 75) [5, 6, 7] (.int .i64 NF) 15 #[Go.Operand.tmp 73, Go.Operand.tmp 74] #[25, 3] (fun v => by kernel_rfl) (fun _ _ => by kernel_rfl) (fun v w' hb ho => by
                exact ⟨#[.pointer (some ⟨b, 0, none⟩), .int .i64 zf], by kernel_rfl, (HF1 w' hb).mono (fun _ _ h => h)⟩),
            owes_move 9 (some 76) [5] (.pointer (some ⟨rb, 0, none⟩)) (Go.Operand.tmp 9) (fun v => by kernel_rfl) (fun v => by kernel_rfl),
            owes_move 10 (some 77) [5] (.int .i64 zf) (Go.Operand.tmp 2) (fun v => by kernel_rfl) (fun v => by kernel_rfl),
            owes_call 11 (some 78) [5, 9, 10] (.int .i64 NF) 16 #[Go.Operand.tmp 76, Go.Operand.tmp 77] #[27, 3] (fun v => by kernel_rfl) (fun _ _ => by kernel_rfl) (fun v w' hb ho => by
                exact ⟨#[.pointer (some ⟨rb, 0, none⟩), .int .i64 zf], by kernel_rfl, (HF2 w' hb).mono (fun _ _ h => h)⟩),
            owes_bin 12 (some 79) [5, 8, 11] (.bool false) Go.BinOp.neq 3 (Go.Operand.tmp 75) (Go.Operand.tmp 78) 3 (.int .i64 NF) (.int .i64 NF) (fun v => by kernel_rfl) (fun v => by kernel_rfl) (fun w => neqs_i64 _ _ _ _ w),
            owes_pick 13 (some 80) [5, 12] (.bool false) (Go.Operand.tmp 72) (Go.Operand.const (Go.Value.bool true)) (Go.Operand.tmp 79) false (fun v => by kernel_rfl) (fun v => by kernel_rfl) (fun v => by kernel_rfl),
            owes_move 14 (some 81) [13] (.bool false) (Go.Operand.tmp 80) (fun v => by kernel_rfl) (fun v => by kernel_rfl),
            owes_move 15 (some 82) [14] (.pointer (some ⟨b, 0, none⟩)) (Go.Operand.tmp 8) (fun v => by kernel_rfl) (fun v => by kernel_rfl),
            owes_move 16 (some 83) [14] (.int .i64 k) (Go.Operand.tmp 10) (fun v => by kernel_rfl) (fun v => by kernel_rfl),
            owes_call 17 (some 84) [14, 15, 16] (.int .i64 NK) 15 #[Go.Operand.tmp 82, Go.Operand.tmp 83] #[25, 3] (fun v => by kernel_rfl) (fun _ _ => by kernel_rfl) (fun v w' hb ho => by
                exact ⟨#[.pointer (some ⟨b, 0, none⟩), .int .i64 k], by kernel_rfl, (HK1 w' hb).mono (fun _ _ h => h)⟩),
            owes_move 18 (some 85) [14] (.pointer (some ⟨rb, 0, none⟩)) (Go.Operand.tmp 9) (fun v => by kernel_rfl) (fun v => by kernel_rfl),
            owes_move 19 (some 86) [14] (.int .i64 k) (Go.Operand.tmp 10) (fun v => by kernel_rfl) (fun v => by kernel_rfl),
            owes_call 20 (some 87) [14, 18, 19] (.int .i64 NK) 16 #[Go.Operand.tmp 85, Go.Operand.tmp 86] #[27, 3] (fun v => by kernel_rfl) (fun _ _ => by kernel_rfl) (fun v w' hb ho => by
                exact ⟨#[.pointer (some ⟨rb, 0, none⟩), .int .i64 k], by kernel_rfl, (HK2 w' hb).mono (fun _ _ h => h)⟩),
            owes_bin 21 (some 88) [14, 17, 20] (.bool false) Go.BinOp.neq 3 (Go.Operand.tmp 84) (Go.Operand.tmp 87) 3 (.int .i64 NK) (.int .i64 NK) (fun v => by kernel_rfl) (fun v => by kernel_rfl) (fun w => neqs_i64 _ _ _ _ w),
            owes_pick 22 (some 89) [14, 21] (.bool false) (Go.Operand.tmp 81) (Go.Operand.const (Go.Value.bool true)) (Go.Operand.tmp 88) false (fun v => by kernel_rfl) (fun v => by kernel_rfl) (fun v => by kernel_rfl),
            owes_move 23 (some 90) [22] (.bool false) (Go.Operand.tmp 89) (fun v => by kernel_rfl) (fun v => by kernel_rfl),
            owes_move 24 (some 91) [23] (.pointer (some ⟨b, 0, none⟩)) (Go.Operand.tmp 8) (fun v => by kernel_rfl) (fun v => by kernel_rfl),
            owes_call 25 (some 92) [23, 24] (.int .i64 FR) 17 #[Go.Operand.tmp 91] #[25] (fun v => by kernel_rfl) (fun _ _ => by kernel_rfl) (fun v w' hb ho => by
                exact ⟨#[.pointer (some ⟨b, 0, none⟩)], by kernel_rfl, (HR1 w' hb).mono (fun _ _ h => h)⟩),
            owes_move 26 (some 93) [23] (.pointer (some ⟨rb, 0, none⟩)) (Go.Operand.tmp 9) (fun v => by kernel_rfl) (fun v => by kernel_rfl),
            owes_call 27 (some 94) [23, 26] (.int .i64 FR) 18 #[Go.Operand.tmp 93] #[27] (fun v => by kernel_rfl) (fun _ _ => by kernel_rfl) (fun v w' hb ho => by
                exact ⟨#[.pointer (some ⟨rb, 0, none⟩)], by kernel_rfl, (HR2 w' hb).mono (fun _ _ h => h)⟩),
            owes_bin 28 (some 95) [23, 25, 27] (.bool false) Go.BinOp.neq 3 (Go.Operand.tmp 92) (Go.Operand.tmp 94) 3 (.int .i64 FR) (.int .i64 FR) (fun v => by kernel_rfl) (fun v => by kernel_rfl) (fun w => neqs_i64 _ _ _ _ w),
            owes_pick 29 (some 96) [23, 28] (.bool false) (Go.Operand.tmp 90) (Go.Operand.const (Go.Value.bool true)) (Go.Operand.tmp 95) false (fun v => by kernel_rfl) (fun v => by kernel_rfl) (fun v => by kernel_rfl),
            owes_move 30 (some 97) [29] (.bool false) (Go.Operand.tmp 96) (fun v => by kernel_rfl) (fun v => by kernel_rfl),
            owes_move 31 (some 98) [30] (.pointer (some ⟨b, 0, none⟩)) (Go.Operand.tmp 8) (fun v => by kernel_rfl) (fun v => by kernel_rfl),
            owes_move 32 (some 99) [30] (.int .i64 k) (Go.Operand.tmp 10) (fun v => by kernel_rfl) (fun v => by kernel_rfl),
            owes_call 33 (some 100) [30, 31, 32] (.bool hk) 19 #[Go.Operand.tmp 98, Go.Operand.tmp 99] #[25, 3] (fun v => by kernel_rfl) (fun _ _ => by kernel_rfl) (fun v w' hb ho => by
                exact ⟨#[.pointer (some ⟨b, 0, none⟩), .int .i64 k], by kernel_rfl, (HH1 w' hb).mono (fun _ _ h => h)⟩),
            owes_move 34 (some 101) [30] (.pointer (some ⟨rb, 0, none⟩)) (Go.Operand.tmp 9) (fun v => by kernel_rfl) (fun v => by kernel_rfl),
            owes_move 35 (some 102) [30] (.int .i64 k) (Go.Operand.tmp 10) (fun v => by kernel_rfl) (fun v => by kernel_rfl),
            owes_call 36 (some 103) [30, 34, 35] (.bool hk) 20 #[Go.Operand.tmp 101, Go.Operand.tmp 102] #[27, 3] (fun v => by kernel_rfl) (fun _ _ => by kernel_rfl) (fun v w' hb ho => by
                exact ⟨#[.pointer (some ⟨rb, 0, none⟩), .int .i64 k], by kernel_rfl, (HH2 w' hb).mono (fun _ _ h => h)⟩),
            owes_bin 37 (some 104) [30, 33, 36] (.bool false) Go.BinOp.neq 4 (Go.Operand.tmp 100) (Go.Operand.tmp 103) 4 (.bool hk) (.bool hk) (fun v => by kernel_rfl) (fun v => by kernel_rfl) (fun w => neqs_bool _ _ _ w),
            owes_pick 38 (some 105) [30, 37] (.bool false) (Go.Operand.tmp 97) (Go.Operand.const (Go.Value.bool true)) (Go.Operand.tmp 104) false (fun v => by kernel_rfl) (fun v => by kernel_rfl) (fun v => by kernel_rfl),
            owes_move 39 (some 106) [38] (.bool false) (Go.Operand.tmp 105) (fun v => by kernel_rfl) (fun v => by kernel_rfl),
            owes_move 40 (some 107) [39] (.pointer (some ⟨b, 0, none⟩)) (Go.Operand.tmp 8) (fun v => by kernel_rfl) (fun v => by kernel_rfl),
            owes_move 41 (some 108) [39] (.int .i64 zf) (Go.Operand.tmp 2) (fun v => by kernel_rfl) (fun v => by kernel_rfl),
            owes_call 42 (some 109) [39, 40, 41] (.bool hf) 19 #[Go.Operand.tmp 107, Go.Operand.tmp 108] #[25, 3] (fun v => by kernel_rfl) (fun _ _ => by kernel_rfl) (fun v w' hb ho => by
                exact ⟨#[.pointer (some ⟨b, 0, none⟩), .int .i64 zf], by kernel_rfl, (HG1 w' hb).mono (fun _ _ h => h)⟩),
            owes_move 43 (some 110) [39] (.pointer (some ⟨rb, 0, none⟩)) (Go.Operand.tmp 9) (fun v => by kernel_rfl) (fun v => by kernel_rfl),
            owes_move 44 (some 111) [39] (.int .i64 zf) (Go.Operand.tmp 2) (fun v => by kernel_rfl) (fun v => by kernel_rfl),
            owes_call 45 (some 112) [39, 43, 44] (.bool hf) 20 #[Go.Operand.tmp 110, Go.Operand.tmp 111] #[27, 3] (fun v => by kernel_rfl) (fun _ _ => by kernel_rfl) (fun v w' hb ho => by
                exact ⟨#[.pointer (some ⟨rb, 0, none⟩), .int .i64 zf], by kernel_rfl, (HG2 w' hb).mono (fun _ _ h => h)⟩),
            owes_bin 46 (some 113) [39, 42, 45] (.bool false) Go.BinOp.neq 4 (Go.Operand.tmp 109) (Go.Operand.tmp 112) 4 (.bool hf) (.bool hf) (fun v => by kernel_rfl) (fun v => by kernel_rfl) (fun w => neqs_bool _ _ _ w),
            owes_pick 47 (some 114) [39, 46] (.bool false) (Go.Operand.tmp 106) (Go.Operand.const (Go.Value.bool true)) (Go.Operand.tmp 113) false (fun v => by kernel_rfl) (fun v => by kernel_rfl) (fun v => by kernel_rfl), trivial⟩ ?_
          intro v W' hb' hall
          clear hall HC1 HC2 HF1 HF2 HK1 HK2 HR1 HR2 HH1 HH2 HG1 HG2
          replace x := x.next hb'
          clear hb'
          simp only [putsL_k, putsL_nil, List.set_cons_zero, List.set_cons_succ]
          go_wp2_with fail
          go_roundw
          case rel => exact ⟨k + 1, l2, by go_num, by omega, HL2, x⟩
          case measure => simp [intOf]; omega
      · have hlt' : decide (k ≤ xs.length) = false := by simpa using hlt
        have hmb := mbytes_any b a l wr x.m
        rw [HNL.out] at hmb
        have hN1000 : N ≤ 1000 := by rw [HN.out]; exact sizeN_le z
        obtain ⟨L, hL⟩ : ∃ L, L = (N + 7) / 8 := ⟨_, rfl⟩
        rw [← hL] at hmb
        have hL8 : L ≤ 200 := by omega
        have HL8 := Lib.hid hL; clear hL
        go_wp2_with fail
        refine hmb.mono ?_
        rintro e W3 ⟨G, rfl, hrow, hGw, hb3⟩
        replace x := x.next hb3
        clear hmb hb3 hGw
        obtain ⟨bs, hbs⟩ : ∃ bs : List (BitVec 8), bs = (List.range L).map (byteAt l N) := ⟨_, rfl⟩
        have HBL : bs.length = L := by rw [hbs]; simp
        have HBG : Hid (∀ q, q < L → byteAt l N q = bs.getD q 0#8) := Lib.hid (fun q hq => by rw [hbs]; simp [hq])
        have HRB0 : Hid (readOf bs N (8 * bs.length) = l ∧ NoMore bs N) := Lib.hid (by
          have h := read_bytes l bs (by rw [HBL, HNL.out]; exact HL8.out) (fun q hq => by rw [HNL.out]; exact (HBG.out q (by rw [← HBL]; exact hq)).symm)
          rwa [HNL.out] at h)
        clear hbs
        have hG : SlRead W3 (some ⟨G, 0, none⟩) (ints .u8 (bys bs)) := SlRead.of_bytes hrow HBL fun q hq => HBG.out q hq
        rw [← HBL]
        have HLB := Lib.hid HBL
        have hbl : bs.length ≤ 200 := by omega
        clear HBL hrow
        have hof := of_form E z bs (some ⟨G, 0, none⟩) bs.length W3 (hE0.below x.bel) hG (by omega)
        go_wp2_with fail
        refine hof.mono ?_
        intro e W hp
        clear hof
        rcases Or.symm hp with ⟨q3, _, _⟩ | ⟨q1, q2, b2, a2, rfl, hm2, hbd, _, _⟩
        · exact absurd (by rw [← HN.out]; exact ⟨HLB.out.trans HL8.out, HRB0.out.2⟩) q3
        clear hp q1 q2
        rw [← HN.out, HRB0.out.1] at hm2
        replace x := x.next hbd
        replace hG := hG.below hbd
        clear hbd
        have hbytes : ∀ (b a : Nat) w', IsMap w' b a l → Calls Tryd.prog 21 #[.pointer (some ⟨b, 0, none⟩)] w' fun e w'' => (∃ g, e = .returned (.slice (some ⟨g, 0, none⟩) bs.length bs.length) ∧ SlRead w'' (some ⟨g, 0, none⟩) (ints .u8 (bys bs))) ∧ Below w'.heap.size w' w'' := fun b a w' hm => by
          refine (mbytes_any b a l w' hm).mono ?_
          rintro e w'' ⟨g, rfl, hrow, _, hb2⟩
          rw [HNL.out, ← HL8.out] at hrow ⊢
          rw [← HLB.out] at hrow ⊢
          exact ⟨⟨g, rfl, SlRead.of_bytes hrow rfl fun q hq => HBG.out q (by rw [← HLB.out]; exact hq)⟩, hb2⟩
        have HRB : ∀ w', Below W.heap.size W w' → Calls Tryd.prog 24 #[.pointer (some ⟨rb, 0, none⟩)] w' fun e w'' => (∃ g, e = .returned (.slice (some ⟨g, 0, none⟩) bs.length bs.length) ∧ SlRead w'' (some ⟨g, 0, none⟩) (ints .u8 (bys bs))) ∧ Below w'.heap.size w' w'' := fun w' hb => by
          refine (rbytes_any rb ra l w' (x.next hb).r).mono ?_
          rintro e w'' ⟨g, rfl, hrow, _, hb2⟩
          rw [HNL.out, ← HL8.out] at hrow ⊢
          rw [← HLB.out] at hrow ⊢
          exact ⟨⟨g, rfl, SlRead.of_bytes hrow rfl fun q hq => HBG.out q (by rw [← HLB.out]; exact hq)⟩, hb2⟩
        have HMB := fun w' (hb : Below W.heap.size W w') => hbytes b2 a2 w' (hm2.below' hb)
        have same : ∀ g h w', SlRead w' (some ⟨g, 0, none⟩) (ints .u8 (bys bs)) → SlRead w' (some ⟨h, 0, none⟩) (ints .u8 (bys bs)) → Calls Tryd.prog 23 #[.slice (some ⟨g, 0, none⟩) bs.length bs.length, .slice (some ⟨h, 0, none⟩) bs.length bs.length] w' fun e w'' => e = .returned (.bool true) ∧ Below w'.heap.size w' w'' := fun g h w' hg hh => by
          have h := quiet_below (sameBytes_any (some ⟨g, 0, none⟩) (some ⟨h, 0, none⟩) (bys bs) (bys bs) bs.length bs.length w' hg hh (by simp [bys]; omega) (by simp [bys]; omega))
          simpa [bys] using h
        have HS1 := fun w' (hb : Below W.heap.size W w') g (hg : SlRead w' (some ⟨g, 0, none⟩) (ints .u8 (bys bs))) => same G g w' (hG.below hb) hg
        have HS2 := fun w' (hb : Below W.heap.size W w') g (hg : SlRead w' (some ⟨g, 0, none⟩) (ints .u8 (bys bs))) => same g G w' hg (hG.below hb)
        have HC1 := fun w' (hb : Below W.heap.size W w') => quiet_below (count_any b2 a2 l w' (hm2.below' hb))
        have HC2 := fun w' (hb : Below W.heap.size W w') => quiet_below (rcount_any rb ra l w' (x.next hb).r)
        generalize ((trues l : Nat) : Int) = TR at HC1 HC2
        clear hbytes same hm2 hG
        go_upto_region 21 with (fail)
        refine wp_region_text [Sp.k 0 (some 123) [] (.bool true),
          Sp.k 1 (some 124) [0] (.bool true),
          Sp.k 2 (some 125) [1] (.slice (some ⟨G, 0, none⟩) bs.length bs.length),
          Sp.k 3 (some 126) [1] (.pointer (some ⟨rb, 0, none⟩)),
          Sp.o 4 (some 127) [1, 3] (SlVB (ints .u8 (bys bs)) bs.length),
          Sp.k 5 (some 128) [1, 2, 4] (.bool true),
          Sp.k 6 (some 129) [1, 5] (.bool true),
          Sp.k 7 (some 130) [6] (.bool true),
          Sp.k 8 (some 131) [7] (.nilIface),
          Sp.k 9 (some 132) [7, 8] (.bool true),
          Sp.k 10 (some 133) [7, 9] (.bool true),
          Sp.k 11 (some 134) [10] (.bool true),
          Sp.k 12 (some 135) [11] (.pointer (some ⟨b2, 0, none⟩)),
          Sp.k 13 (some 136) [11, 12] (.bool true),
          Sp.k 14 (some 137) [11, 13] (.bool true),
          Sp.k 15 (some 138) [14] (.bool true),
          Sp.k 16 (some 139) [15] (.pointer (some ⟨b2, 0, none⟩)),
          Sp.o 17 (some 140) [15, 16] (SlVB (ints .u8 (bys bs)) bs.length),
          Sp.k 18 (some 141) [15] (.slice (some ⟨G, 0, none⟩) bs.length bs.length),
          Sp.k 19 (some 142) [15, 17, 18] (.bool true),
          Sp.k 20 (some 143) [15, 19] (.bool true),
          Sp.k 21 (some 144) [20] (.bool true),
          Sp.k 22 (some 145) [21] (.pointer (some ⟨b2, 0, none⟩)),
          Sp.k 23 (some 146) [21, 22] (.int .i64 TR),
          Sp.k 24 (some 147) [21] (.pointer (some ⟨rb, 0, none⟩)),
          Sp.k 25 (some 148) [21, 24] (.int .i64 TR),
          Sp.k 26 (some 149) [21, 23, 25] (.bool true),
          Sp.k 27 (some 150) [21, 26] (.bool true),
          Sp.k 28 (some 6) [27] (.bool true)] (by kernel_rfl)
          ⟨owes_move 0 (some 123) [] (.bool true) (Go.Operand.tmp 7) (fun v => by kernel_rfl) (fun v => by kernel_rfl),
          owes_move 1 (some 124) [0] (.bool true) (Go.Operand.tmp 123) (fun v => by kernel_rfl) (fun v => by kernel_rfl),
          owes_move 2 (some 125) [1] (.slice (some ⟨G, 0, none⟩) bs.length bs.length) (Go.Operand.tmp 11) (fun v => by kernel_rfl) (fun v => by kernel_rfl),
          owes_move 3 (some 126) [1] (.pointer (some ⟨rb, 0, none⟩)) (Go.Operand.tmp 9) (fun v => by kernel_rfl) (fun v => by kernel_rfl),
          owes_call_o 4 (some 127) [1, 3] (SlVB (ints .u8 (bys bs)) bs.length) 24 #[Go.Operand.tmp 126] #[27] (fun v => by kernel_rfl) (fun _ _ => by kernel_rfl) SlVB.mono (fun v w' hb ho => by
              exact ⟨#[.pointer (some ⟨rb, 0, none⟩)], by kernel_rfl, (HRB w' hb).mono (fun e w1 ⟨⟨g, h1, h2⟩, h3⟩ => ⟨_, h1, h3, g, rfl, h2⟩)⟩),
          owes_call 5 (some 128) [1, 2, 4] (.bool true) 23 #[Go.Operand.tmp 125, Go.Operand.tmp 127] #[35, 35] (fun v => by kernel_rfl) (fun _ _ => by kernel_rfl) (fun v w' hb ho => by
              obtain ⟨g4, e4, r4⟩ := ho.get 4 _ _ (SlVB (ints .u8 (bys bs)) bs.length) rfl rfl
              exact ⟨#[.slice (some ⟨G, 0, none⟩) bs.length bs.length, .slice (some ⟨g4, 0, none⟩) bs.length bs.length], Eq.trans (b := #[.slice (some ⟨G, 0, none⟩) bs.length bs.length, v 4]) (by kernel_rfl) (by rw [e4]), (HS1 w' hb _ r4).mono (fun _ _ h => h)⟩),
          owes_pick 6 (some 129) [1, 5] (.bool true) (Go.Operand.tmp 124) (Go.Operand.tmp 128) (Go.Operand.const (Go.Value.bool false)) true (fun v => by kernel_rfl) (fun v => by kernel_rfl) (fun v => by kernel_rfl),
          owes_move 7 (some 130) [6] (.bool true) (Go.Operand.tmp 129) (fun v => by kernel_rfl) (fun v => by kernel_rfl),
          owes_move 8 (some 131) [7] (.nilIface) (Go.Operand.tmp 13) (fun v => by kernel_rfl) (fun v => by kernel_rfl),
          owes_bin 9 (some 132) [7, 8] (.bool true) Go.BinOp.eql 38 (Go.Operand.tmp 131) (Go.Operand.const Go.Value.nilIface) 38 (.nilIface) (Go.Value.nilIface) (fun v => by kernel_rfl) (fun v => by kernel_rfl) (fun w => by kernel_rfl),
          owes_pick 10 (some 133) [7, 9] (.bool true) (Go.Operand.tmp 130) (Go.Operand.tmp 132) (Go.Operand.const (Go.Value.bool false)) true (fun v => by kernel_rfl) (fun v => by kernel_rfl) (fun v => by kernel_rfl),
          owes_move 11 (some 134) [10] (.bool true) (Go.Operand.tmp 133) (fun v => by kernel_rfl) (fun v => by kernel_rfl),
          owes_move 12 (some 135) [11] (.pointer (some ⟨b2, 0, none⟩)) (Go.Operand.tmp 12) (fun v => by kernel_rfl) (fun v => by kernel_rfl),
          owes_bin 13 (some 136) [11, 12] (.bool true) Go.BinOp.neq 25 (Go.Operand.tmp 135) (Go.Operand.const (Go.Value.pointer none)) 25 (.pointer (some ⟨b2, 0, none⟩)) (Go.Value.pointer none) (fun v => by kernel_rfl) (fun v => by kernel_rfl) (fun w => by kernel_rfl),
          owes_pick 14 (some 137) [11, 13] (.bool true) (Go.Operand.tmp 134) (Go.Operand.tmp 136) (Go.Operand.const (Go.Value.bool false)) true (fun v => by kernel_rfl) (fun v => by kernel_rfl) (fun v => by kernel_rfl),
          owes_move 15 (some 138) [14] (.bool true) (Go.Operand.tmp 137) (fun v => by kernel_rfl) (fun v => by kernel_rfl),
          owes_move 16 (some 139) [15] (.pointer (some ⟨b2, 0, none⟩)) (Go.Operand.tmp 12) (fun v => by kernel_rfl) (fun v => by kernel_rfl),
          owes_call_o 17 (some 140) [15, 16] (SlVB (ints .u8 (bys bs)) bs.length) 21 #[Go.Operand.tmp 139] #[25] (fun v => by kernel_rfl) (fun _ _ => by kernel_rfl) SlVB.mono (fun v w' hb ho => by
              exact ⟨#[.pointer (some ⟨b2, 0, none⟩)], by kernel_rfl, (HMB w' hb).mono (fun e w1 ⟨⟨g, h1, h2⟩, h3⟩ => ⟨_, h1, h3, g, rfl, h2⟩)⟩),
          owes_move 18 (some 141) [15] (.slice (some ⟨G, 0, none⟩) bs.length bs.length) (Go.Operand.tmp 11) (fun v => by kernel_rfl) (fun v => by kernel_rfl),
          owes_call 19 (some 142) [15, 17, 18] (.bool true) 23 #[Go.Operand.tmp 140, Go.Operand.tmp 141] #[35, 35] (fun v => by kernel_rfl) (fun _ _ => by kernel_rfl) (fun v w' hb ho => by
              obtain ⟨g17, e17, r17⟩ := ho.get 17 _ _ (SlVB (ints .u8 (bys bs)) bs.length) rfl rfl
              exact ⟨#[.slice (some ⟨g17, 0, none⟩) bs.length bs.length, .slice (some ⟨G, 0, none⟩) bs.length bs.length], Eq.trans (b := #[v 17, .slice (some ⟨G, 0, none⟩) bs.length bs.length]) (by kernel_rfl) (by rw [e17]), (HS2 w' hb _ r17).mono (fun _ _ h => h)⟩),
          owes_pick 20 (some 143) [15, 19] (.bool true) (Go.Operand.tmp 138) (Go.Operand.tmp 142) (Go.Operand.const (Go.Value.bool false)) true (fun v => by kernel_rfl) (fun v => by kernel_rfl) (fun v => by kernel_rfl),
          owes_move 21 (some 144) [20] (.bool true) (Go.Operand.tmp 143) (fun v => by kernel_rfl) (fun v => by kernel_rfl),
          owes_move 22 (some 145) [21] (.pointer (some ⟨b2, 0, none⟩)) (Go.Operand.tmp 12) (fun v => by kernel_rfl) (fun v => by kernel_rfl),
          owes_call 23 (some 146) [21, 22] (.int .i64 TR) 13 #[Go.Operand.tmp 145] #[25] (fun v => by kernel_rfl) (fun _ _ => by kernel_rfl) (fun v w' hb ho => by
              exact ⟨#[.pointer (some ⟨b2, 0, none⟩)], by kernel_rfl, (HC1 w' hb).mono (fun _ _ h => h)⟩),
          owes_move 24 (some 147) [21] (.pointer (some ⟨rb, 0, none⟩)) (Go.Operand.tmp 9) (fun v => by kernel_rfl) (fun v => by kernel_rfl),
          owes_call 25 (some 148) [21, 24] (.int .i64 TR) 14 #[Go.Operand.tmp 147] #[27] (fun v => by kernel_rfl) (fun _ _ => by kernel_rfl) (fun v w' hb ho => by
              exact ⟨#[.pointer (some ⟨rb, 0, none⟩)], by kernel_rfl, (HC2 w' hb).mono (fun _ _ h => h)⟩),
          owes_bin 26 (some 149) [21, 23, 25] (.bool true) Go.BinOp.eql 3 (Go.Operand.tmp 146) (Go.Operand.tmp 148) 3 (.int .i64 TR) (.int .i64 TR) (fun v => by kernel_rfl) (fun v => by kernel_rfl) (fun w => eqs_i64 _ _ _ _ w),
          owes_pick 27 (some 150) [21, 26] (.bool true) (Go.Operand.tmp 144) (Go.Operand.tmp 149) (Go.Operand.const (Go.Value.bool false)) true (fun v => by kernel_rfl) (fun v => by kernel_rfl) (fun v => by kernel_rfl),
          owes_assign 28 (some 6) [27] (.bool true) (Go.Operand.tmp 150) (fun v => by kernel_rfl) (fun v => by kernel_rfl), trivial⟩ ?_
        intro v w' hb' hall
        clear hall HC1 HC2 HMB HRB HS1 HS2
        have hbb := below_tr x.bel hb'
        clear hb' x
        simp only [putsL_k, putsL_o, putsL_nil, List.set_cons_zero, List.set_cons_succ]
        go_wp2_with fail
        go_ret
        exact ⟨rfl, hbb⟩


end Go.Proofs.YtplennobcbmccaaDoor
