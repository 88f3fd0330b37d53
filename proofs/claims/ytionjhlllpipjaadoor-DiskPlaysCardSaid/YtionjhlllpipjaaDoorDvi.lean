import Derived.Test.YtionjhlllpipjaaDoorDvj
import Derived.Test.YtionjhlllpipjaaDoorOdl
/-
  DiskPlays' walk.
-/
namespace Go.Proofs.YtionjhlllpipjaaDoor
open Go.RowKit

theorem is_same (E : Nat → Addr) (v : Value) (c : Int) (hv : Reads E v c) (w : World) (h : ErrsAt E w) : Calls Tryd.prog 12 #[v, .int .i64 c] w fun e w' => e = .returned (.bool true) ∧ Below w.heap.size w w' := by
  have q := is_any E v c c hv w h
  rw [decide_eq_true (rfl : c = c)] at q
  exact q
theorem same_self (l : List Int) (hl : l.length ≤ 9223372036854775807) (A B : Option Addr) (c c' : Nat) (w : World) (hA : SlRead w A (ints .u8 l)) (hB : SlRead w B (ints .u8 l)) :
    Calls Tryd.prog 23 #[.slice A l.length c, .slice B l.length c'] w fun e w' => e = .returned (.bool true) ∧ Below w.heap.size w w' := by
  have q := sameBytes_any A B l l c c' w hA hB hl hl
  rw [decide_eq_true (rfl : l = l)] at q
  refine q.mono ?_
  rintro e w' ⟨rfl, m, rfl⟩
  exact ⟨rfl, Below.drewNr m⟩
theorem same_img (ss : List Sec) (hs : ss.length ≤ 400) (A : Option Addr) (c : Nat) (B : Option Addr) (c' : Nat) (w : World) (hA : SlRead w A (bcells (durs ss))) (hB : SlRead w B (bcells (durV (allS ss)))) :
    Calls Tryd.prog 23 #[.slice A (ss.length * 128) c, .slice B ((allS ss).length * 128) c'] w fun e w' => e = .returned (.bool true) ∧ Below w.heap.size w w' := by
  rw [← durs_both] at hB
  rw [allS_len]
  have hl := durs_len ss
  have q := same_self ((durs ss).map fun b => (b.toNat : Int)) (by rw [List.length_map, hl]; omega) A B c c' w (by rw [← bcells_ints]; exact hA) (by rw [← bcells_ints]; exact hB)
  rw [List.length_map, hl] at q
  exact q
/-- a thing as a row -/
def doC (q : DoV) : List Value := [.int .i64 q.a, .int .i64 q.b, .int .i64 q.c, .slice q.A q.l.length q.k]
theorem range_do {w : World} {b o i : Nat} {q : DoV} (h0 : w.cell? ⟨b, o + i * 4, none⟩ = some (.int .i64 q.a)) (h1 : w.cell? ⟨b, o + i * 4 + 1, none⟩ = some (.int .i64 q.b)) (h2 : w.cell? ⟨b, o + i * 4 + 2, none⟩ = some (.int .i64 q.c)) (h3 : w.cell? ⟨b, o + i * 4 + 3, none⟩ = some (.slice q.A q.l.length q.k)) : w.rangeAt b (o + i * 4) (doC q) := fun j v hj => by
  rcases j with _ | _ | _ | _ | j
  · simp [doC] at hj; subst hj; exact h0
  · simp [doC] at hj; subst hj; exact h1
  · simp [doC] at hj; subst hj; exact h2
  · simp [doC] at hj; subst hj; exact h3
  · simp [doC] at hj
set_option maxRecDepth 100000 in
set_option maxHeartbeats 800000 in
theorem new_zero (n : Nat) (w : World) (hn : n ≤ w.heap.size) : Calls Tryd.prog 9 #[.int .i64 0] w fun e w' => ∃ D R, e = .returned (.pointer (some ⟨D, 0, none⟩)) ∧ DkS w' n D R (List.replicate 1 secZ) false (-1) (fun _ => .slice none 0 0) ∧ w.heap.size ≤ D ∧ w.heap.size ≤ R ∧ Below w.heap.size w w' := by
  have hmk : (Instr.makeSlice 59 (.int .i64 1) (.int .i64 1)).run Tryd.prog w = .ok (.slice (some ⟨w.heap.size, 0, none⟩) 1 1) (w.alloc (.cells (zrow 1) 72)) := make_S 1 (by omega) w
  have hR := heap2_0 w (.cells (zrow 1) 72) (.cells #[.slice (some ⟨w.heap.size, 0, none⟩) 1 1, .bool false, .int .i64 (-1)] 61)
  have hD := heap2_1 w (.cells (zrow 1) 72) (.cells #[.slice (some ⟨w.heap.size, 0, none⟩) 1 1, .bool false, .int .i64 (-1)] 61)
  have HF := Lib.hid (new_DkS (n := n) (x := 1) (by omega) hR hD (by omega) ⟨by omega, hn⟩)
  have HB := Lib.hid ((below_alc w (.cells (zrow 1) 72)).alloc (by simp) (.cells #[.slice (some ⟨w.heap.size, 0, none⟩) 1 1, .bool false, .int .i64 (-1)] 61))
  clear hR hD
  generalize zrow 1 = Z at *
  go_enter Tryd.func9, Tryd.ntmps9
  go_wp2_with fail
  go_ret
  exact ⟨_, _, rfl, HF.out, by omega, Nat.le_refl _, HB.out⟩
theorem new_six (N : Nat) (hN : N < 6) (n : Nat) (w : World) (hn : n ≤ w.heap.size) : Calls Tryd.prog 9 #[.int .i64 (N : Int)] w fun e w' => ∃ D R, e = .returned (.pointer (some ⟨D, 0, none⟩)) ∧ DkS w' n D R (List.replicate (max N 1) secZ) false (-1) (fun _ => .slice none 0 0) ∧ w.heap.size ≤ D ∧ w.heap.size ≤ R ∧ Below w.heap.size w w' := by
  rcases N with _ | N
  · exact new_zero n w hn
  · have h := new_any (N + 1) (by omega) n w hn
    rw [show max (N + 1) 1 = N + 1 by omega]
    exact h
set_option maxRecDepth 100000 in
set_option maxHeartbeats 6400000 in
theorem plays_walk (E : Nat → Addr) (z : Int) (A : Option Addr) (len cap : Nat) (fv : Nat → DoV) (w0 : World) (hE : ErrsAt E w0) (hl0 : DlRead w0 A len fv) (hfx : ∀ i, i < len → (fv i).b ≤ 9223372036854775807 ∧ (∀ x ∈ (fv i).l, x ≤ 9223372036854775807) ∧ (fv i).l.length ≤ (fv i).k) :
    Calls Tryd.prog 3 #[.int .i64 z, .slice A len cap] w0 fun e w' => e = .returned (.bool true) ∧ Below w0.heap.size w0 w' := by
  have hfi := first_any w0
  have HE := Lib.hid hE
  clear hE
  go_enter Tryd.func3, Tryd.ntmps3
  go_upto_region 4 with (go_at_call 7; refine hfi.mono ?_; rintro e w1 ⟨rfl, hb1⟩)
  have HB1 := Lib.hid hb1
  clear hb1 hfi
  by_cases h60 : 60 < len
  · have d1 : (60 : Int) < (len : Int) := by omega
    clear h60
    go_wp2_with fail
    go_ret
    exact ⟨rfl, HB1.out⟩
  have hl60 : len ≤ 60 := by omega
  have d1 : ¬ (60 : Int) < (len : Int) := by omega
  clear h60
  obtain ⟨N, hN, hN6⟩ := exists_mod z 6 (by omega)
  have hnu := fun w => number_nat z 6 N w (by omega) hN
  clear hN
  go_upto_region 7 with (go_at_call 8; refine (hnu _).mono ?_; rintro e w2 ⟨rfl, q2, rfl⟩)
  refine wp_world (fun W => Below w0.heap.size w0 W) (HB1.out.trans ((Below.drewNr q2).mono HB1.out.size)) ?_
  intro W2 hb2
  clear hnu HB1
  have hN6' : N < 6 := by omega
  obtain ⟨M, hM⟩ : ∃ M, M = max N 1 := ⟨_, rfl⟩
  have hnew := new_six N hN6' w0.heap.size W2 hb2.size
  rw [← hM] at hnew
  have hnd := fun w => newdisk_any (N : Int) M (by omega) w
  clear hM hN6 hN6'
  go_upto_region 8 with (go_at_call 9; refine hnew.mono ?_; rintro e w3 ⟨D, R, rfl, hd3, _, _, hb3⟩)
  clear hnew
  have hb3' := hb2.trans (hb3.mono hb2.size)
  go_upto_region 9 with (go_at_call 10; refine (hnd w3).mono ?_; rintro e w4 ⟨X, T, cT, rfl, hx4, hb4⟩)
  have hB := Lib.hid (BothS.new hb3' M hd3 hx4 hb4)
  clear hnd hd3 hx4 hb3 hb3' hb4 hb2
  go_wp2_with fail
  go_loopw [8] (fun x wr => ∃ (i : Nat) (ss : List Sec) (pv : Nat → Value) (off : Bool) (fuse : Int), i ≤ len ∧ x = .int .i64 (i : Int) ∧ BothS w0 wr D R X T cT ss pv off fuse i) (fun x _ => len - (intOf x).toNat)
  case atStart => exact ⟨0, _, _, _, _, by omega, rfl, hB.out⟩
  clear hB
  case round =>
    obtain ⟨i, ss, pv, off, fuse, hi, rfl, hB⟩ := hrel
    have HB := Lib.hid hB
    by_cases hlt : i < len
    · have hilt : (i : Int) < (len : Int) := by omega
      have hlw := hl0.below hB.b
      have hqb0 : 0 < (fv i).l.length → ∀ a, (fv i).A = some a → a.block < w0.heap.size := fun h0 a ha => by
        obtain ⟨bl0, ol0, _, _, hcells0⟩ := hl0 (by omega)
        obtain ⟨_, _, _, _, hsl0⟩ := hcells0 i hlt
        obtain ⟨b, o, e, hb, _⟩ := hsl0 (by simpa using h0)
        rw [ha] at e
        cases e
        exact hb
      obtain ⟨bl, ol, rfl, hbl, hcells⟩ := hlw (by omega)
      obtain ⟨c0, c1, c2, c3, hsl⟩ := hcells i hlt
      have hrg := range_do c0 c1 c2 c3
      obtain ⟨hfb, hfl, hfk⟩ := hfx i hlt
      obtain ⟨cs, hcs⟩ : ∃ cs, cs = doC (fv i) := ⟨_, rfl⟩
      rw [← hcs] at hrg
      have HL : Hid (cs.length = 4) := Lib.hid (by rw [hcs]; rfl)
      have HO : Hid (∀ v ∈ cs, v.oneCell' = true) := Lib.hid (by rw [hcs]; intro v hv; simp [doC] at hv; rcases hv with rfl | rfl | rfl | rfl <;> rfl)
      have HCS := Lib.hid hcs
      have hinf : (Tryd.prog.info? 31 ).map (·.size) = some 4 := by kernel_rfl
      clear hcells c0 c1 c2 c3 hB hcs
      go_upto_region 15 with (first | (refine wpList_load_mid rfl 31 _ rfl bl (ol + i * 4) rfl _ _ hrg Tryd.underlying31 rfl (by rw [HL.out]; exact hinf) ?_) | (refine wpList_store_row rfl 31 _ _ rfl wr.heap.size cs.toArray rfl rfl _ _ (heap_alloc_new _ _) (by rw [List.size_toArray, HL.out]; exact hinf) (by simp [HL.out]) (all_oneCell_toArray HO.out) ?_))
      obtain ⟨DB, hDB⟩ : ∃ DB, DB = wr.heap.size := ⟨_, rfl⟩
      generalize fv i = q at *
      rw [HCS.out]
      refine wp_world (fun W => BothS w0 W D R X T cT ss pv off fuse i ∧ W.rangeAt DB 0 (doC q) ∧ SlRead W q.A (ints .i64 q.l) ∧ DB < W.heap.size ∧ (0 < q.l.length → ∀ a, q.A = some a → a.block < w0.heap.size) ∧ ¬ DFoot D R ss pv DB ∧ ¬ (DB = X ∨ DB = T)) ?_ ?_
      · rw [alloc_setRow, hDB]
        have hbb := below_alc wr (.cells (doC q).toArray 31 )
        exact ⟨HB.out.below hbb, range_new (heap1_0 wr _), hsl.below hbb, by simp, hqb0, fun hh => Nat.lt_irrefl _ (HB.out.d.ltF hh), fun hh => by rcases hh with e | e; exact absurd HB.out.x.ltX (by rw [← e]; exact Nat.lt_irrefl _); exact absurd HB.out.x.ltT (by rw [← e]; exact Nat.lt_irrefl _)⟩
      rintro V0 ⟨hV, hrw, hsv, hDl, hqb, hnF, hnX⟩
      rw [← hDB]
      have r0 := hrw 0 _ rfl
      have r1 := hrw 1 _ rfl
      have r2 := hrw 2 _ rfl
      have r3 := hrw 3 _ rfl
      clear hrg hsl hlw hDB HB hqb0
      obtain ⟨K, hK, hK7⟩ := exists_mod q.a 7 (by omega)
      have hnk := fun w => number_nat q.a 7 K w (by omega) hK
      clear hK
      obtain ⟨HE0, HV⟩ : Hid (ErrsAt E w0) ∧ Hid (BothS w0 V0 D R X T cT ss pv off fuse i) := ⟨HE, Lib.hid hV⟩
      have hi60 : i ≤ 60 := by omega
      clear hV HE r1 r2 r3
      go_upto_region 20 with (go_at_call 8; refine (hnk _).mono ?_; rintro e V1 ⟨rfl, q6, rfl⟩)
      have hbt : Below V0.heap.size V0 (V0.drewN q6) := Below.drewNr q6
      refine wp_world (fun W => BothS w0 W D R X T cT ss pv off fuse i ∧ W.rangeAt DB 0 (doC q) ∧ SlRead W q.A (ints .i64 q.l) ∧ DB < W.heap.size) ⟨HV.out.below hbt, (Turn.of_below (F := fun _ => False) hbt).range hrw hDl id, hsv.below hbt, Nat.lt_of_lt_of_le hDl hbt.size⟩ ?_
      clear hbt hrw hsv hDl HV r0 hnk
      rintro V1 ⟨hV1, hrw, hsv, hDl⟩
      have hc1 : V1.cell? ⟨DB, 1, none⟩ = some (.int .i64 q.b) := hrw 1 _ rfl
      have hc2 : V1.cell? ⟨DB, 2, none⟩ = some (.int .i64 q.c) := hrw 2 _ rfl
      have hc3 : V1.cell? ⟨DB, 3, none⟩ = some (.slice q.A q.l.length q.k) := hrw 3 _ rfl
      clear hrw
      have hK4 : K < 3 ∨ K = 3 ∨ K = 4 ∨ K = 5 ∨ K = 6 := by omega
      rcases hK4 with hK3 | rfl | rfl | rfl | rfl
      · have DB1 := Lib.hid hc1
        clear hc1 hc3 hsv hqb hfk hfl
        obtain rfl | rfl | rfl : K = 0 ∨ K = 1 ∨ K = 2 := by omega
        · have hfil := filled_any q.c V1
          clear hK3
          go_upto_region 24 with (go_at_call 11; refine hfil.mono ?_; rintro e V2 ⟨rfl, hrow, hb2⟩)
          obtain ⟨G, hG⟩ : ∃ G, G = V1.heap.size := ⟨_, rfl⟩
          rw [← hG] at hrow ⊢
          have hG0 : V1.heap.size ≤ G := by rw [hG]; exact Nat.le_refl _
          refine wp_world (fun W => Below V1.heap.size V1 W ∧ W.rangeAt G 0 (bcells (fillL q.c)) ∧ W.cell? ⟨DB, 1, none⟩ = some (.int .i64 q.b) ∧ W.cell? ⟨DB, 2, none⟩ = some (.int .i64 q.c) ∧ DB < W.heap.size) ⟨hb2, range_new hrow, (hb2.cell (p := ⟨DB, 1, none⟩) hDl).trans DB1.out, (hb2.cell (p := ⟨DB, 2, none⟩) hDl).trans hc2, Nat.lt_of_lt_of_le hDl hb2.size⟩ ?_
          clear hrow hb2 hfil hc2 hG
          rintro V3 ⟨hb3, hr3, hc1, hc2, hD3⟩
          have hwb := fun o m c h => write_both (V := V3.drew) HE0.out hV1 hi60 (hb3.trans ((Below.drewNr (w := V3) 1).mono hb3.size)) G hG0 (fillL q.c) (fillL_len _) hr3 q.b o m c h
          clear hr3 hV1
          go_wp2_with fail
          · refine wp_region_noPanic ?_
            refine wp_region_held_drew (S := fun W => W.cell? ⟨DB, 1, none⟩ = some (.int .i64 q.b) ∧ DB < W.heap.size) (by kernel_rfl) (⟨hc1, hD3⟩) (fun hHeld => ?_)
            refine held_move 0 (Go.Operand.tmp 6) (some 80) (.pointer (some ⟨D, 0, none⟩)) (by kernel_rfl) (by kernel_rfl) (by kernel_rfl) (by kernel_rfl) (by kernel_rfl) (fun _ _ _ _ _ h => h) hHeld ?_
            refine held_field 1 31 (Go.Operand.tmp 9) 1 (some 81) (.pointer (some ⟨DB, 0, none⟩)) (.pointer (some ⟨DB, 1, none⟩)) (by kernel_rfl) (by kernel_rfl) (fun w => by kernel_rfl) (by kernel_rfl) (by kernel_rfl) (by kernel_rfl) (fun _ _ _ _ _ h => h) hHeld ?_
            refine held_cell 2 3 (Go.Operand.tmp 81) (some 82) (.pointer (some ⟨DB, 1, none⟩)) (.int .i64 q.b) (by kernel_rfl) (by kernel_rfl) (fun W hW => load_i64 DB 1 W _ hW.1) (by kernel_rfl) (by kernel_rfl) (by kernel_rfl) (fun _ _ _ _ _ h => h) hHeld ?_
            refine held_move 3 (Go.Operand.tmp 10) (some 83) (.slice (some ⟨G, 1, none⟩) 127 127) (by kernel_rfl) (by kernel_rfl) (by kernel_rfl) (by kernel_rfl) (by kernel_rfl) (fun _ _ _ _ _ h => h) hHeld ?_
            refine held_move 5 (Go.Operand.tmp 7) (some 85) (.pointer (some ⟨X, 0, none⟩)) (by kernel_rfl) (by kernel_rfl) (by kernel_rfl) (by kernel_rfl) (by kernel_rfl) (fun _ _ _ _ _ h => h) hHeld ?_
            refine held_field 6 31 (Go.Operand.tmp 9) 1 (some 86) (.pointer (some ⟨DB, 0, none⟩)) (.pointer (some ⟨DB, 1, none⟩)) (by kernel_rfl) (by kernel_rfl) (fun w => by kernel_rfl) (by kernel_rfl) (by kernel_rfl) (by kernel_rfl) (fun _ _ _ _ _ h => h) hHeld ?_
            refine held_cell 7 3 (Go.Operand.tmp 86) (some 87) (.pointer (some ⟨DB, 1, none⟩)) (.int .i64 q.b) (by kernel_rfl) (by kernel_rfl) (fun W hW => load_i64 DB 1 W _ hW.1) (by kernel_rfl) (by kernel_rfl) (by kernel_rfl) (fun _ _ _ _ _ h => h) hHeld ?_
            refine held_move 8 (Go.Operand.tmp 10) (some 88) (.slice (some ⟨G, 1, none⟩) 127 127) (by kernel_rfl) (by kernel_rfl) (by kernel_rfl) (by kernel_rfl) (by kernel_rfl) (fun _ _ _ _ _ h => h) hHeld ?_
            refine held_call 4 13 #[Go.Operand.tmp 80, Go.Operand.tmp 82, Go.Operand.tmp 83] #[25, 3, 32] (some 84) #[.pointer (some ⟨D, 0, none⟩), .int .i64 q.b, .slice (some ⟨G, 1, none⟩) 127 127] _ (by kernel_rfl) (by kernel_rfl) (by kernel_rfl) (by kernel_rfl) (hwb 1 127 127 (.inr (by decide))) ?_
            rintro e V4 ⟨v4, c4, rfl, hrd4, ht4, hwb2⟩
            refine ⟨_, rfl, ⟨(ht4.cell hHeld.2 hnF).trans hHeld.1, Nat.lt_of_lt_of_le hHeld.2 ht4.size⟩, fun hHeld => ?_⟩
            clear ht4
            refine held_call 9 14 #[Go.Operand.tmp 85, Go.Operand.tmp 87, Go.Operand.tmp 88] #[27, 3, 32] (some 89) #[.pointer (some ⟨X, 0, none⟩), .int .i64 q.b, .slice (some ⟨G, 1, none⟩) 127 127] _ (by kernel_rfl) (by kernel_rfl) (by kernel_rfl) (by kernel_rfl) (hwb2) ?_
            rintro e V5 ⟨rfl, ht5, ss3, pv3, off3, fuse3, hW5⟩
            refine ⟨_, rfl, ⟨(ht5.cell hHeld.2 hnX).trans hHeld.1, Nat.lt_of_lt_of_le hHeld.2 ht5.size⟩, fun hHeld => ?_⟩
            clear ht5
            refine held_call 10 12 #[Go.Operand.tmp 84, Go.Operand.tmp 89] #[36, 3] (some 90) #[v4, .int .i64 c4] _ (by kernel_rfl) (by kernel_rfl) (by kernel_rfl) (by kernel_rfl) (is_same E v4 c4 hrd4 V5 (hW5.errs HE0.out)) ?_
            rintro e V6 ⟨rfl, hb6⟩
            refine ⟨_, rfl, ⟨(hb6.cell (p := ⟨DB, 1, none⟩) hHeld.2).trans hHeld.1, Nat.lt_of_lt_of_le hHeld.2 hb6.size⟩, fun hHeld => ?_⟩
            have HV4 := Lib.hid (hW5.below hb6)
            clear hW5 hb6 hwb hwb2 hc1 hc2 hD3
            refine held_any 11 (Go.Op.unOp Go.UnOp.not 4 (Go.Operand.tmp 90)) (some 91) (.bool false) (by kernel_rfl) (by kernel_rfl) (by kernel_rfl) (by kernel_rfl) (fun _ _ _ _ _ h => h) hHeld (fun o ho w _ => exec_un (vx := .bool true) ho (by kernel_rfl) (by kernel_rfl)) ?_
            refine wpAnyH_done (by kernel_rfl) ?_ _
            refine NoPanic.normal ?_
            simp only [Act.put, List.setIfInBounds_toArray, List.set_cons_zero, List.set_cons_succ]
            clear hHeld
            go_upto_region 39 with (fail)
            refine wp_world (fun W => ∃ ss5 pv5 off5 fuse5, BothS w0 W D R X T cT ss5 pv5 off5 fuse5 (i + 1)) ⟨_, _, _, _, HV4.out⟩ ?_
            rintro V ⟨ss5, pv5, off5, fuse5, hV5⟩
            clear HV4
            refine wp_region_noPanic ?_
            refine wp_region_held_drew (S := fun W => Below V.heap.size V W) (by kernel_rfl) (Below.drewNr (w := V) 1) (fun hHeld => ?_)
            refine held_move 0 (Go.Operand.tmp 6) (some 125) (.pointer (some ⟨D, 0, none⟩)) (by kernel_rfl) (by kernel_rfl) (by kernel_rfl) (by kernel_rfl) (by kernel_rfl) (fun _ _ _ _ _ h => h) hHeld ?_
            refine held_move 2 (Go.Operand.tmp 7) (some 127) (.pointer (some ⟨X, 0, none⟩)) (by kernel_rfl) (by kernel_rfl) (by kernel_rfl) (by kernel_rfl) (by kernel_rfl) (fun _ _ _ _ _ h => h) hHeld ?_
            refine held_nil 3 (Go.Operand.tmp 127) (some 128) ⟨X, 0, none⟩ (by kernel_rfl) (by kernel_rfl) (by kernel_rfl) (by kernel_rfl) (by kernel_rfl) (fun _ _ _ _ _ h => h) hHeld ?_
            refine held_field 4 51 (Go.Operand.tmp 128) 2 (some 129) (.pointer (some ⟨X, 0, none⟩)) (.pointer (some ⟨X, 2, none⟩)) (by kernel_rfl) (by kernel_rfl) (fun w => by kernel_rfl) (by kernel_rfl) (by kernel_rfl) (by kernel_rfl) (fun _ _ _ _ _ h => h) hHeld ?_
            refine held_cell 5 4 (Go.Operand.tmp 129) (some 130) (.pointer (some ⟨X, 2, none⟩)) (.bool off5) (by kernel_rfl) (by kernel_rfl) (fun W hW => load_bool X 2 W _ ((hV5.below hW).x.c2)) (by kernel_rfl) (by kernel_rfl) (by kernel_rfl) (fun _ _ _ _ _ h => h) hHeld ?_
            refine held_call 1 24 #[Go.Operand.tmp 125] #[25] (some 126) #[.pointer (some ⟨D, 0, none⟩)] _ (by kernel_rfl) (by kernel_rfl) (by kernel_rfl) (by kernel_rfl) (off_any (hV5.below hHeld).d) ?_
            rintro e Y1 ⟨rfl, hb1⟩
            refine ⟨_, rfl, hHeld.trans (hb1.mono hHeld.size), fun hHeld => ?_⟩
            clear hb1
            refine held_bin 6 Go.BinOp.neq 4 (Go.Operand.tmp 126) (Go.Operand.tmp 130) 4 (some 131) (.bool off5) (.bool off5) (.bool false) (by kernel_rfl) (by kernel_rfl) (fun w => by cases off5 <;> kernel_rfl) (by kernel_rfl) (by kernel_rfl) (by kernel_rfl) (fun _ _ _ _ _ h => h) hHeld ?_
            refine held_move 7 (Go.Operand.tmp 131) (some 132) (.bool false) (by kernel_rfl) (by kernel_rfl) (by kernel_rfl) (by kernel_rfl) (by kernel_rfl) (fun _ _ _ _ _ h => h) hHeld ?_
            refine held_move 8 (Go.Operand.tmp 6) (some 133) (.pointer (some ⟨D, 0, none⟩)) (by kernel_rfl) (by kernel_rfl) (by kernel_rfl) (by kernel_rfl) (by kernel_rfl) (fun _ _ _ _ _ h => h) hHeld ?_
            refine held_move 10 (Go.Operand.tmp 7) (some 135) (.pointer (some ⟨X, 0, none⟩)) (by kernel_rfl) (by kernel_rfl) (by kernel_rfl) (by kernel_rfl) (by kernel_rfl) (fun _ _ _ _ _ h => h) hHeld ?_
            refine held_call 9 25 #[Go.Operand.tmp 133] #[25] (some 134) #[.pointer (some ⟨D, 0, none⟩)] _ (by kernel_rfl) (by kernel_rfl) (by kernel_rfl) (by kernel_rfl) (image_any (hV5.below hHeld).d) ?_
            rintro e Y2 ⟨v1, rfl, hown1, hb2⟩
            obtain ⟨A1, c1, rfl, _⟩ := own_slice hown1
            have hr1 := SlRead.of_own hown1
            refine ⟨_, rfl, hHeld.trans (hb2.mono hHeld.size), fun hHeld => ?_⟩
            clear hb2 hown1
            refine held_call 11 26 #[Go.Operand.tmp 135] #[27] (some 136) #[.pointer (some ⟨X, 0, none⟩)] _ (by kernel_rfl) (by kernel_rfl) (by kernel_rfl) (by kernel_rfl) (dimage_any (hV5.below hHeld).x) ?_
            rintro e Y3 ⟨v2, rfl, hown2, hb3⟩
            obtain ⟨A2, c2, rfl, _⟩ := own_slice hown2
            have hsm := same_img ss5 hV5.d.len.2 A1 c1 A2 c2 Y3 (hr1.below hb3) (SlRead.of_own hown2)
            refine ⟨_, rfl, hHeld.trans (hb3.mono hHeld.size), fun hHeld => ?_⟩
            clear hb3 hr1 hown2
            refine held_call 12 23 #[Go.Operand.tmp 134, Go.Operand.tmp 136] #[32, 32] (some 137) #[.slice A1 (ss5.length * 128) c1, .slice A2 ((allS ss5).length * 128) c2] _ (by kernel_rfl) (by kernel_rfl) (by kernel_rfl) (by kernel_rfl) (hsm) ?_
            rintro e Y4 ⟨rfl, hb4⟩
            refine ⟨_, rfl, hHeld.trans (hb4.mono hHeld.size), fun hHeld => ?_⟩
            clear hb4 hsm
            refine held_any 13 (Go.Op.unOp Go.UnOp.not 4 (Go.Operand.tmp 137)) (some 138) (.bool false) (by kernel_rfl) (by kernel_rfl) (by kernel_rfl) (by kernel_rfl) (fun _ _ _ _ _ h => h) hHeld (fun o ho w _ => exec_un (vx := .bool true) ho (by kernel_rfl) (by kernel_rfl)) ?_
            refine held_pick 14 (Go.Operand.tmp 132) (Go.Operand.const (Go.Value.bool true)) (Go.Operand.tmp 138) (some 139) false (.bool false) (by kernel_rfl) (by kernel_rfl) (by kernel_rfl) (by kernel_rfl) (by kernel_rfl) (by kernel_rfl) (fun _ _ _ _ _ h => h) hHeld ?_
            refine held_move 15 (Go.Operand.tmp 139) (some 140) (.bool false) (by kernel_rfl) (by kernel_rfl) (by kernel_rfl) (by kernel_rfl) (by kernel_rfl) (fun _ _ _ _ _ h => h) hHeld ?_
            refine held_move 16 (Go.Operand.tmp 6) (some 141) (.pointer (some ⟨D, 0, none⟩)) (by kernel_rfl) (by kernel_rfl) (by kernel_rfl) (by kernel_rfl) (by kernel_rfl) (fun _ _ _ _ _ h => h) hHeld ?_
            refine held_move 18 (Go.Operand.tmp 7) (some 143) (.pointer (some ⟨X, 0, none⟩)) (by kernel_rfl) (by kernel_rfl) (by kernel_rfl) (by kernel_rfl) (by kernel_rfl) (fun _ _ _ _ _ h => h) hHeld ?_
            refine held_nil 19 (Go.Operand.tmp 143) (some 144) ⟨X, 0, none⟩ (by kernel_rfl) (by kernel_rfl) (by kernel_rfl) (by kernel_rfl) (by kernel_rfl) (fun _ _ _ _ _ h => h) hHeld ?_
            refine held_field 20 51 (Go.Operand.tmp 144) 0 (some 145) (.pointer (some ⟨X, 0, none⟩)) (.pointer (some ⟨X, 0, none⟩)) (by kernel_rfl) (by kernel_rfl) (fun w => by kernel_rfl) (by kernel_rfl) (by kernel_rfl) (by kernel_rfl) (fun _ _ _ _ _ h => h) hHeld ?_
            refine held_cell 21 49 (Go.Operand.tmp 145) (some 146) (.pointer (some ⟨X, 0, none⟩)) (.slice (some ⟨T, 0, none⟩) (allS ss5).length cT) (by kernel_rfl) (by kernel_rfl) (fun W hW => load_slice X 0 W 49 (fun w => by kernel_rfl) _ ((hV5.below hW).x.c0)) (by kernel_rfl) (by kernel_rfl) (by kernel_rfl) (fun _ _ _ _ _ h => h) hHeld ?_
            refine held_any 22 (Go.Op.call { callee := Go.Callee.builtin Go.Builtin.len, args := #[Go.Operand.tmp 146], argTypes := #[49] }) (some 147) (.int .i64 ((allS ss5).length : Int)) (by kernel_rfl) (by kernel_rfl) (by kernel_rfl) (by kernel_rfl) (fun _ _ _ _ _ h => h) hHeld (fun o ho w _ => exec_lenA (vx := .slice (some ⟨T, 0, none⟩) (allS ss5).length cT) ho (by kernel_rfl) (fun _ => len_slice _ 62 _ Tryd.underlying49 _ _ _ _)) ?_
            refine held_call 17 27 #[Go.Operand.tmp 141] #[25] (some 142) #[.pointer (some ⟨D, 0, none⟩)] _ (by kernel_rfl) (by kernel_rfl) (by kernel_rfl) (by kernel_rfl) (size_any (hV5.below hHeld).d) ?_
            rintro e Y5 ⟨rfl, hb5⟩
            refine ⟨_, rfl, hHeld.trans (hb5.mono hHeld.size), fun hHeld => ?_⟩
            clear hb5
            refine held_bin 23 Go.BinOp.neq 3 (Go.Operand.tmp 142) (Go.Operand.tmp 147) 3 (some 148) (.int .i64 (ss5.length : Int)) (.int .i64 ((allS ss5).length : Int)) (.bool false) (by kernel_rfl) (by kernel_rfl) (fun w => neq_int _ _ _ w _ _ _ _ (by rw [allS_len]; exact decide_eq_true rfl)) (by kernel_rfl) (by kernel_rfl) (by kernel_rfl) (fun _ _ _ _ _ h => h) hHeld ?_
            refine held_pick 24 (Go.Operand.tmp 140) (Go.Operand.const (Go.Value.bool true)) (Go.Operand.tmp 148) (some 149) false (.bool false) (by kernel_rfl) (by kernel_rfl) (by kernel_rfl) (by kernel_rfl) (by kernel_rfl) (by kernel_rfl) (fun _ _ _ _ _ h => h) hHeld ?_
            refine wpAnyH_done (by kernel_rfl) ?_ _
            refine NoPanic.normal ?_
            have HF := Lib.hid (hV5.below hHeld)
            clear hV5 hHeld
            simp only [Act.put, List.setIfInBounds_toArray, List.set_cons_zero, List.set_cons_succ]
            go_wp2_with fail
            refine ⟨?rel, ?measure⟩
            case rel => exact ⟨i + 1, _, _, _, _, by omega, by go_num, HF.out⟩
            case measure => simp [intOf] <;> omega
          · refine wp_region_noPanic ?_
            refine wp_region_held_drew (S := fun W => W.cell? ⟨DB, 1, none⟩ = some (.int .i64 q.b) ∧ DB < W.heap.size) (by kernel_rfl) (⟨hc1, hD3⟩) (fun hHeld => ?_)
            refine held_move 0 (Go.Operand.tmp 6) (some 80) (.pointer (some ⟨D, 0, none⟩)) (by kernel_rfl) (by kernel_rfl) (by kernel_rfl) (by kernel_rfl) (by kernel_rfl) (fun _ _ _ _ _ h => h) hHeld ?_
            refine held_field 1 31 (Go.Operand.tmp 9) 1 (some 81) (.pointer (some ⟨DB, 0, none⟩)) (.pointer (some ⟨DB, 1, none⟩)) (by kernel_rfl) (by kernel_rfl) (fun w => by kernel_rfl) (by kernel_rfl) (by kernel_rfl) (by kernel_rfl) (fun _ _ _ _ _ h => h) hHeld ?_
            refine held_cell 2 3 (Go.Operand.tmp 81) (some 82) (.pointer (some ⟨DB, 1, none⟩)) (.int .i64 q.b) (by kernel_rfl) (by kernel_rfl) (fun W hW => load_i64 DB 1 W _ hW.1) (by kernel_rfl) (by kernel_rfl) (by kernel_rfl) (fun _ _ _ _ _ h => h) hHeld ?_
            refine held_move 3 (Go.Operand.tmp 10) (some 83) (.slice (some ⟨G, 0, none⟩) 128 128) (by kernel_rfl) (by kernel_rfl) (by kernel_rfl) (by kernel_rfl) (by kernel_rfl) (fun _ _ _ _ _ h => h) hHeld ?_
            refine held_move 5 (Go.Operand.tmp 7) (some 85) (.pointer (some ⟨X, 0, none⟩)) (by kernel_rfl) (by kernel_rfl) (by kernel_rfl) (by kernel_rfl) (by kernel_rfl) (fun _ _ _ _ _ h => h) hHeld ?_
            refine held_field 6 31 (Go.Operand.tmp 9) 1 (some 86) (.pointer (some ⟨DB, 0, none⟩)) (.pointer (some ⟨DB, 1, none⟩)) (by kernel_rfl) (by kernel_rfl) (fun w => by kernel_rfl) (by kernel_rfl) (by kernel_rfl) (by kernel_rfl) (fun _ _ _ _ _ h => h) hHeld ?_
            refine held_cell 7 3 (Go.Operand.tmp 86) (some 87) (.pointer (some ⟨DB, 1, none⟩)) (.int .i64 q.b) (by kernel_rfl) (by kernel_rfl) (fun W hW => load_i64 DB 1 W _ hW.1) (by kernel_rfl) (by kernel_rfl) (by kernel_rfl) (fun _ _ _ _ _ h => h) hHeld ?_
            refine held_move 8 (Go.Operand.tmp 10) (some 88) (.slice (some ⟨G, 0, none⟩) 128 128) (by kernel_rfl) (by kernel_rfl) (by kernel_rfl) (by kernel_rfl) (by kernel_rfl) (fun _ _ _ _ _ h => h) hHeld ?_
            refine held_call 4 13 #[Go.Operand.tmp 80, Go.Operand.tmp 82, Go.Operand.tmp 83] #[25, 3, 32] (some 84) #[.pointer (some ⟨D, 0, none⟩), .int .i64 q.b, .slice (some ⟨G, 0, none⟩) 128 128] _ (by kernel_rfl) (by kernel_rfl) (by kernel_rfl) (by kernel_rfl) (hwb 0 128 128 (.inl ⟨rfl, rfl, rfl⟩)) ?_
            rintro e V4 ⟨v4, c4, rfl, hrd4, ht4, hwb2⟩
            refine ⟨_, rfl, ⟨(ht4.cell hHeld.2 hnF).trans hHeld.1, Nat.lt_of_lt_of_le hHeld.2 ht4.size⟩, fun hHeld => ?_⟩
            clear ht4
            refine held_call 9 14 #[Go.Operand.tmp 85, Go.Operand.tmp 87, Go.Operand.tmp 88] #[27, 3, 32] (some 89) #[.pointer (some ⟨X, 0, none⟩), .int .i64 q.b, .slice (some ⟨G, 0, none⟩) 128 128] _ (by kernel_rfl) (by kernel_rfl) (by kernel_rfl) (by kernel_rfl) (hwb2) ?_
            rintro e V5 ⟨rfl, ht5, ss3, pv3, off3, fuse3, hW5⟩
            refine ⟨_, rfl, ⟨(ht5.cell hHeld.2 hnX).trans hHeld.1, Nat.lt_of_lt_of_le hHeld.2 ht5.size⟩, fun hHeld => ?_⟩
            clear ht5
            refine held_call 10 12 #[Go.Operand.tmp 84, Go.Operand.tmp 89] #[36, 3] (some 90) #[v4, .int .i64 c4] _ (by kernel_rfl) (by kernel_rfl) (by kernel_rfl) (by kernel_rfl) (is_same E v4 c4 hrd4 V5 (hW5.errs HE0.out)) ?_
            rintro e V6 ⟨rfl, hb6⟩
            refine ⟨_, rfl, ⟨(hb6.cell (p := ⟨DB, 1, none⟩) hHeld.2).trans hHeld.1, Nat.lt_of_lt_of_le hHeld.2 hb6.size⟩, fun hHeld => ?_⟩
            have HV4 := Lib.hid (hW5.below hb6)
            clear hW5 hb6 hwb hwb2 hc1 hc2 hD3
            refine held_any 11 (Go.Op.unOp Go.UnOp.not 4 (Go.Operand.tmp 90)) (some 91) (.bool false) (by kernel_rfl) (by kernel_rfl) (by kernel_rfl) (by kernel_rfl) (fun _ _ _ _ _ h => h) hHeld (fun o ho w _ => exec_un (vx := .bool true) ho (by kernel_rfl) (by kernel_rfl)) ?_
            refine wpAnyH_done (by kernel_rfl) ?_ _
            refine NoPanic.normal ?_
            simp only [Act.put, List.setIfInBounds_toArray, List.set_cons_zero, List.set_cons_succ]
            clear hHeld
            go_upto_region 39 with (fail)
            refine wp_world (fun W => ∃ ss5 pv5 off5 fuse5, BothS w0 W D R X T cT ss5 pv5 off5 fuse5 (i + 1)) ⟨_, _, _, _, HV4.out⟩ ?_
            rintro V ⟨ss5, pv5, off5, fuse5, hV5⟩
            clear HV4
            refine wp_region_noPanic ?_
            refine wp_region_held_drew (S := fun W => Below V.heap.size V W) (by kernel_rfl) (Below.drewNr (w := V) 1) (fun hHeld => ?_)
            refine held_move 0 (Go.Operand.tmp 6) (some 125) (.pointer (some ⟨D, 0, none⟩)) (by kernel_rfl) (by kernel_rfl) (by kernel_rfl) (by kernel_rfl) (by kernel_rfl) (fun _ _ _ _ _ h => h) hHeld ?_
            refine held_move 2 (Go.Operand.tmp 7) (some 127) (.pointer (some ⟨X, 0, none⟩)) (by kernel_rfl) (by kernel_rfl) (by kernel_rfl) (by kernel_rfl) (by kernel_rfl) (fun _ _ _ _ _ h => h) hHeld ?_
            refine held_nil 3 (Go.Operand.tmp 127) (some 128) ⟨X, 0, none⟩ (by kernel_rfl) (by kernel_rfl) (by kernel_rfl) (by kernel_rfl) (by kernel_rfl) (fun _ _ _ _ _ h => h) hHeld ?_
            refine held_field 4 51 (Go.Operand.tmp 128) 2 (some 129) (.pointer (some ⟨X, 0, none⟩)) (.pointer (some ⟨X, 2, none⟩)) (by kernel_rfl) (by kernel_rfl) (fun w => by kernel_rfl) (by kernel_rfl) (by kernel_rfl) (by kernel_rfl) (fun _ _ _ _ _ h => h) hHeld ?_
            refine held_cell 5 4 (Go.Operand.tmp 129) (some 130) (.pointer (some ⟨X, 2, none⟩)) (.bool off5) (by kernel_rfl) (by kernel_rfl) (fun W hW => load_bool X 2 W _ ((hV5.below hW).x.c2)) (by kernel_rfl) (by kernel_rfl) (by kernel_rfl) (fun _ _ _ _ _ h => h) hHeld ?_
            refine held_call 1 24 #[Go.Operand.tmp 125] #[25] (some 126) #[.pointer (some ⟨D, 0, none⟩)] _ (by kernel_rfl) (by kernel_rfl) (by kernel_rfl) (by kernel_rfl) (off_any (hV5.below hHeld).d) ?_
            rintro e Y1 ⟨rfl, hb1⟩
            refine ⟨_, rfl, hHeld.trans (hb1.mono hHeld.size), fun hHeld => ?_⟩
            clear hb1
            refine held_bin 6 Go.BinOp.neq 4 (Go.Operand.tmp 126) (Go.Operand.tmp 130) 4 (some 131) (.bool off5) (.bool off5) (.bool false) (by kernel_rfl) (by kernel_rfl) (fun w => by cases off5 <;> kernel_rfl) (by kernel_rfl) (by kernel_rfl) (by kernel_rfl) (fun _ _ _ _ _ h => h) hHeld ?_
            refine held_move 7 (Go.Operand.tmp 131) (some 132) (.bool false) (by kernel_rfl) (by kernel_rfl) (by kernel_rfl) (by kernel_rfl) (by kernel_rfl) (fun _ _ _ _ _ h => h) hHeld ?_
            refine held_move 8 (Go.Operand.tmp 6) (some 133) (.pointer (some ⟨D, 0, none⟩)) (by kernel_rfl) (by kernel_rfl) (by kernel_rfl) (by kernel_rfl) (by kernel_rfl) (fun _ _ _ _ _ h => h) hHeld ?_
            refine held_move 10 (Go.Operand.tmp 7) (some 135) (.pointer (some ⟨X, 0, none⟩)) (by kernel_rfl) (by kernel_rfl) (by kernel_rfl) (by kernel_rfl) (by kernel_rfl) (fun _ _ _ _ _ h => h) hHeld ?_
            refine held_call 9 25 #[Go.Operand.tmp 133] #[25] (some 134) #[.pointer (some ⟨D, 0, none⟩)] _ (by kernel_rfl) (by kernel_rfl) (by kernel_rfl) (by kernel_rfl) (image_any (hV5.below hHeld).d) ?_
            rintro e Y2 ⟨v1, rfl, hown1, hb2⟩
            obtain ⟨A1, c1, rfl, _⟩ := own_slice hown1
            have hr1 := SlRead.of_own hown1
            refine ⟨_, rfl, hHeld.trans (hb2.mono hHeld.size), fun hHeld => ?_⟩
            clear hb2 hown1
            refine held_call 11 26 #[Go.Operand.tmp 135] #[27] (some 136) #[.pointer (some ⟨X, 0, none⟩)] _ (by kernel_rfl) (by kernel_rfl) (by kernel_rfl) (by kernel_rfl) (dimage_any (hV5.below hHeld).x) ?_
            rintro e Y3 ⟨v2, rfl, hown2, hb3⟩
            obtain ⟨A2, c2, rfl, _⟩ := own_slice hown2
            have hsm := same_img ss5 hV5.d.len.2 A1 c1 A2 c2 Y3 (hr1.below hb3) (SlRead.of_own hown2)
            refine ⟨_, rfl, hHeld.trans (hb3.mono hHeld.size), fun hHeld => ?_⟩
            clear hb3 hr1 hown2
            refine held_call 12 23 #[Go.Operand.tmp 134, Go.Operand.tmp 136] #[32, 32] (some 137) #[.slice A1 (ss5.length * 128) c1, .slice A2 ((allS ss5).length * 128) c2] _ (by kernel_rfl) (by kernel_rfl) (by kernel_rfl) (by kernel_rfl) (hsm) ?_
            rintro e Y4 ⟨rfl, hb4⟩
            refine ⟨_, rfl, hHeld.trans (hb4.mono hHeld.size), fun hHeld => ?_⟩
            clear hb4 hsm
            refine held_any 13 (Go.Op.unOp Go.UnOp.not 4 (Go.Operand.tmp 137)) (some 138) (.bool false) (by kernel_rfl) (by kernel_rfl) (by kernel_rfl) (by kernel_rfl) (fun _ _ _ _ _ h => h) hHeld (fun o ho w _ => exec_un (vx := .bool true) ho (by kernel_rfl) (by kernel_rfl)) ?_
            refine held_pick 14 (Go.Operand.tmp 132) (Go.Operand.const (Go.Value.bool true)) (Go.Operand.tmp 138) (some 139) false (.bool false) (by kernel_rfl) (by kernel_rfl) (by kernel_rfl) (by kernel_rfl) (by kernel_rfl) (by kernel_rfl) (fun _ _ _ _ _ h => h) hHeld ?_
            refine held_move 15 (Go.Operand.tmp 139) (some 140) (.bool false) (by kernel_rfl) (by kernel_rfl) (by kernel_rfl) (by kernel_rfl) (by kernel_rfl) (fun _ _ _ _ _ h => h) hHeld ?_
            refine held_move 16 (Go.Operand.tmp 6) (some 141) (.pointer (some ⟨D, 0, none⟩)) (by kernel_rfl) (by kernel_rfl) (by kernel_rfl) (by kernel_rfl) (by kernel_rfl) (fun _ _ _ _ _ h => h) hHeld ?_
            refine held_move 18 (Go.Operand.tmp 7) (some 143) (.pointer (some ⟨X, 0, none⟩)) (by kernel_rfl) (by kernel_rfl) (by kernel_rfl) (by kernel_rfl) (by kernel_rfl) (fun _ _ _ _ _ h => h) hHeld ?_
            refine held_nil 19 (Go.Operand.tmp 143) (some 144) ⟨X, 0, none⟩ (by kernel_rfl) (by kernel_rfl) (by kernel_rfl) (by kernel_rfl) (by kernel_rfl) (fun _ _ _ _ _ h => h) hHeld ?_
            refine held_field 20 51 (Go.Operand.tmp 144) 0 (some 145) (.pointer (some ⟨X, 0, none⟩)) (.pointer (some ⟨X, 0, none⟩)) (by kernel_rfl) (by kernel_rfl) (fun w => by kernel_rfl) (by kernel_rfl) (by kernel_rfl) (by kernel_rfl) (fun _ _ _ _ _ h => h) hHeld ?_
            refine held_cell 21 49 (Go.Operand.tmp 145) (some 146) (.pointer (some ⟨X, 0, none⟩)) (.slice (some ⟨T, 0, none⟩) (allS ss5).length cT) (by kernel_rfl) (by kernel_rfl) (fun W hW => load_slice X 0 W 49 (fun w => by kernel_rfl) _ ((hV5.below hW).x.c0)) (by kernel_rfl) (by kernel_rfl) (by kernel_rfl) (fun _ _ _ _ _ h => h) hHeld ?_
            refine held_any 22 (Go.Op.call { callee := Go.Callee.builtin Go.Builtin.len, args := #[Go.Operand.tmp 146], argTypes := #[49] }) (some 147) (.int .i64 ((allS ss5).length : Int)) (by kernel_rfl) (by kernel_rfl) (by kernel_rfl) (by kernel_rfl) (fun _ _ _ _ _ h => h) hHeld (fun o ho w _ => exec_lenA (vx := .slice (some ⟨T, 0, none⟩) (allS ss5).length cT) ho (by kernel_rfl) (fun _ => len_slice _ 62 _ Tryd.underlying49 _ _ _ _)) ?_
            refine held_call 17 27 #[Go.Operand.tmp 141] #[25] (some 142) #[.pointer (some ⟨D, 0, none⟩)] _ (by kernel_rfl) (by kernel_rfl) (by kernel_rfl) (by kernel_rfl) (size_any (hV5.below hHeld).d) ?_
            rintro e Y5 ⟨rfl, hb5⟩
            refine ⟨_, rfl, hHeld.trans (hb5.mono hHeld.size), fun hHeld => ?_⟩
            clear hb5
            refine held_bin 23 Go.BinOp.neq 3 (Go.Operand.tmp 142) (Go.Operand.tmp 147) 3 (some 148) (.int .i64 (ss5.length : Int)) (.int .i64 ((allS ss5).length : Int)) (.bool false) (by kernel_rfl) (by kernel_rfl) (fun w => neq_int _ _ _ w _ _ _ _ (by rw [allS_len]; exact decide_eq_true rfl)) (by kernel_rfl) (by kernel_rfl) (by kernel_rfl) (fun _ _ _ _ _ h => h) hHeld ?_
            refine held_pick 24 (Go.Operand.tmp 140) (Go.Operand.const (Go.Value.bool true)) (Go.Operand.tmp 148) (some 149) false (.bool false) (by kernel_rfl) (by kernel_rfl) (by kernel_rfl) (by kernel_rfl) (by kernel_rfl) (by kernel_rfl) (fun _ _ _ _ _ h => h) hHeld ?_
            refine wpAnyH_done (by kernel_rfl) ?_ _
            refine NoPanic.normal ?_
            have HF := Lib.hid (hV5.below hHeld)
            clear hV5 hHeld
            simp only [Act.put, List.setIfInBounds_toArray, List.set_cons_zero, List.set_cons_succ]
            go_wp2_with fail
            refine ⟨?rel, ?measure⟩
            case rel => exact ⟨i + 1, _, _, _, _, by omega, by go_num, HF.out⟩
            case measure => simp [intOf] <;> omega
        · have hfil := filled_any q.c V1
          clear hK3
          go_upto_region 24 with (go_at_call 11; refine hfil.mono ?_; rintro e V2 ⟨rfl, hrow, hb2⟩)
          obtain ⟨G, hG⟩ : ∃ G, G = V1.heap.size := ⟨_, rfl⟩
          rw [← hG] at hrow ⊢
          have hG0 : V1.heap.size ≤ G := by rw [hG]; exact Nat.le_refl _
          refine wp_world (fun W => Below V1.heap.size V1 W ∧ W.rangeAt G 0 (bcells (fillL q.c)) ∧ W.cell? ⟨DB, 1, none⟩ = some (.int .i64 q.b) ∧ W.cell? ⟨DB, 2, none⟩ = some (.int .i64 q.c) ∧ DB < W.heap.size) ⟨hb2, range_new hrow, (hb2.cell (p := ⟨DB, 1, none⟩) hDl).trans DB1.out, (hb2.cell (p := ⟨DB, 2, none⟩) hDl).trans hc2, Nat.lt_of_lt_of_le hDl hb2.size⟩ ?_
          clear hrow hb2 hfil hc2 hG
          rintro V3 ⟨hb3, hr3, hc1, hc2, hD3⟩
          have hwb := fun o m c h => write_both (V := V3.drew) HE0.out hV1 hi60 (hb3.trans ((Below.drewNr (w := V3) 1).mono hb3.size)) G hG0 (fillL q.c) (fillL_len _) hr3 q.b o m c h
          clear hr3 hV1
          go_wp2_with fail
          · refine wp_region_noPanic ?_
            refine wp_region_held_drew (S := fun W => W.cell? ⟨DB, 1, none⟩ = some (.int .i64 q.b) ∧ DB < W.heap.size) (by kernel_rfl) (⟨hc1, hD3⟩) (fun hHeld => ?_)
            refine held_move 0 (Go.Operand.tmp 6) (some 80) (.pointer (some ⟨D, 0, none⟩)) (by kernel_rfl) (by kernel_rfl) (by kernel_rfl) (by kernel_rfl) (by kernel_rfl) (fun _ _ _ _ _ h => h) hHeld ?_
            refine held_field 1 31 (Go.Operand.tmp 9) 1 (some 81) (.pointer (some ⟨DB, 0, none⟩)) (.pointer (some ⟨DB, 1, none⟩)) (by kernel_rfl) (by kernel_rfl) (fun w => by kernel_rfl) (by kernel_rfl) (by kernel_rfl) (by kernel_rfl) (fun _ _ _ _ _ h => h) hHeld ?_
            refine held_cell 2 3 (Go.Operand.tmp 81) (some 82) (.pointer (some ⟨DB, 1, none⟩)) (.int .i64 q.b) (by kernel_rfl) (by kernel_rfl) (fun W hW => load_i64 DB 1 W _ hW.1) (by kernel_rfl) (by kernel_rfl) (by kernel_rfl) (fun _ _ _ _ _ h => h) hHeld ?_
            refine held_move 3 (Go.Operand.tmp 10) (some 83) (.slice (some ⟨G, 1, none⟩) 127 127) (by kernel_rfl) (by kernel_rfl) (by kernel_rfl) (by kernel_rfl) (by kernel_rfl) (fun _ _ _ _ _ h => h) hHeld ?_
            refine held_move 5 (Go.Operand.tmp 7) (some 85) (.pointer (some ⟨X, 0, none⟩)) (by kernel_rfl) (by kernel_rfl) (by kernel_rfl) (by kernel_rfl) (by kernel_rfl) (fun _ _ _ _ _ h => h) hHeld ?_
            refine held_field 6 31 (Go.Operand.tmp 9) 1 (some 86) (.pointer (some ⟨DB, 0, none⟩)) (.pointer (some ⟨DB, 1, none⟩)) (by kernel_rfl) (by kernel_rfl) (fun w => by kernel_rfl) (by kernel_rfl) (by kernel_rfl) (by kernel_rfl) (fun _ _ _ _ _ h => h) hHeld ?_
            refine held_cell 7 3 (Go.Operand.tmp 86) (some 87) (.pointer (some ⟨DB, 1, none⟩)) (.int .i64 q.b) (by kernel_rfl) (by kernel_rfl) (fun W hW => load_i64 DB 1 W _ hW.1) (by kernel_rfl) (by kernel_rfl) (by kernel_rfl) (fun _ _ _ _ _ h => h) hHeld ?_
            refine held_move 8 (Go.Operand.tmp 10) (some 88) (.slice (some ⟨G, 1, none⟩) 127 127) (by kernel_rfl) (by kernel_rfl) (by kernel_rfl) (by kernel_rfl) (by kernel_rfl) (fun _ _ _ _ _ h => h) hHeld ?_
            refine held_call 4 13 #[Go.Operand.tmp 80, Go.Operand.tmp 82, Go.Operand.tmp 83] #[25, 3, 32] (some 84) #[.pointer (some ⟨D, 0, none⟩), .int .i64 q.b, .slice (some ⟨G, 1, none⟩) 127 127] _ (by kernel_rfl) (by kernel_rfl) (by kernel_rfl) (by kernel_rfl) (hwb 1 127 127 (.inr (by decide))) ?_
            rintro e V4 ⟨v4, c4, rfl, hrd4, ht4, hwb2⟩
            refine ⟨_, rfl, ⟨(ht4.cell hHeld.2 hnF).trans hHeld.1, Nat.lt_of_lt_of_le hHeld.2 ht4.size⟩, fun hHeld => ?_⟩
            clear ht4
            refine held_call 9 14 #[Go.Operand.tmp 85, Go.Operand.tmp 87, Go.Operand.tmp 88] #[27, 3, 32] (some 89) #[.pointer (some ⟨X, 0, none⟩), .int .i64 q.b, .slice (some ⟨G, 1, none⟩) 127 127] _ (by kernel_rfl) (by kernel_rfl) (by kernel_rfl) (by kernel_rfl) (hwb2) ?_
            rintro e V5 ⟨rfl, ht5, ss3, pv3, off3, fuse3, hW5⟩
            refine ⟨_, rfl, ⟨(ht5.cell hHeld.2 hnX).trans hHeld.1, Nat.lt_of_lt_of_le hHeld.2 ht5.size⟩, fun hHeld => ?_⟩
            clear ht5
            refine held_call 10 12 #[Go.Operand.tmp 84, Go.Operand.tmp 89] #[36, 3] (some 90) #[v4, .int .i64 c4] _ (by kernel_rfl) (by kernel_rfl) (by kernel_rfl) (by kernel_rfl) (is_same E v4 c4 hrd4 V5 (hW5.errs HE0.out)) ?_
            rintro e V6 ⟨rfl, hb6⟩
            refine ⟨_, rfl, ⟨(hb6.cell (p := ⟨DB, 1, none⟩) hHeld.2).trans hHeld.1, Nat.lt_of_lt_of_le hHeld.2 hb6.size⟩, fun hHeld => ?_⟩
            have HV4 := Lib.hid (hW5.below hb6)
            clear hW5 hb6 hwb hwb2 hc1 hc2 hD3
            refine held_any 11 (Go.Op.unOp Go.UnOp.not 4 (Go.Operand.tmp 90)) (some 91) (.bool false) (by kernel_rfl) (by kernel_rfl) (by kernel_rfl) (by kernel_rfl) (fun _ _ _ _ _ h => h) hHeld (fun o ho w _ => exec_un (vx := .bool true) ho (by kernel_rfl) (by kernel_rfl)) ?_
            refine wpAnyH_done (by kernel_rfl) ?_ _
            refine NoPanic.normal ?_
            simp only [Act.put, List.setIfInBounds_toArray, List.set_cons_zero, List.set_cons_succ]
            clear hHeld
            go_upto_region 39 with (fail)
            refine wp_world (fun W => ∃ ss5 pv5 off5 fuse5, BothS w0 W D R X T cT ss5 pv5 off5 fuse5 (i + 1)) ⟨_, _, _, _, HV4.out⟩ ?_
            rintro V ⟨ss5, pv5, off5, fuse5, hV5⟩
            clear HV4
            refine wp_region_noPanic ?_
            refine wp_region_held_drew (S := fun W => Below V.heap.size V W) (by kernel_rfl) (Below.drewNr (w := V) 1) (fun hHeld => ?_)
            refine held_move 0 (Go.Operand.tmp 6) (some 125) (.pointer (some ⟨D, 0, none⟩)) (by kernel_rfl) (by kernel_rfl) (by kernel_rfl) (by kernel_rfl) (by kernel_rfl) (fun _ _ _ _ _ h => h) hHeld ?_
            refine held_move 2 (Go.Operand.tmp 7) (some 127) (.pointer (some ⟨X, 0, none⟩)) (by kernel_rfl) (by kernel_rfl) (by kernel_rfl) (by kernel_rfl) (by kernel_rfl) (fun _ _ _ _ _ h => h) hHeld ?_
            refine held_nil 3 (Go.Operand.tmp 127) (some 128) ⟨X, 0, none⟩ (by kernel_rfl) (by kernel_rfl) (by kernel_rfl) (by kernel_rfl) (by kernel_rfl) (fun _ _ _ _ _ h => h) hHeld ?_
            refine held_field 4 51 (Go.Operand.tmp 128) 2 (some 129) (.pointer (some ⟨X, 0, none⟩)) (.pointer (some ⟨X, 2, none⟩)) (by kernel_rfl) (by kernel_rfl) (fun w => by kernel_rfl) (by kernel_rfl) (by kernel_rfl) (by kernel_rfl) (fun _ _ _ _ _ h => h) hHeld ?_
            refine held_cell 5 4 (Go.Operand.tmp 129) (some 130) (.pointer (some ⟨X, 2, none⟩)) (.bool off5) (by kernel_rfl) (by kernel_rfl) (fun W hW => load_bool X 2 W _ ((hV5.below hW).x.c2)) (by kernel_rfl) (by kernel_rfl) (by kernel_rfl) (fun _ _ _ _ _ h => h) hHeld ?_
            refine held_call 1 24 #[Go.Operand.tmp 125] #[25] (some 126) #[.pointer (some ⟨D, 0, none⟩)] _ (by kernel_rfl) (by kernel_rfl) (by kernel_rfl) (by kernel_rfl) (off_any (hV5.below hHeld).d) ?_
            rintro e Y1 ⟨rfl, hb1⟩
            refine ⟨_, rfl, hHeld.trans (hb1.mono hHeld.size), fun hHeld => ?_⟩
            clear hb1
            refine held_bin 6 Go.BinOp.neq 4 (Go.Operand.tmp 126) (Go.Operand.tmp 130) 4 (some 131) (.bool off5) (.bool off5) (.bool false) (by kernel_rfl) (by kernel_rfl) (fun w => by cases off5 <;> kernel_rfl) (by kernel_rfl) (by kernel_rfl) (by kernel_rfl) (fun _ _ _ _ _ h => h) hHeld ?_
            refine held_move 7 (Go.Operand.tmp 131) (some 132) (.bool false) (by kernel_rfl) (by kernel_rfl) (by kernel_rfl) (by kernel_rfl) (by kernel_rfl) (fun _ _ _ _ _ h => h) hHeld ?_
            refine held_move 8 (Go.Operand.tmp 6) (some 133) (.pointer (some ⟨D, 0, none⟩)) (by kernel_rfl) (by kernel_rfl) (by kernel_rfl) (by kernel_rfl) (by kernel_rfl) (fun _ _ _ _ _ h => h) hHeld ?_
            refine held_move 10 (Go.Operand.tmp 7) (some 135) (.pointer (some ⟨X, 0, none⟩)) (by kernel_rfl) (by kernel_rfl) (by kernel_rfl) (by kernel_rfl) (by kernel_rfl) (fun _ _ _ _ _ h => h) hHeld ?_
            refine held_call 9 25 #[Go.Operand.tmp 133] #[25] (some 134) #[.pointer (some ⟨D, 0, none⟩)] _ (by kernel_rfl) (by kernel_rfl) (by kernel_rfl) (by kernel_rfl) (image_any (hV5.below hHeld).d) ?_
            rintro e Y2 ⟨v1, rfl, hown1, hb2⟩
            obtain ⟨A1, c1, rfl, _⟩ := own_slice hown1
            have hr1 := SlRead.of_own hown1
            refine ⟨_, rfl, hHeld.trans (hb2.mono hHeld.size), fun hHeld => ?_⟩
            clear hb2 hown1
            refine held_call 11 26 #[Go.Operand.tmp 135] #[27] (some 136) #[.pointer (some ⟨X, 0, none⟩)] _ (by kernel_rfl) (by kernel_rfl) (by kernel_rfl) (by kernel_rfl) (dimage_any (hV5.below hHeld).x) ?_
            rintro e Y3 ⟨v2, rfl, hown2, hb3⟩
            obtain ⟨A2, c2, rfl, _⟩ := own_slice hown2
            have hsm := same_img ss5 hV5.d.len.2 A1 c1 A2 c2 Y3 (hr1.below hb3) (SlRead.of_own hown2)
            refine ⟨_, rfl, hHeld.trans (hb3.mono hHeld.size), fun hHeld => ?_⟩
            clear hb3 hr1 hown2
            refine held_call 12 23 #[Go.Operand.tmp 134, Go.Operand.tmp 136] #[32, 32] (some 137) #[.slice A1 (ss5.length * 128) c1, .slice A2 ((allS ss5).length * 128) c2] _ (by kernel_rfl) (by kernel_rfl) (by kernel_rfl) (by kernel_rfl) (hsm) ?_
            rintro e Y4 ⟨rfl, hb4⟩
            refine ⟨_, rfl, hHeld.trans (hb4.mono hHeld.size), fun hHeld => ?_⟩
            clear hb4 hsm
            refine held_any 13 (Go.Op.unOp Go.UnOp.not 4 (Go.Operand.tmp 137)) (some 138) (.bool false) (by kernel_rfl) (by kernel_rfl) (by kernel_rfl) (by kernel_rfl) (fun _ _ _ _ _ h => h) hHeld (fun o ho w _ => exec_un (vx := .bool true) ho (by kernel_rfl) (by kernel_rfl)) ?_
            refine held_pick 14 (Go.Operand.tmp 132) (Go.Operand.const (Go.Value.bool true)) (Go.Operand.tmp 138) (some 139) false (.bool false) (by kernel_rfl) (by kernel_rfl) (by kernel_rfl) (by kernel_rfl) (by kernel_rfl) (by kernel_rfl) (fun _ _ _ _ _ h => h) hHeld ?_
            refine held_move 15 (Go.Operand.tmp 139) (some 140) (.bool false) (by kernel_rfl) (by kernel_rfl) (by kernel_rfl) (by kernel_rfl) (by kernel_rfl) (fun _ _ _ _ _ h => h) hHeld ?_
            refine held_move 16 (Go.Operand.tmp 6) (some 141) (.pointer (some ⟨D, 0, none⟩)) (by kernel_rfl) (by kernel_rfl) (by kernel_rfl) (by kernel_rfl) (by kernel_rfl) (fun _ _ _ _ _ h => h) hHeld ?_
            refine held_move 18 (Go.Operand.tmp 7) (some 143) (.pointer (some ⟨X, 0, none⟩)) (by kernel_rfl) (by kernel_rfl) (by kernel_rfl) (by kernel_rfl) (by kernel_rfl) (fun _ _ _ _ _ h => h) hHeld ?_
            refine held_nil 19 (Go.Operand.tmp 143) (some 144) ⟨X, 0, none⟩ (by kernel_rfl) (by kernel_rfl) (by kernel_rfl) (by kernel_rfl) (by kernel_rfl) (fun _ _ _ _ _ h => h) hHeld ?_
            refine held_field 20 51 (Go.Operand.tmp 144) 0 (some 145) (.pointer (some ⟨X, 0, none⟩)) (.pointer (some ⟨X, 0, none⟩)) (by kernel_rfl) (by kernel_rfl) (fun w => by kernel_rfl) (by kernel_rfl) (by kernel_rfl) (by kernel_rfl) (fun _ _ _ _ _ h => h) hHeld ?_
            refine held_cell 21 49 (Go.Operand.tmp 145) (some 146) (.pointer (some ⟨X, 0, none⟩)) (.slice (some ⟨T, 0, none⟩) (allS ss5).length cT) (by kernel_rfl) (by kernel_rfl) (fun W hW => load_slice X 0 W 49 (fun w => by kernel_rfl) _ ((hV5.below hW).x.c0)) (by kernel_rfl) (by kernel_rfl) (by kernel_rfl) (fun _ _ _ _ _ h => h) hHeld ?_
            refine held_any 22 (Go.Op.call { callee := Go.Callee.builtin Go.Builtin.len, args := #[Go.Operand.tmp 146], argTypes := #[49] }) (some 147) (.int .i64 ((allS ss5).length : Int)) (by kernel_rfl) (by kernel_rfl) (by kernel_rfl) (by kernel_rfl) (fun _ _ _ _ _ h => h) hHeld (fun o ho w _ => exec_lenA (vx := .slice (some ⟨T, 0, none⟩) (allS ss5).length cT) ho (by kernel_rfl) (fun _ => len_slice _ 62 _ Tryd.underlying49 _ _ _ _)) ?_
            refine held_call 17 27 #[Go.Operand.tmp 141] #[25] (some 142) #[.pointer (some ⟨D, 0, none⟩)] _ (by kernel_rfl) (by kernel_rfl) (by kernel_rfl) (by kernel_rfl) (size_any (hV5.below hHeld).d) ?_
            rintro e Y5 ⟨rfl, hb5⟩
            refine ⟨_, rfl, hHeld.trans (hb5.mono hHeld.size), fun hHeld => ?_⟩
            clear hb5
            refine held_bin 23 Go.BinOp.neq 3 (Go.Operand.tmp 142) (Go.Operand.tmp 147) 3 (some 148) (.int .i64 (ss5.length : Int)) (.int .i64 ((allS ss5).length : Int)) (.bool false) (by kernel_rfl) (by kernel_rfl) (fun w => neq_int _ _ _ w _ _ _ _ (by rw [allS_len]; exact decide_eq_true rfl)) (by kernel_rfl) (by kernel_rfl) (by kernel_rfl) (fun _ _ _ _ _ h => h) hHeld ?_
            refine held_pick 24 (Go.Operand.tmp 140) (Go.Operand.const (Go.Value.bool true)) (Go.Operand.tmp 148) (some 149) false (.bool false) (by kernel_rfl) (by kernel_rfl) (by kernel_rfl) (by kernel_rfl) (by kernel_rfl) (by kernel_rfl) (fun _ _ _ _ _ h => h) hHeld ?_
            refine wpAnyH_done (by kernel_rfl) ?_ _
            refine NoPanic.normal ?_
            have HF := Lib.hid (hV5.below hHeld)
            clear hV5 hHeld
            simp only [Act.put, List.setIfInBounds_toArray, List.set_cons_zero, List.set_cons_succ]
            go_wp2_with fail
            refine ⟨?rel, ?measure⟩
            case rel => exact ⟨i + 1, _, _, _, _, by omega, by go_num, HF.out⟩
            case measure => simp [intOf] <;> omega
          · refine wp_region_noPanic ?_
            refine wp_region_held_drew (S := fun W => W.cell? ⟨DB, 1, none⟩ = some (.int .i64 q.b) ∧ DB < W.heap.size) (by kernel_rfl) (⟨hc1, hD3⟩) (fun hHeld => ?_)
            refine held_move 0 (Go.Operand.tmp 6) (some 80) (.pointer (some ⟨D, 0, none⟩)) (by kernel_rfl) (by kernel_rfl) (by kernel_rfl) (by kernel_rfl) (by kernel_rfl) (fun _ _ _ _ _ h => h) hHeld ?_
            refine held_field 1 31 (Go.Operand.tmp 9) 1 (some 81) (.pointer (some ⟨DB, 0, none⟩)) (.pointer (some ⟨DB, 1, none⟩)) (by kernel_rfl) (by kernel_rfl) (fun w => by kernel_rfl) (by kernel_rfl) (by kernel_rfl) (by kernel_rfl) (fun _ _ _ _ _ h => h) hHeld ?_
            refine held_cell 2 3 (Go.Operand.tmp 81) (some 82) (.pointer (some ⟨DB, 1, none⟩)) (.int .i64 q.b) (by kernel_rfl) (by kernel_rfl) (fun W hW => load_i64 DB 1 W _ hW.1) (by kernel_rfl) (by kernel_rfl) (by kernel_rfl) (fun _ _ _ _ _ h => h) hHeld ?_
            refine held_move 3 (Go.Operand.tmp 10) (some 83) (.slice (some ⟨G, 0, none⟩) 128 128) (by kernel_rfl) (by kernel_rfl) (by kernel_rfl) (by kernel_rfl) (by kernel_rfl) (fun _ _ _ _ _ h => h) hHeld ?_
            refine held_move 5 (Go.Operand.tmp 7) (some 85) (.pointer (some ⟨X, 0, none⟩)) (by kernel_rfl) (by kernel_rfl) (by kernel_rfl) (by kernel_rfl) (by kernel_rfl) (fun _ _ _ _ _ h => h) hHeld ?_
            refine held_field 6 31 (Go.Operand.tmp 9) 1 (some 86) (.pointer (some ⟨DB, 0, none⟩)) (.pointer (some ⟨DB, 1, none⟩)) (by kernel_rfl) (by kernel_rfl) (fun w => by kernel_rfl) (by kernel_rfl) (by kernel_rfl) (by kernel_rfl) (fun _ _ _ _ _ h => h) hHeld ?_
            refine held_cell 7 3 (Go.Operand.tmp 86) (some 87) (.pointer (some ⟨DB, 1, none⟩)) (.int .i64 q.b) (by kernel_rfl) (by kernel_rfl) (fun W hW => load_i64 DB 1 W _ hW.1) (by kernel_rfl) (by kernel_rfl) (by kernel_rfl) (fun _ _ _ _ _ h => h) hHeld ?_
            refine held_move 8 (Go.Operand.tmp 10) (some 88) (.slice (some ⟨G, 0, none⟩) 128 128) (by kernel_rfl) (by kernel_rfl) (by kernel_rfl) (by kernel_rfl) (by kernel_rfl) (fun _ _ _ _ _ h => h) hHeld ?_
            refine held_call 4 13 #[Go.Operand.tmp 80, Go.Operand.tmp 82, Go.Operand.tmp 83] #[25, 3, 32] (some 84) #[.pointer (some ⟨D, 0, none⟩), .int .i64 q.b, .slice (some ⟨G, 0, none⟩) 128 128] _ (by kernel_rfl) (by kernel_rfl) (by kernel_rfl) (by kernel_rfl) (hwb 0 128 128 (.inl ⟨rfl, rfl, rfl⟩)) ?_
            rintro e V4 ⟨v4, c4, rfl, hrd4, ht4, hwb2⟩
            refine ⟨_, rfl, ⟨(ht4.cell hHeld.2 hnF).trans hHeld.1, Nat.lt_of_lt_of_le hHeld.2 ht4.size⟩, fun hHeld => ?_⟩
            clear ht4
            refine held_call 9 14 #[Go.Operand.tmp 85, Go.Operand.tmp 87, Go.Operand.tmp 88] #[27, 3, 32] (some 89) #[.pointer (some ⟨X, 0, none⟩), .int .i64 q.b, .slice (some ⟨G, 0, none⟩) 128 128] _ (by kernel_rfl) (by kernel_rfl) (by kernel_rfl) (by kernel_rfl) (hwb2) ?_
            rintro e V5 ⟨rfl, ht5, ss3, pv3, off3, fuse3, hW5⟩
            refine ⟨_, rfl, ⟨(ht5.cell hHeld.2 hnX).trans hHeld.1, Nat.lt_of_lt_of_le hHeld.2 ht5.size⟩, fun hHeld => ?_⟩
            clear ht5
            refine held_call 10 12 #[Go.Operand.tmp 84, Go.Operand.tmp 89] #[36, 3] (some 90) #[v4, .int .i64 c4] _ (by kernel_rfl) (by kernel_rfl) (by kernel_rfl) (by kernel_rfl) (is_same E v4 c4 hrd4 V5 (hW5.errs HE0.out)) ?_
            rintro e V6 ⟨rfl, hb6⟩
            refine ⟨_, rfl, ⟨(hb6.cell (p := ⟨DB, 1, none⟩) hHeld.2).trans hHeld.1, Nat.lt_of_lt_of_le hHeld.2 hb6.size⟩, fun hHeld => ?_⟩
            have HV4 := Lib.hid (hW5.below hb6)
            clear hW5 hb6 hwb hwb2 hc1 hc2 hD3
            refine held_any 11 (Go.Op.unOp Go.UnOp.not 4 (Go.Operand.tmp 90)) (some 91) (.bool false) (by kernel_rfl) (by kernel_rfl) (by kernel_rfl) (by kernel_rfl) (fun _ _ _ _ _ h => h) hHeld (fun o ho w _ => exec_un (vx := .bool true) ho (by kernel_rfl) (by kernel_rfl)) ?_
            refine wpAnyH_done (by kernel_rfl) ?_ _
            refine NoPanic.normal ?_
            simp only [Act.put, List.setIfInBounds_toArray, List.set_cons_zero, List.set_cons_succ]
            clear hHeld
            go_upto_region 39 with (fail)
            refine wp_world (fun W => ∃ ss5 pv5 off5 fuse5, BothS w0 W D R X T cT ss5 pv5 off5 fuse5 (i + 1)) ⟨_, _, _, _, HV4.out⟩ ?_
            rintro V ⟨ss5, pv5, off5, fuse5, hV5⟩
            clear HV4
            refine wp_region_noPanic ?_
            refine wp_region_held_drew (S := fun W => Below V.heap.size V W) (by kernel_rfl) (Below.drewNr (w := V) 1) (fun hHeld => ?_)
            refine held_move 0 (Go.Operand.tmp 6) (some 125) (.pointer (some ⟨D, 0, none⟩)) (by kernel_rfl) (by kernel_rfl) (by kernel_rfl) (by kernel_rfl) (by kernel_rfl) (fun _ _ _ _ _ h => h) hHeld ?_
            refine held_move 2 (Go.Operand.tmp 7) (some 127) (.pointer (some ⟨X, 0, none⟩)) (by kernel_rfl) (by kernel_rfl) (by kernel_rfl) (by kernel_rfl) (by kernel_rfl) (fun _ _ _ _ _ h => h) hHeld ?_
            refine held_nil 3 (Go.Operand.tmp 127) (some 128) ⟨X, 0, none⟩ (by kernel_rfl) (by kernel_rfl) (by kernel_rfl) (by kernel_rfl) (by kernel_rfl) (fun _ _ _ _ _ h => h) hHeld ?_
            refine held_field 4 51 (Go.Operand.tmp 128) 2 (some 129) (.pointer (some ⟨X, 0, none⟩)) (.pointer (some ⟨X, 2, none⟩)) (by kernel_rfl) (by kernel_rfl) (fun w => by kernel_rfl) (by kernel_rfl) (by kernel_rfl) (by kernel_rfl) (fun _ _ _ _ _ h => h) hHeld ?_
            refine held_cell 5 4 (Go.Operand.tmp 129) (some 130) (.pointer (some ⟨X, 2, none⟩)) (.bool off5) (by kernel_rfl) (by kernel_rfl) (fun W hW => load_bool X 2 W _ ((hV5.below hW).x.c2)) (by kernel_rfl) (by kernel_rfl) (by kernel_rfl) (fun _ _ _ _ _ h => h) hHeld ?_
            refine held_call 1 24 #[Go.Operand.tmp 125] #[25] (some 126) #[.pointer (some ⟨D, 0, none⟩)] _ (by kernel_rfl) (by kernel_rfl) (by kernel_rfl) (by kernel_rfl) (off_any (hV5.below hHeld).d) ?_
            rintro e Y1 ⟨rfl, hb1⟩
            refine ⟨_, rfl, hHeld.trans (hb1.mono hHeld.size), fun hHeld => ?_⟩
            clear hb1
            refine held_bin 6 Go.BinOp.neq 4 (Go.Operand.tmp 126) (Go.Operand.tmp 130) 4 (some 131) (.bool off5) (.bool off5) (.bool false) (by kernel_rfl) (by kernel_rfl) (fun w => by cases off5 <;> kernel_rfl) (by kernel_rfl) (by kernel_rfl) (by kernel_rfl) (fun _ _ _ _ _ h => h) hHeld ?_
            refine held_move 7 (Go.Operand.tmp 131) (some 132) (.bool false) (by kernel_rfl) (by kernel_rfl) (by kernel_rfl) (by kernel_rfl) (by kernel_rfl) (fun _ _ _ _ _ h => h) hHeld ?_
            refine held_move 8 (Go.Operand.tmp 6) (some 133) (.pointer (some ⟨D, 0, none⟩)) (by kernel_rfl) (by kernel_rfl) (by kernel_rfl) (by kernel_rfl) (by kernel_rfl) (fun _ _ _ _ _ h => h) hHeld ?_
            refine held_move 10 (Go.Operand.tmp 7) (some 135) (.pointer (some ⟨X, 0, none⟩)) (by kernel_rfl) (by kernel_rfl) (by kernel_rfl) (by kernel_rfl) (by kernel_rfl) (fun _ _ _ _ _ h => h) hHeld ?_
            refine held_call 9 25 #[Go.Operand.tmp 133] #[25] (some 134) #[.pointer (some ⟨D, 0, none⟩)] _ (by kernel_rfl) (by kernel_rfl) (by kernel_rfl) (by kernel_rfl) (image_any (hV5.below hHeld).d) ?_
            rintro e Y2 ⟨v1, rfl, hown1, hb2⟩
            obtain ⟨A1, c1, rfl, _⟩ := own_slice hown1
            have hr1 := SlRead.of_own hown1
            refine ⟨_, rfl, hHeld.trans (hb2.mono hHeld.size), fun hHeld => ?_⟩
            clear hb2 hown1
            refine held_call 11 26 #[Go.Operand.tmp 135] #[27] (some 136) #[.pointer (some ⟨X, 0, none⟩)] _ (by kernel_rfl) (by kernel_rfl) (by kernel_rfl) (by kernel_rfl) (dimage_any (hV5.below hHeld).x) ?_
            rintro e Y3 ⟨v2, rfl, hown2, hb3⟩
            obtain ⟨A2, c2, rfl, _⟩ := own_slice hown2
            have hsm := same_img ss5 hV5.d.len.2 A1 c1 A2 c2 Y3 (hr1.below hb3) (SlRead.of_own hown2)
            refine ⟨_, rfl, hHeld.trans (hb3.mono hHeld.size), fun hHeld => ?_⟩
            clear hb3 hr1 hown2
            refine held_call 12 23 #[Go.Operand.tmp 134, Go.Operand.tmp 136] #[32, 32] (some 137) #[.slice A1 (ss5.length * 128) c1, .slice A2 ((allS ss5).length * 128) c2] _ (by kernel_rfl) (by kernel_rfl) (by kernel_rfl) (by kernel_rfl) (hsm) ?_
            rintro e Y4 ⟨rfl, hb4⟩
            refine ⟨_, rfl, hHeld.trans (hb4.mono hHeld.size), fun hHeld => ?_⟩
            clear hb4 hsm
            refine held_any 13 (Go.Op.unOp Go.UnOp.not 4 (Go.Operand.tmp 137)) (some 138) (.bool false) (by kernel_rfl) (by kernel_rfl) (by kernel_rfl) (by kernel_rfl) (fun _ _ _ _ _ h => h) hHeld (fun o ho w _ => exec_un (vx := .bool true) ho (by kernel_rfl) (by kernel_rfl)) ?_
            refine held_pick 14 (Go.Operand.tmp 132) (Go.Operand.const (Go.Value.bool true)) (Go.Operand.tmp 138) (some 139) false (.bool false) (by kernel_rfl) (by kernel_rfl) (by kernel_rfl) (by kernel_rfl) (by kernel_rfl) (by kernel_rfl) (fun _ _ _ _ _ h => h) hHeld ?_
            refine held_move 15 (Go.Operand.tmp 139) (some 140) (.bool false) (by kernel_rfl) (by kernel_rfl) (by kernel_rfl) (by kernel_rfl) (by kernel_rfl) (fun _ _ _ _ _ h => h) hHeld ?_
            refine held_move 16 (Go.Operand.tmp 6) (some 141) (.pointer (some ⟨D, 0, none⟩)) (by kernel_rfl) (by kernel_rfl) (by kernel_rfl) (by kernel_rfl) (by kernel_rfl) (fun _ _ _ _ _ h => h) hHeld ?_
            refine held_move 18 (Go.Operand.tmp 7) (some 143) (.pointer (some ⟨X, 0, none⟩)) (by kernel_rfl) (by kernel_rfl) (by kernel_rfl) (by kernel_rfl) (by kernel_rfl) (fun _ _ _ _ _ h => h) hHeld ?_
            refine held_nil 19 (Go.Operand.tmp 143) (some 144) ⟨X, 0, none⟩ (by kernel_rfl) (by kernel_rfl) (by kernel_rfl) (by kernel_rfl) (by kernel_rfl) (fun _ _ _ _ _ h => h) hHeld ?_
            refine held_field 20 51 (Go.Operand.tmp 144) 0 (some 145) (.pointer (some ⟨X, 0, none⟩)) (.pointer (some ⟨X, 0, none⟩)) (by kernel_rfl) (by kernel_rfl) (fun w => by kernel_rfl) (by kernel_rfl) (by kernel_rfl) (by kernel_rfl) (fun _ _ _ _ _ h => h) hHeld ?_
            refine held_cell 21 49 (Go.Operand.tmp 145) (some 146) (.pointer (some ⟨X, 0, none⟩)) (.slice (some ⟨T, 0, none⟩) (allS ss5).length cT) (by kernel_rfl) (by kernel_rfl) (fun W hW => load_slice X 0 W 49 (fun w => by kernel_rfl) _ ((hV5.below hW).x.c0)) (by kernel_rfl) (by kernel_rfl) (by kernel_rfl) (fun _ _ _ _ _ h => h) hHeld ?_
            refine held_any 22 (Go.Op.call { callee := Go.Callee.builtin Go.Builtin.len, args := #[Go.Operand.tmp 146], argTypes := #[49] }) (some 147) (.int .i64 ((allS ss5).length : Int)) (by kernel_rfl) (by kernel_rfl) (by kernel_rfl) (by kernel_rfl) (fun _ _ _ _ _ h => h) hHeld (fun o ho w _ => exec_lenA (vx := .slice (some ⟨T, 0, none⟩) (allS ss5).length cT) ho (by kernel_rfl) (fun _ => len_slice _ 62 _ Tryd.underlying49 _ _ _ _)) ?_
            refine held_call 17 27 #[Go.Operand.tmp 141] #[25] (some 142) #[.pointer (some ⟨D, 0, none⟩)] _ (by kernel_rfl) (by kernel_rfl) (by kernel_rfl) (by kernel_rfl) (size_any (hV5.below hHeld).d) ?_
            rintro e Y5 ⟨rfl, hb5⟩
            refine ⟨_, rfl, hHeld.trans (hb5.mono hHeld.size), fun hHeld => ?_⟩
            clear hb5
            refine held_bin 23 Go.BinOp.neq 3 (Go.Operand.tmp 142) (Go.Operand.tmp 147) 3 (some 148) (.int .i64 (ss5.length : Int)) (.int .i64 ((allS ss5).length : Int)) (.bool false) (by kernel_rfl) (by kernel_rfl) (fun w => neq_int _ _ _ w _ _ _ _ (by rw [allS_len]; exact decide_eq_true rfl)) (by kernel_rfl) (by kernel_rfl) (by kernel_rfl) (fun _ _ _ _ _ h => h) hHeld ?_
            refine held_pick 24 (Go.Operand.tmp 140) (Go.Operand.const (Go.Value.bool true)) (Go.Operand.tmp 148) (some 149) false (.bool false) (by kernel_rfl) (by kernel_rfl) (by kernel_rfl) (by kernel_rfl) (by kernel_rfl) (by kernel_rfl) (fun _ _ _ _ _ h => h) hHeld ?_
            refine wpAnyH_done (by kernel_rfl) ?_ _
            refine NoPanic.normal ?_
            have HF := Lib.hid (hV5.below hHeld)
            clear hV5 hHeld
            simp only [Act.put, List.setIfInBounds_toArray, List.set_cons_zero, List.set_cons_succ]
            go_wp2_with fail
            refine ⟨?rel, ?measure⟩
            case rel => exact ⟨i + 1, _, _, _, _, by omega, by go_num, HF.out⟩
            case measure => simp [intOf] <;> omega
        · have hfil := filled_any q.c V1
          clear hK3
          go_upto_region 24 with (go_at_call 11; refine hfil.mono ?_; rintro e V2 ⟨rfl, hrow, hb2⟩)
          obtain ⟨G, hG⟩ : ∃ G, G = V1.heap.size := ⟨_, rfl⟩
          rw [← hG] at hrow ⊢
          have hG0 : V1.heap.size ≤ G := by rw [hG]; exact Nat.le_refl _
          refine wp_world (fun W => Below V1.heap.size V1 W ∧ W.rangeAt G 0 (bcells (fillL q.c)) ∧ W.cell? ⟨DB, 1, none⟩ = some (.int .i64 q.b) ∧ W.cell? ⟨DB, 2, none⟩ = some (.int .i64 q.c) ∧ DB < W.heap.size) ⟨hb2, range_new hrow, (hb2.cell (p := ⟨DB, 1, none⟩) hDl).trans DB1.out, (hb2.cell (p := ⟨DB, 2, none⟩) hDl).trans hc2, Nat.lt_of_lt_of_le hDl hb2.size⟩ ?_
          clear hrow hb2 hfil hc2 hG
          rintro V3 ⟨hb3, hr3, hc1, hc2, hD3⟩
          have hwb := fun o m c h => write_both (V := V3.drew) HE0.out hV1 hi60 (hb3.trans ((Below.drewNr (w := V3) 1).mono hb3.size)) G hG0 (fillL q.c) (fillL_len _) hr3 q.b o m c h
          clear hr3 hV1
          go_wp2_with fail
          · refine wp_region_noPanic ?_
            refine wp_region_held_drew (S := fun W => W.cell? ⟨DB, 1, none⟩ = some (.int .i64 q.b) ∧ DB < W.heap.size) (by kernel_rfl) (⟨hc1, hD3⟩) (fun hHeld => ?_)
            refine held_move 0 (Go.Operand.tmp 6) (some 80) (.pointer (some ⟨D, 0, none⟩)) (by kernel_rfl) (by kernel_rfl) (by kernel_rfl) (by kernel_rfl) (by kernel_rfl) (fun _ _ _ _ _ h => h) hHeld ?_
            refine held_field 1 31 (Go.Operand.tmp 9) 1 (some 81) (.pointer (some ⟨DB, 0, none⟩)) (.pointer (some ⟨DB, 1, none⟩)) (by kernel_rfl) (by kernel_rfl) (fun w => by kernel_rfl) (by kernel_rfl) (by kernel_rfl) (by kernel_rfl) (fun _ _ _ _ _ h => h) hHeld ?_
            refine held_cell 2 3 (Go.Operand.tmp 81) (some 82) (.pointer (some ⟨DB, 1, none⟩)) (.int .i64 q.b) (by kernel_rfl) (by kernel_rfl) (fun W hW => load_i64 DB 1 W _ hW.1) (by kernel_rfl) (by kernel_rfl) (by kernel_rfl) (fun _ _ _ _ _ h => h) hHeld ?_
            refine held_move 3 (Go.Operand.tmp 10) (some 83) (.slice (some ⟨G, 1, none⟩) 127 127) (by kernel_rfl) (by kernel_rfl) (by kernel_rfl) (by kernel_rfl) (by kernel_rfl) (fun _ _ _ _ _ h => h) hHeld ?_
            refine held_move 5 (Go.Operand.tmp 7) (some 85) (.pointer (some ⟨X, 0, none⟩)) (by kernel_rfl) (by kernel_rfl) (by kernel_rfl) (by kernel_rfl) (by kernel_rfl) (fun _ _ _ _ _ h => h) hHeld ?_
            refine held_field 6 31 (Go.Operand.tmp 9) 1 (some 86) (.pointer (some ⟨DB, 0, none⟩)) (.pointer (some ⟨DB, 1, none⟩)) (by kernel_rfl) (by kernel_rfl) (fun w => by kernel_rfl) (by kernel_rfl) (by kernel_rfl) (by kernel_rfl) (fun _ _ _ _ _ h => h) hHeld ?_
            refine held_cell 7 3 (Go.Operand.tmp 86) (some 87) (.pointer (some ⟨DB, 1, none⟩)) (.int .i64 q.b) (by kernel_rfl) (by kernel_rfl) (fun W hW => load_i64 DB 1 W _ hW.1) (by kernel_rfl) (by kernel_rfl) (by kernel_rfl) (fun _ _ _ _ _ h => h) hHeld ?_
            refine held_move 8 (Go.Operand.tmp 10) (some 88) (.slice (some ⟨G, 1, none⟩) 127 127) (by kernel_rfl) (by kernel_rfl) (by kernel_rfl) (by kernel_rfl) (by kernel_rfl) (fun _ _ _ _ _ h => h) hHeld ?_
            refine held_call 4 13 #[Go.Operand.tmp 80, Go.Operand.tmp 82, Go.Operand.tmp 83] #[25, 3, 32] (some 84) #[.pointer (some ⟨D, 0, none⟩), .int .i64 q.b, .slice (some ⟨G, 1, none⟩) 127 127] _ (by kernel_rfl) (by kernel_rfl) (by kernel_rfl) (by kernel_rfl) (hwb 1 127 127 (.inr (by decide))) ?_
            rintro e V4 ⟨v4, c4, rfl, hrd4, ht4, hwb2⟩
            refine ⟨_, rfl, ⟨(ht4.cell hHeld.2 hnF).trans hHeld.1, Nat.lt_of_lt_of_le hHeld.2 ht4.size⟩, fun hHeld => ?_⟩
            clear ht4
            refine held_call 9 14 #[Go.Operand.tmp 85, Go.Operand.tmp 87, Go.Operand.tmp 88] #[27, 3, 32] (some 89) #[.pointer (some ⟨X, 0, none⟩), .int .i64 q.b, .slice (some ⟨G, 1, none⟩) 127 127] _ (by kernel_rfl) (by kernel_rfl) (by kernel_rfl) (by kernel_rfl) (hwb2) ?_
            rintro e V5 ⟨rfl, ht5, ss3, pv3, off3, fuse3, hW5⟩
            refine ⟨_, rfl, ⟨(ht5.cell hHeld.2 hnX).trans hHeld.1, Nat.lt_of_lt_of_le hHeld.2 ht5.size⟩, fun hHeld => ?_⟩
            clear ht5
            refine held_call 10 12 #[Go.Operand.tmp 84, Go.Operand.tmp 89] #[36, 3] (some 90) #[v4, .int .i64 c4] _ (by kernel_rfl) (by kernel_rfl) (by kernel_rfl) (by kernel_rfl) (is_same E v4 c4 hrd4 V5 (hW5.errs HE0.out)) ?_
            rintro e V6 ⟨rfl, hb6⟩
            refine ⟨_, rfl, ⟨(hb6.cell (p := ⟨DB, 1, none⟩) hHeld.2).trans hHeld.1, Nat.lt_of_lt_of_le hHeld.2 hb6.size⟩, fun hHeld => ?_⟩
            have HV4 := Lib.hid (hW5.below hb6)
            clear hW5 hb6 hwb hwb2 hc1 hc2 hD3
            refine held_any 11 (Go.Op.unOp Go.UnOp.not 4 (Go.Operand.tmp 90)) (some 91) (.bool false) (by kernel_rfl) (by kernel_rfl) (by kernel_rfl) (by kernel_rfl) (fun _ _ _ _ _ h => h) hHeld (fun o ho w _ => exec_un (vx := .bool true) ho (by kernel_rfl) (by kernel_rfl)) ?_
            refine wpAnyH_done (by kernel_rfl) ?_ _
            refine NoPanic.normal ?_
            simp only [Act.put, List.setIfInBounds_toArray, List.set_cons_zero, List.set_cons_succ]
            clear hHeld
            go_upto_region 39 with (fail)
            refine wp_world (fun W => ∃ ss5 pv5 off5 fuse5, BothS w0 W D R X T cT ss5 pv5 off5 fuse5 (i + 1)) ⟨_, _, _, _, HV4.out⟩ ?_
            rintro V ⟨ss5, pv5, off5, fuse5, hV5⟩
            clear HV4
            refine wp_region_noPanic ?_
            refine wp_region_held_drew (S := fun W => Below V.heap.size V W) (by kernel_rfl) (Below.drewNr (w := V) 1) (fun hHeld => ?_)
            refine held_move 0 (Go.Operand.tmp 6) (some 125) (.pointer (some ⟨D, 0, none⟩)) (by kernel_rfl) (by kernel_rfl) (by kernel_rfl) (by kernel_rfl) (by kernel_rfl) (fun _ _ _ _ _ h => h) hHeld ?_
            refine held_move 2 (Go.Operand.tmp 7) (some 127) (.pointer (some ⟨X, 0, none⟩)) (by kernel_rfl) (by kernel_rfl) (by kernel_rfl) (by kernel_rfl) (by kernel_rfl) (fun _ _ _ _ _ h => h) hHeld ?_
            refine held_nil 3 (Go.Operand.tmp 127) (some 128) ⟨X, 0, none⟩ (by kernel_rfl) (by kernel_rfl) (by kernel_rfl) (by kernel_rfl) (by kernel_rfl) (fun _ _ _ _ _ h => h) hHeld ?_
            refine held_field 4 51 (Go.Operand.tmp 128) 2 (some 129) (.pointer (some ⟨X, 0, none⟩)) (.pointer (some ⟨X, 2, none⟩)) (by kernel_rfl) (by kernel_rfl) (fun w => by kernel_rfl) (by kernel_rfl) (by kernel_rfl) (by kernel_rfl) (fun _ _ _ _ _ h => h) hHeld ?_
            refine held_cell 5 4 (Go.Operand.tmp 129) (some 130) (.pointer (some ⟨X, 2, none⟩)) (.bool off5) (by kernel_rfl) (by kernel_rfl) (fun W hW => load_bool X 2 W _ ((hV5.below hW).x.c2)) (by kernel_rfl) (by kernel_rfl) (by kernel_rfl) (fun _ _ _ _ _ h => h) hHeld ?_
            refine held_call 1 24 #[Go.Operand.tmp 125] #[25] (some 126) #[.pointer (some ⟨D, 0, none⟩)] _ (by kernel_rfl) (by kernel_rfl) (by kernel_rfl) (by kernel_rfl) (off_any (hV5.below hHeld).d) ?_
            rintro e Y1 ⟨rfl, hb1⟩
            refine ⟨_, rfl, hHeld.trans (hb1.mono hHeld.size), fun hHeld => ?_⟩
            clear hb1
            refine held_bin 6 Go.BinOp.neq 4 (Go.Operand.tmp 126) (Go.Operand.tmp 130) 4 (some 131) (.bool off5) (.bool off5) (.bool false) (by kernel_rfl) (by kernel_rfl) (fun w => by cases off5 <;> kernel_rfl) (by kernel_rfl) (by kernel_rfl) (by kernel_rfl) (fun _ _ _ _ _ h => h) hHeld ?_
            refine held_move 7 (Go.Operand.tmp 131) (some 132) (.bool false) (by kernel_rfl) (by kernel_rfl) (by kernel_rfl) (by kernel_rfl) (by kernel_rfl) (fun _ _ _ _ _ h => h) hHeld ?_
            refine held_move 8 (Go.Operand.tmp 6) (some 133) (.pointer (some ⟨D, 0, none⟩)) (by kernel_rfl) (by kernel_rfl) (by kernel_rfl) (by kernel_rfl) (by kernel_rfl) (fun _ _ _ _ _ h => h) hHeld ?_
            refine held_move 10 (Go.Operand.tmp 7) (some 135) (.pointer (some ⟨X, 0, none⟩)) (by kernel_rfl) (by kernel_rfl) (by kernel_rfl) (by kernel_rfl) (by kernel_rfl) (fun _ _ _ _ _ h => h) hHeld ?_
            refine held_call 9 25 #[Go.Operand.tmp 133] #[25] (some 134) #[.pointer (some ⟨D, 0, none⟩)] _ (by kernel_rfl) (by kernel_rfl) (by kernel_rfl) (by kernel_rfl) (image_any (hV5.below hHeld).d) ?_
            rintro e Y2 ⟨v1, rfl, hown1, hb2⟩
            obtain ⟨A1, c1, rfl, _⟩ := own_slice hown1
            have hr1 := SlRead.of_own hown1
            refine ⟨_, rfl, hHeld.trans (hb2.mono hHeld.size), fun hHeld => ?_⟩
            clear hb2 hown1
            refine held_call 11 26 #[Go.Operand.tmp 135] #[27] (some 136) #[.pointer (some ⟨X, 0, none⟩)] _ (by kernel_rfl) (by kernel_rfl) (by kernel_rfl) (by kernel_rfl) (dimage_any (hV5.below hHeld).x) ?_
            rintro e Y3 ⟨v2, rfl, hown2, hb3⟩
            obtain ⟨A2, c2, rfl, _⟩ := own_slice hown2
            have hsm := same_img ss5 hV5.d.len.2 A1 c1 A2 c2 Y3 (hr1.below hb3) (SlRead.of_own hown2)
            refine ⟨_, rfl, hHeld.trans (hb3.mono hHeld.size), fun hHeld => ?_⟩
            clear hb3 hr1 hown2
            refine held_call 12 23 #[Go.Operand.tmp 134, Go.Operand.tmp 136] #[32, 32] (some 137) #[.slice A1 (ss5.length * 128) c1, .slice A2 ((allS ss5).length * 128) c2] _ (by kernel_rfl) (by kernel_rfl) (by kernel_rfl) (by kernel_rfl) (hsm) ?_
            rintro e Y4 ⟨rfl, hb4⟩
            refine ⟨_, rfl, hHeld.trans (hb4.mono hHeld.size), fun hHeld => ?_⟩
            clear hb4 hsm
            refine held_any 13 (Go.Op.unOp Go.UnOp.not 4 (Go.Operand.tmp 137)) (some 138) (.bool false) (by kernel_rfl) (by kernel_rfl) (by kernel_rfl) (by kernel_rfl) (fun _ _ _ _ _ h => h) hHeld (fun o ho w _ => exec_un (vx := .bool true) ho (by kernel_rfl) (by kernel_rfl)) ?_
            refine held_pick 14 (Go.Operand.tmp 132) (Go.Operand.const (Go.Value.bool true)) (Go.Operand.tmp 138) (some 139) false (.bool false) (by kernel_rfl) (by kernel_rfl) (by kernel_rfl) (by kernel_rfl) (by kernel_rfl) (by kernel_rfl) (fun _ _ _ _ _ h => h) hHeld ?_
            refine held_move 15 (Go.Operand.tmp 139) (some 140) (.bool false) (by kernel_rfl) (by kernel_rfl) (by kernel_rfl) (by kernel_rfl) (by kernel_rfl) (fun _ _ _ _ _ h => h) hHeld ?_
            refine held_move 16 (Go.Operand.tmp 6) (some 141) (.pointer (some ⟨D, 0, none⟩)) (by kernel_rfl) (by kernel_rfl) (by kernel_rfl) (by kernel_rfl) (by kernel_rfl) (fun _ _ _ _ _ h => h) hHeld ?_
            refine held_move 18 (Go.Operand.tmp 7) (some 143) (.pointer (some ⟨X, 0, none⟩)) (by kernel_rfl) (by kernel_rfl) (by kernel_rfl) (by kernel_rfl) (by kernel_rfl) (fun _ _ _ _ _ h => h) hHeld ?_
            refine held_nil 19 (Go.Operand.tmp 143) (some 144) ⟨X, 0, none⟩ (by kernel_rfl) (by kernel_rfl) (by kernel_rfl) (by kernel_rfl) (by kernel_rfl) (fun _ _ _ _ _ h => h) hHeld ?_
            refine held_field 20 51 (Go.Operand.tmp 144) 0 (some 145) (.pointer (some ⟨X, 0, none⟩)) (.pointer (some ⟨X, 0, none⟩)) (by kernel_rfl) (by kernel_rfl) (fun w => by kernel_rfl) (by kernel_rfl) (by kernel_rfl) (by kernel_rfl) (fun _ _ _ _ _ h => h) hHeld ?_
            refine held_cell 21 49 (Go.Operand.tmp 145) (some 146) (.pointer (some ⟨X, 0, none⟩)) (.slice (some ⟨T, 0, none⟩) (allS ss5).length cT) (by kernel_rfl) (by kernel_rfl) (fun W hW => load_slice X 0 W 49 (fun w => by kernel_rfl) _ ((hV5.below hW).x.c0)) (by kernel_rfl) (by kernel_rfl) (by kernel_rfl) (fun _ _ _ _ _ h => h) hHeld ?_
            refine held_any 22 (Go.Op.call { callee := Go.Callee.builtin Go.Builtin.len, args := #[Go.Operand.tmp 146], argTypes := #[49] }) (some 147) (.int .i64 ((allS ss5).length : Int)) (by kernel_rfl) (by kernel_rfl) (by kernel_rfl) (by kernel_rfl) (fun _ _ _ _ _ h => h) hHeld (fun o ho w _ => exec_lenA (vx := .slice (some ⟨T, 0, none⟩) (allS ss5).length cT) ho (by kernel_rfl) (fun _ => len_slice _ 62 _ Tryd.underlying49 _ _ _ _)) ?_
            refine held_call 17 27 #[Go.Operand.tmp 141] #[25] (some 142) #[.pointer (some ⟨D, 0, none⟩)] _ (by kernel_rfl) (by kernel_rfl) (by kernel_rfl) (by kernel_rfl) (size_any (hV5.below hHeld).d) ?_
            rintro e Y5 ⟨rfl, hb5⟩
            refine ⟨_, rfl, hHeld.trans (hb5.mono hHeld.size), fun hHeld => ?_⟩
            clear hb5
            refine held_bin 23 Go.BinOp.neq 3 (Go.Operand.tmp 142) (Go.Operand.tmp 147) 3 (some 148) (.int .i64 (ss5.length : Int)) (.int .i64 ((allS ss5).length : Int)) (.bool false) (by kernel_rfl) (by kernel_rfl) (fun w => neq_int _ _ _ w _ _ _ _ (by rw [allS_len]; exact decide_eq_true rfl)) (by kernel_rfl) (by kernel_rfl) (by kernel_rfl) (fun _ _ _ _ _ h => h) hHeld ?_
            refine held_pick 24 (Go.Operand.tmp 140) (Go.Operand.const (Go.Value.bool true)) (Go.Operand.tmp 148) (some 149) false (.bool false) (by kernel_rfl) (by kernel_rfl) (by kernel_rfl) (by kernel_rfl) (by kernel_rfl) (by kernel_rfl) (fun _ _ _ _ _ h => h) hHeld ?_
            refine wpAnyH_done (by kernel_rfl) ?_ _
            refine NoPanic.normal ?_
            have HF := Lib.hid (hV5.below hHeld)
            clear hV5 hHeld
            simp only [Act.put, List.setIfInBounds_toArray, List.set_cons_zero, List.set_cons_succ]
            go_wp2_with fail
            refine ⟨?rel, ?measure⟩
            case rel => exact ⟨i + 1, _, _, _, _, by omega, by go_num, HF.out⟩
            case measure => simp [intOf] <;> omega
          · refine wp_region_noPanic ?_
            refine wp_region_held_drew (S := fun W => W.cell? ⟨DB, 1, none⟩ = some (.int .i64 q.b) ∧ DB < W.heap.size) (by kernel_rfl) (⟨hc1, hD3⟩) (fun hHeld => ?_)
            refine held_move 0 (Go.Operand.tmp 6) (some 80) (.pointer (some ⟨D, 0, none⟩)) (by kernel_rfl) (by kernel_rfl) (by kernel_rfl) (by kernel_rfl) (by kernel_rfl) (fun _ _ _ _ _ h => h) hHeld ?_
            refine held_field 1 31 (Go.Operand.tmp 9) 1 (some 81) (.pointer (some ⟨DB, 0, none⟩)) (.pointer (some ⟨DB, 1, none⟩)) (by kernel_rfl) (by kernel_rfl) (fun w => by kernel_rfl) (by kernel_rfl) (by kernel_rfl) (by kernel_rfl) (fun _ _ _ _ _ h => h) hHeld ?_
            refine held_cell 2 3 (Go.Operand.tmp 81) (some 82) (.pointer (some ⟨DB, 1, none⟩)) (.int .i64 q.b) (by kernel_rfl) (by kernel_rfl) (fun W hW => load_i64 DB 1 W _ hW.1) (by kernel_rfl) (by kernel_rfl) (by kernel_rfl) (fun _ _ _ _ _ h => h) hHeld ?_
            refine held_move 3 (Go.Operand.tmp 10) (some 83) (.slice (some ⟨G, 0, none⟩) 128 128) (by kernel_rfl) (by kernel_rfl) (by kernel_rfl) (by kernel_rfl) (by kernel_rfl) (fun _ _ _ _ _ h => h) hHeld ?_
            refine held_move 5 (Go.Operand.tmp 7) (some 85) (.pointer (some ⟨X, 0, none⟩)) (by kernel_rfl) (by kernel_rfl) (by kernel_rfl) (by kernel_rfl) (by kernel_rfl) (fun _ _ _ _ _ h => h) hHeld ?_
            refine held_field 6 31 (Go.Operand.tmp 9) 1 (some 86) (.pointer (some ⟨DB, 0, none⟩)) (.pointer (some ⟨DB, 1, none⟩)) (by kernel_rfl) (by kernel_rfl) (fun w => by kernel_rfl) (by kernel_rfl) (by kernel_rfl) (by kernel_rfl) (fun _ _ _ _ _ h => h) hHeld ?_
            refine held_cell 7 3 (Go.Operand.tmp 86) (some 87) (.pointer (some ⟨DB, 1, none⟩)) (.int .i64 q.b) (by kernel_rfl) (by kernel_rfl) (fun W hW => load_i64 DB 1 W _ hW.1) (by kernel_rfl) (by kernel_rfl) (by kernel_rfl) (fun _ _ _ _ _ h => h) hHeld ?_
            refine held_move 8 (Go.Operand.tmp 10) (some 88) (.slice (some ⟨G, 0, none⟩) 128 128) (by kernel_rfl) (by kernel_rfl) (by kernel_rfl) (by kernel_rfl) (by kernel_rfl) (fun _ _ _ _ _ h => h) hHeld ?_
            refine held_call 4 13 #[Go.Operand.tmp 80, Go.Operand.tmp 82, Go.Operand.tmp 83] #[25, 3, 32] (some 84) #[.pointer (some ⟨D, 0, none⟩), .int .i64 q.b, .slice (some ⟨G, 0, none⟩) 128 128] _ (by kernel_rfl) (by kernel_rfl) (by kernel_rfl) (by kernel_rfl) (hwb 0 128 128 (.inl ⟨rfl, rfl, rfl⟩)) ?_
            rintro e V4 ⟨v4, c4, rfl, hrd4, ht4, hwb2⟩
            refine ⟨_, rfl, ⟨(ht4.cell hHeld.2 hnF).trans hHeld.1, Nat.lt_of_lt_of_le hHeld.2 ht4.size⟩, fun hHeld => ?_⟩
            clear ht4
            refine held_call 9 14 #[Go.Operand.tmp 85, Go.Operand.tmp 87, Go.Operand.tmp 88] #[27, 3, 32] (some 89) #[.pointer (some ⟨X, 0, none⟩), .int .i64 q.b, .slice (some ⟨G, 0, none⟩) 128 128] _ (by kernel_rfl) (by kernel_rfl) (by kernel_rfl) (by kernel_rfl) (hwb2) ?_
            rintro e V5 ⟨rfl, ht5, ss3, pv3, off3, fuse3, hW5⟩
            refine ⟨_, rfl, ⟨(ht5.cell hHeld.2 hnX).trans hHeld.1, Nat.lt_of_lt_of_le hHeld.2 ht5.size⟩, fun hHeld => ?_⟩
            clear ht5
            refine held_call 10 12 #[Go.Operand.tmp 84, Go.Operand.tmp 89] #[36, 3] (some 90) #[v4, .int .i64 c4] _ (by kernel_rfl) (by kernel_rfl) (by kernel_rfl) (by kernel_rfl) (is_same E v4 c4 hrd4 V5 (hW5.errs HE0.out)) ?_
            rintro e V6 ⟨rfl, hb6⟩
            refine ⟨_, rfl, ⟨(hb6.cell (p := ⟨DB, 1, none⟩) hHeld.2).trans hHeld.1, Nat.lt_of_lt_of_le hHeld.2 hb6.size⟩, fun hHeld => ?_⟩
            have HV4 := Lib.hid (hW5.below hb6)
            clear hW5 hb6 hwb hwb2 hc1 hc2 hD3
            refine held_any 11 (Go.Op.unOp Go.UnOp.not 4 (Go.Operand.tmp 90)) (some 91) (.bool false) (by kernel_rfl) (by kernel_rfl) (by kernel_rfl) (by kernel_rfl) (fun _ _ _ _ _ h => h) hHeld (fun o ho w _ => exec_un (vx := .bool true) ho (by kernel_rfl) (by kernel_rfl)) ?_
            refine wpAnyH_done (by kernel_rfl) ?_ _
            refine NoPanic.normal ?_
            simp only [Act.put, List.setIfInBounds_toArray, List.set_cons_zero, List.set_cons_succ]
            clear hHeld
            go_upto_region 39 with (fail)
            refine wp_world (fun W => ∃ ss5 pv5 off5 fuse5, BothS w0 W D R X T cT ss5 pv5 off5 fuse5 (i + 1)) ⟨_, _, _, _, HV4.out⟩ ?_
            rintro V ⟨ss5, pv5, off5, fuse5, hV5⟩
            clear HV4
            refine wp_region_noPanic ?_
            refine wp_region_held_drew (S := fun W => Below V.heap.size V W) (by kernel_rfl) (Below.drewNr (w := V) 1) (fun hHeld => ?_)
            refine held_move 0 (Go.Operand.tmp 6) (some 125) (.pointer (some ⟨D, 0, none⟩)) (by kernel_rfl) (by kernel_rfl) (by kernel_rfl) (by kernel_rfl) (by kernel_rfl) (fun _ _ _ _ _ h => h) hHeld ?_
            refine held_move 2 (Go.Operand.tmp 7) (some 127) (.pointer (some ⟨X, 0, none⟩)) (by kernel_rfl) (by kernel_rfl) (by kernel_rfl) (by kernel_rfl) (by kernel_rfl) (fun _ _ _ _ _ h => h) hHeld ?_
            refine held_nil 3 (Go.Operand.tmp 127) (some 128) ⟨X, 0, none⟩ (by kernel_rfl) (by kernel_rfl) (by kernel_rfl) (by kernel_rfl) (by kernel_rfl) (fun _ _ _ _ _ h => h) hHeld ?_
            refine held_field 4 51 (Go.Operand.tmp 128) 2 (some 129) (.pointer (some ⟨X, 0, none⟩)) (.pointer (some ⟨X, 2, none⟩)) (by kernel_rfl) (by kernel_rfl) (fun w => by kernel_rfl) (by kernel_rfl) (by kernel_rfl) (by kernel_rfl) (fun _ _ _ _ _ h => h) hHeld ?_
            refine held_cell 5 4 (Go.Operand.tmp 129) (some 130) (.pointer (some ⟨X, 2, none⟩)) (.bool off5) (by kernel_rfl) (by kernel_rfl) (fun W hW => load_bool X 2 W _ ((hV5.below hW).x.c2)) (by kernel_rfl) (by kernel_rfl) (by kernel_rfl) (fun _ _ _ _ _ h => h) hHeld ?_
            refine held_call 1 24 #[Go.Operand.tmp 125] #[25] (some 126) #[.pointer (some ⟨D, 0, none⟩)] _ (by kernel_rfl) (by kernel_rfl) (by kernel_rfl) (by kernel_rfl) (off_any (hV5.below hHeld).d) ?_
            rintro e Y1 ⟨rfl, hb1⟩
            refine ⟨_, rfl, hHeld.trans (hb1.mono hHeld.size), fun hHeld => ?_⟩
            clear hb1
            refine held_bin 6 Go.BinOp.neq 4 (Go.Operand.tmp 126) (Go.Operand.tmp 130) 4 (some 131) (.bool off5) (.bool off5) (.bool false) (by kernel_rfl) (by kernel_rfl) (fun w => by cases off5 <;> kernel_rfl) (by kernel_rfl) (by kernel_rfl) (by kernel_rfl) (fun _ _ _ _ _ h => h) hHeld ?_
            refine held_move 7 (Go.Operand.tmp 131) (some 132) (.bool false) (by kernel_rfl) (by kernel_rfl) (by kernel_rfl) (by kernel_rfl) (by kernel_rfl) (fun _ _ _ _ _ h => h) hHeld ?_
            refine held_move 8 (Go.Operand.tmp 6) (some 133) (.pointer (some ⟨D, 0, none⟩)) (by kernel_rfl) (by kernel_rfl) (by kernel_rfl) (by kernel_rfl) (by kernel_rfl) (fun _ _ _ _ _ h => h) hHeld ?_
            refine held_move 10 (Go.Operand.tmp 7) (some 135) (.pointer (some ⟨X, 0, none⟩)) (by kernel_rfl) (by kernel_rfl) (by kernel_rfl) (by kernel_rfl) (by kernel_rfl) (fun _ _ _ _ _ h => h) hHeld ?_
            refine held_call 9 25 #[Go.Operand.tmp 133] #[25] (some 134) #[.pointer (some ⟨D, 0, none⟩)] _ (by kernel_rfl) (by kernel_rfl) (by kernel_rfl) (by kernel_rfl) (image_any (hV5.below hHeld).d) ?_
            rintro e Y2 ⟨v1, rfl, hown1, hb2⟩
            obtain ⟨A1, c1, rfl, _⟩ := own_slice hown1
            have hr1 := SlRead.of_own hown1
            refine ⟨_, rfl, hHeld.trans (hb2.mono hHeld.size), fun hHeld => ?_⟩
            clear hb2 hown1
            refine held_call 11 26 #[Go.Operand.tmp 135] #[27] (some 136) #[.pointer (some ⟨X, 0, none⟩)] _ (by kernel_rfl) (by kernel_rfl) (by kernel_rfl) (by kernel_rfl) (dimage_any (hV5.below hHeld).x) ?_
            rintro e Y3 ⟨v2, rfl, hown2, hb3⟩
            obtain ⟨A2, c2, rfl, _⟩ := own_slice hown2
            have hsm := same_img ss5 hV5.d.len.2 A1 c1 A2 c2 Y3 (hr1.below hb3) (SlRead.of_own hown2)
            refine ⟨_, rfl, hHeld.trans (hb3.mono hHeld.size), fun hHeld => ?_⟩
            clear hb3 hr1 hown2
            refine held_call 12 23 #[Go.Operand.tmp 134, Go.Operand.tmp 136] #[32, 32] (some 137) #[.slice A1 (ss5.length * 128) c1, .slice A2 ((allS ss5).length * 128) c2] _ (by kernel_rfl) (by kernel_rfl) (by kernel_rfl) (by kernel_rfl) (hsm) ?_
            rintro e Y4 ⟨rfl, hb4⟩
            refine ⟨_, rfl, hHeld.trans (hb4.mono hHeld.size), fun hHeld => ?_⟩
            clear hb4 hsm
            refine held_any 13 (Go.Op.unOp Go.UnOp.not 4 (Go.Operand.tmp 137)) (some 138) (.bool false) (by kernel_rfl) (by kernel_rfl) (by kernel_rfl) (by kernel_rfl) (fun _ _ _ _ _ h => h) hHeld (fun o ho w _ => exec_un (vx := .bool true) ho (by kernel_rfl) (by kernel_rfl)) ?_
            refine held_pick 14 (Go.Operand.tmp 132) (Go.Operand.const (Go.Value.bool true)) (Go.Operand.tmp 138) (some 139) false (.bool false) (by kernel_rfl) (by kernel_rfl) (by kernel_rfl) (by kernel_rfl) (by kernel_rfl) (by kernel_rfl) (fun _ _ _ _ _ h => h) hHeld ?_
            refine held_move 15 (Go.Operand.tmp 139) (some 140) (.bool false) (by kernel_rfl) (by kernel_rfl) (by kernel_rfl) (by kernel_rfl) (by kernel_rfl) (fun _ _ _ _ _ h => h) hHeld ?_
            refine held_move 16 (Go.Operand.tmp 6) (some 141) (.pointer (some ⟨D, 0, none⟩)) (by kernel_rfl) (by kernel_rfl) (by kernel_rfl) (by kernel_rfl) (by kernel_rfl) (fun _ _ _ _ _ h => h) hHeld ?_
            refine held_move 18 (Go.Operand.tmp 7) (some 143) (.pointer (some ⟨X, 0, none⟩)) (by kernel_rfl) (by kernel_rfl) (by kernel_rfl) (by kernel_rfl) (by kernel_rfl) (fun _ _ _ _ _ h => h) hHeld ?_
            refine held_nil 19 (Go.Operand.tmp 143) (some 144) ⟨X, 0, none⟩ (by kernel_rfl) (by kernel_rfl) (by kernel_rfl) (by kernel_rfl) (by kernel_rfl) (fun _ _ _ _ _ h => h) hHeld ?_
            refine held_field 20 51 (Go.Operand.tmp 144) 0 (some 145) (.pointer (some ⟨X, 0, none⟩)) (.pointer (some ⟨X, 0, none⟩)) (by kernel_rfl) (by kernel_rfl) (fun w => by kernel_rfl) (by kernel_rfl) (by kernel_rfl) (by kernel_rfl) (fun _ _ _ _ _ h => h) hHeld ?_
            refine held_cell 21 49 (Go.Operand.tmp 145) (some 146) (.pointer (some ⟨X, 0, none⟩)) (.slice (some ⟨T, 0, none⟩) (allS ss5).length cT) (by kernel_rfl) (by kernel_rfl) (fun W hW => load_slice X 0 W 49 (fun w => by kernel_rfl) _ ((hV5.below hW).x.c0)) (by kernel_rfl) (by kernel_rfl) (by kernel_rfl) (fun _ _ _ _ _ h => h) hHeld ?_
            refine held_any 22 (Go.Op.call { callee := Go.Callee.builtin Go.Builtin.len, args := #[Go.Operand.tmp 146], argTypes := #[49] }) (some 147) (.int .i64 ((allS ss5).length : Int)) (by kernel_rfl) (by kernel_rfl) (by kernel_rfl) (by kernel_rfl) (fun _ _ _ _ _ h => h) hHeld (fun o ho w _ => exec_lenA (vx := .slice (some ⟨T, 0, none⟩) (allS ss5).length cT) ho (by kernel_rfl) (fun _ => len_slice _ 62 _ Tryd.underlying49 _ _ _ _)) ?_
            refine held_call 17 27 #[Go.Operand.tmp 141] #[25] (some 142) #[.pointer (some ⟨D, 0, none⟩)] _ (by kernel_rfl) (by kernel_rfl) (by kernel_rfl) (by kernel_rfl) (size_any (hV5.below hHeld).d) ?_
            rintro e Y5 ⟨rfl, hb5⟩
            refine ⟨_, rfl, hHeld.trans (hb5.mono hHeld.size), fun hHeld => ?_⟩
            clear hb5
            refine held_bin 23 Go.BinOp.neq 3 (Go.Operand.tmp 142) (Go.Operand.tmp 147) 3 (some 148) (.int .i64 (ss5.length : Int)) (.int .i64 ((allS ss5).length : Int)) (.bool false) (by kernel_rfl) (by kernel_rfl) (fun w => neq_int _ _ _ w _ _ _ _ (by rw [allS_len]; exact decide_eq_true rfl)) (by kernel_rfl) (by kernel_rfl) (by kernel_rfl) (fun _ _ _ _ _ h => h) hHeld ?_
            refine held_pick 24 (Go.Operand.tmp 140) (Go.Operand.const (Go.Value.bool true)) (Go.Operand.tmp 148) (some 149) false (.bool false) (by kernel_rfl) (by kernel_rfl) (by kernel_rfl) (by kernel_rfl) (by kernel_rfl) (by kernel_rfl) (fun _ _ _ _ _ h => h) hHeld ?_
            refine wpAnyH_done (by kernel_rfl) ?_ _
            refine NoPanic.normal ?_
            have HF := Lib.hid (hV5.below hHeld)
            clear hV5 hHeld
            simp only [Act.put, List.setIfInBounds_toArray, List.set_cons_zero, List.set_cons_succ]
            go_wp2_with fail
            refine ⟨?rel, ?measure⟩
            case rel => exact ⟨i + 1, _, _, _, _, by omega, by go_num, HF.out⟩
            case measure => simp [intOf] <;> omega
      · have hsb := sync_both HE0.out hV1
        clear hc1 hc2 hc3 hsv hqb hfk hfl hV1
        go_upto_region 39 with (first | (go_at_call 15; refine hsb.mono ?_; rintro e V2 ⟨v2, c2, rfl, hrd2, hb2, hsb2⟩) | (go_at_call 16; refine hsb2.mono ?_; rintro e V3 ⟨rfl, ht3, ss3, pv3, off3, fuse3, hV3⟩; have his := is_same E v2 c2 hrd2 V3 (hV3.errs HE0.out)) | (go_at_call 12; refine his.mono ?_; rintro e V4 ⟨rfl, hb4⟩; have HV4 := Lib.hid (hV3.below hb4); clear hV3 hb4))
        refine wp_world (fun W => ∃ ss5 pv5 off5 fuse5, BothS w0 W D R X T cT ss5 pv5 off5 fuse5 (i + 1)) ⟨_, _, _, _, HV4.out⟩ ?_
        rintro V ⟨ss5, pv5, off5, fuse5, hV5⟩
        clear HV4
        refine wp_region_noPanic ?_
        refine wp_region_held_drew (S := fun W => Below V.heap.size V W) (by kernel_rfl) (Below.drewNr (w := V) 1) (fun hHeld => ?_)
        refine held_move 0 (Go.Operand.tmp 6) (some 125) (.pointer (some ⟨D, 0, none⟩)) (by kernel_rfl) (by kernel_rfl) (by kernel_rfl) (by kernel_rfl) (by kernel_rfl) (fun _ _ _ _ _ h => h) hHeld ?_
        refine held_move 2 (Go.Operand.tmp 7) (some 127) (.pointer (some ⟨X, 0, none⟩)) (by kernel_rfl) (by kernel_rfl) (by kernel_rfl) (by kernel_rfl) (by kernel_rfl) (fun _ _ _ _ _ h => h) hHeld ?_
        refine held_nil 3 (Go.Operand.tmp 127) (some 128) ⟨X, 0, none⟩ (by kernel_rfl) (by kernel_rfl) (by kernel_rfl) (by kernel_rfl) (by kernel_rfl) (fun _ _ _ _ _ h => h) hHeld ?_
        refine held_field 4 51 (Go.Operand.tmp 128) 2 (some 129) (.pointer (some ⟨X, 0, none⟩)) (.pointer (some ⟨X, 2, none⟩)) (by kernel_rfl) (by kernel_rfl) (fun w => by kernel_rfl) (by kernel_rfl) (by kernel_rfl) (by kernel_rfl) (fun _ _ _ _ _ h => h) hHeld ?_
        refine held_cell 5 4 (Go.Operand.tmp 129) (some 130) (.pointer (some ⟨X, 2, none⟩)) (.bool off5) (by kernel_rfl) (by kernel_rfl) (fun W hW => load_bool X 2 W _ ((hV5.below hW).x.c2)) (by kernel_rfl) (by kernel_rfl) (by kernel_rfl) (fun _ _ _ _ _ h => h) hHeld ?_
        refine held_call 1 24 #[Go.Operand.tmp 125] #[25] (some 126) #[.pointer (some ⟨D, 0, none⟩)] _ (by kernel_rfl) (by kernel_rfl) (by kernel_rfl) (by kernel_rfl) (off_any (hV5.below hHeld).d) ?_
        rintro e Y1 ⟨rfl, hb1⟩
        refine ⟨_, rfl, hHeld.trans (hb1.mono hHeld.size), fun hHeld => ?_⟩
        clear hb1
        refine held_bin 6 Go.BinOp.neq 4 (Go.Operand.tmp 126) (Go.Operand.tmp 130) 4 (some 131) (.bool off5) (.bool off5) (.bool false) (by kernel_rfl) (by kernel_rfl) (fun w => by cases off5 <;> kernel_rfl) (by kernel_rfl) (by kernel_rfl) (by kernel_rfl) (fun _ _ _ _ _ h => h) hHeld ?_
        refine held_move 7 (Go.Operand.tmp 131) (some 132) (.bool false) (by kernel_rfl) (by kernel_rfl) (by kernel_rfl) (by kernel_rfl) (by kernel_rfl) (fun _ _ _ _ _ h => h) hHeld ?_
        refine held_move 8 (Go.Operand.tmp 6) (some 133) (.pointer (some ⟨D, 0, none⟩)) (by kernel_rfl) (by kernel_rfl) (by kernel_rfl) (by kernel_rfl) (by kernel_rfl) (fun _ _ _ _ _ h => h) hHeld ?_
        refine held_move 10 (Go.Operand.tmp 7) (some 135) (.pointer (some ⟨X, 0, none⟩)) (by kernel_rfl) (by kernel_rfl) (by kernel_rfl) (by kernel_rfl) (by kernel_rfl) (fun _ _ _ _ _ h => h) hHeld ?_
        refine held_call 9 25 #[Go.Operand.tmp 133] #[25] (some 134) #[.pointer (some ⟨D, 0, none⟩)] _ (by kernel_rfl) (by kernel_rfl) (by kernel_rfl) (by kernel_rfl) (image_any (hV5.below hHeld).d) ?_
        rintro e Y2 ⟨v1, rfl, hown1, hb2⟩
        obtain ⟨A1, c1, rfl, _⟩ := own_slice hown1
        have hr1 := SlRead.of_own hown1
        refine ⟨_, rfl, hHeld.trans (hb2.mono hHeld.size), fun hHeld => ?_⟩
        clear hb2 hown1
        refine held_call 11 26 #[Go.Operand.tmp 135] #[27] (some 136) #[.pointer (some ⟨X, 0, none⟩)] _ (by kernel_rfl) (by kernel_rfl) (by kernel_rfl) (by kernel_rfl) (dimage_any (hV5.below hHeld).x) ?_
        rintro e Y3 ⟨v2, rfl, hown2, hb3⟩
        obtain ⟨A2, c2, rfl, _⟩ := own_slice hown2
        have hsm := same_img ss5 hV5.d.len.2 A1 c1 A2 c2 Y3 (hr1.below hb3) (SlRead.of_own hown2)
        refine ⟨_, rfl, hHeld.trans (hb3.mono hHeld.size), fun hHeld => ?_⟩
        clear hb3 hr1 hown2
        refine held_call 12 23 #[Go.Operand.tmp 134, Go.Operand.tmp 136] #[32, 32] (some 137) #[.slice A1 (ss5.length * 128) c1, .slice A2 ((allS ss5).length * 128) c2] _ (by kernel_rfl) (by kernel_rfl) (by kernel_rfl) (by kernel_rfl) (hsm) ?_
        rintro e Y4 ⟨rfl, hb4⟩
        refine ⟨_, rfl, hHeld.trans (hb4.mono hHeld.size), fun hHeld => ?_⟩
        clear hb4 hsm
        refine held_any 13 (Go.Op.unOp Go.UnOp.not 4 (Go.Operand.tmp 137)) (some 138) (.bool false) (by kernel_rfl) (by kernel_rfl) (by kernel_rfl) (by kernel_rfl) (fun _ _ _ _ _ h => h) hHeld (fun o ho w _ => exec_un (vx := .bool true) ho (by kernel_rfl) (by kernel_rfl)) ?_
        refine held_pick 14 (Go.Operand.tmp 132) (Go.Operand.const (Go.Value.bool true)) (Go.Operand.tmp 138) (some 139) false (.bool false) (by kernel_rfl) (by kernel_rfl) (by kernel_rfl) (by kernel_rfl) (by kernel_rfl) (by kernel_rfl) (fun _ _ _ _ _ h => h) hHeld ?_
        refine held_move 15 (Go.Operand.tmp 139) (some 140) (.bool false) (by kernel_rfl) (by kernel_rfl) (by kernel_rfl) (by kernel_rfl) (by kernel_rfl) (fun _ _ _ _ _ h => h) hHeld ?_
        refine held_move 16 (Go.Operand.tmp 6) (some 141) (.pointer (some ⟨D, 0, none⟩)) (by kernel_rfl) (by kernel_rfl) (by kernel_rfl) (by kernel_rfl) (by kernel_rfl) (fun _ _ _ _ _ h => h) hHeld ?_
        refine held_move 18 (Go.Operand.tmp 7) (some 143) (.pointer (some ⟨X, 0, none⟩)) (by kernel_rfl) (by kernel_rfl) (by kernel_rfl) (by kernel_rfl) (by kernel_rfl) (fun _ _ _ _ _ h => h) hHeld ?_
        refine held_nil 19 (Go.Operand.tmp 143) (some 144) ⟨X, 0, none⟩ (by kernel_rfl) (by kernel_rfl) (by kernel_rfl) (by kernel_rfl) (by kernel_rfl) (fun _ _ _ _ _ h => h) hHeld ?_
        refine held_field 20 51 (Go.Operand.tmp 144) 0 (some 145) (.pointer (some ⟨X, 0, none⟩)) (.pointer (some ⟨X, 0, none⟩)) (by kernel_rfl) (by kernel_rfl) (fun w => by kernel_rfl) (by kernel_rfl) (by kernel_rfl) (by kernel_rfl) (fun _ _ _ _ _ h => h) hHeld ?_
        refine held_cell 21 49 (Go.Operand.tmp 145) (some 146) (.pointer (some ⟨X, 0, none⟩)) (.slice (some ⟨T, 0, none⟩) (allS ss5).length cT) (by kernel_rfl) (by kernel_rfl) (fun W hW => load_slice X 0 W 49 (fun w => by kernel_rfl) _ ((hV5.below hW).x.c0)) (by kernel_rfl) (by kernel_rfl) (by kernel_rfl) (fun _ _ _ _ _ h => h) hHeld ?_
        refine held_any 22 (Go.Op.call { callee := Go.Callee.builtin Go.Builtin.len, args := #[Go.Operand.tmp 146], argTypes := #[49] }) (some 147) (.int .i64 ((allS ss5).length : Int)) (by kernel_rfl) (by kernel_rfl) (by kernel_rfl) (by kernel_rfl) (fun _ _ _ _ _ h => h) hHeld (fun o ho w _ => exec_lenA (vx := .slice (some ⟨T, 0, none⟩) (allS ss5).length cT) ho (by kernel_rfl) (fun _ => len_slice _ 62 _ Tryd.underlying49 _ _ _ _)) ?_
        refine held_call 17 27 #[Go.Operand.tmp 141] #[25] (some 142) #[.pointer (some ⟨D, 0, none⟩)] _ (by kernel_rfl) (by kernel_rfl) (by kernel_rfl) (by kernel_rfl) (size_any (hV5.below hHeld).d) ?_
        rintro e Y5 ⟨rfl, hb5⟩
        refine ⟨_, rfl, hHeld.trans (hb5.mono hHeld.size), fun hHeld => ?_⟩
        clear hb5
        refine held_bin 23 Go.BinOp.neq 3 (Go.Operand.tmp 142) (Go.Operand.tmp 147) 3 (some 148) (.int .i64 (ss5.length : Int)) (.int .i64 ((allS ss5).length : Int)) (.bool false) (by kernel_rfl) (by kernel_rfl) (fun w => neq_int _ _ _ w _ _ _ _ (by rw [allS_len]; exact decide_eq_true rfl)) (by kernel_rfl) (by kernel_rfl) (by kernel_rfl) (fun _ _ _ _ _ h => h) hHeld ?_
        refine held_pick 24 (Go.Operand.tmp 140) (Go.Operand.const (Go.Value.bool true)) (Go.Operand.tmp 148) (some 149) false (.bool false) (by kernel_rfl) (by kernel_rfl) (by kernel_rfl) (by kernel_rfl) (by kernel_rfl) (by kernel_rfl) (fun _ _ _ _ _ h => h) hHeld ?_
        refine wpAnyH_done (by kernel_rfl) ?_ _
        refine NoPanic.normal ?_
        have HF := Lib.hid (hV5.below hHeld)
        clear hV5 hHeld
        simp only [Act.put, List.setIfInBounds_toArray, List.set_cons_zero, List.set_cons_succ]
        go_wp2_with fail
        refine ⟨?rel, ?measure⟩
        case rel => exact ⟨i + 1, _, _, _, _, by omega, by go_num, HF.out⟩
        case measure => simp [intOf] <;> omega
      · have hfb := fuse_both hV1 q.b hfb
        clear hc2 hc3 hsv hqb hfk hfl hV1
        go_upto_region 39 with (first | (go_at_call 17; refine hfb.mono ?_; rintro e V2 ⟨rfl, ht2, hfb2⟩; have hc2 := (ht2.cell hDl hnF).trans hc1; clear hc1) | (go_at_call 18; refine hfb2.mono ?_; rintro e V3 ⟨rfl, ht3, ss3, pv3, off3, fuse3, hV3⟩; have HV4 := Lib.hid hV3; clear hV3))
        refine wp_world (fun W => ∃ ss5 pv5 off5 fuse5, BothS w0 W D R X T cT ss5 pv5 off5 fuse5 (i + 1)) ⟨_, _, _, _, HV4.out⟩ ?_
        rintro V ⟨ss5, pv5, off5, fuse5, hV5⟩
        clear HV4
        refine wp_region_noPanic ?_
        refine wp_region_held_drew (S := fun W => Below V.heap.size V W) (by kernel_rfl) (Below.drewNr (w := V) 1) (fun hHeld => ?_)
        refine held_move 0 (Go.Operand.tmp 6) (some 125) (.pointer (some ⟨D, 0, none⟩)) (by kernel_rfl) (by kernel_rfl) (by kernel_rfl) (by kernel_rfl) (by kernel_rfl) (fun _ _ _ _ _ h => h) hHeld ?_
        refine held_move 2 (Go.Operand.tmp 7) (some 127) (.pointer (some ⟨X, 0, none⟩)) (by kernel_rfl) (by kernel_rfl) (by kernel_rfl) (by kernel_rfl) (by kernel_rfl) (fun _ _ _ _ _ h => h) hHeld ?_
        refine held_nil 3 (Go.Operand.tmp 127) (some 128) ⟨X, 0, none⟩ (by kernel_rfl) (by kernel_rfl) (by kernel_rfl) (by kernel_rfl) (by kernel_rfl) (fun _ _ _ _ _ h => h) hHeld ?_
        refine held_field 4 51 (Go.Operand.tmp 128) 2 (some 129) (.pointer (some ⟨X, 0, none⟩)) (.pointer (some ⟨X, 2, none⟩)) (by kernel_rfl) (by kernel_rfl) (fun w => by kernel_rfl) (by kernel_rfl) (by kernel_rfl) (by kernel_rfl) (fun _ _ _ _ _ h => h) hHeld ?_
        refine held_cell 5 4 (Go.Operand.tmp 129) (some 130) (.pointer (some ⟨X, 2, none⟩)) (.bool off5) (by kernel_rfl) (by kernel_rfl) (fun W hW => load_bool X 2 W _ ((hV5.below hW).x.c2)) (by kernel_rfl) (by kernel_rfl) (by kernel_rfl) (fun _ _ _ _ _ h => h) hHeld ?_
        refine held_call 1 24 #[Go.Operand.tmp 125] #[25] (some 126) #[.pointer (some ⟨D, 0, none⟩)] _ (by kernel_rfl) (by kernel_rfl) (by kernel_rfl) (by kernel_rfl) (off_any (hV5.below hHeld).d) ?_
        rintro e Y1 ⟨rfl, hb1⟩
        refine ⟨_, rfl, hHeld.trans (hb1.mono hHeld.size), fun hHeld => ?_⟩
        clear hb1
        refine held_bin 6 Go.BinOp.neq 4 (Go.Operand.tmp 126) (Go.Operand.tmp 130) 4 (some 131) (.bool off5) (.bool off5) (.bool false) (by kernel_rfl) (by kernel_rfl) (fun w => by cases off5 <;> kernel_rfl) (by kernel_rfl) (by kernel_rfl) (by kernel_rfl) (fun _ _ _ _ _ h => h) hHeld ?_
        refine held_move 7 (Go.Operand.tmp 131) (some 132) (.bool false) (by kernel_rfl) (by kernel_rfl) (by kernel_rfl) (by kernel_rfl) (by kernel_rfl) (fun _ _ _ _ _ h => h) hHeld ?_
        refine held_move 8 (Go.Operand.tmp 6) (some 133) (.pointer (some ⟨D, 0, none⟩)) (by kernel_rfl) (by kernel_rfl) (by kernel_rfl) (by kernel_rfl) (by kernel_rfl) (fun _ _ _ _ _ h => h) hHeld ?_
        refine held_move 10 (Go.Operand.tmp 7) (some 135) (.pointer (some ⟨X, 0, none⟩)) (by kernel_rfl) (by kernel_rfl) (by kernel_rfl) (by kernel_rfl) (by kernel_rfl) (fun _ _ _ _ _ h => h) hHeld ?_
        refine held_call 9 25 #[Go.Operand.tmp 133] #[25] (some 134) #[.pointer (some ⟨D, 0, none⟩)] _ (by kernel_rfl) (by kernel_rfl) (by kernel_rfl) (by kernel_rfl) (image_any (hV5.below hHeld).d) ?_
        rintro e Y2 ⟨v1, rfl, hown1, hb2⟩
        obtain ⟨A1, c1, rfl, _⟩ := own_slice hown1
        have hr1 := SlRead.of_own hown1
        refine ⟨_, rfl, hHeld.trans (hb2.mono hHeld.size), fun hHeld => ?_⟩
        clear hb2 hown1
        refine held_call 11 26 #[Go.Operand.tmp 135] #[27] (some 136) #[.pointer (some ⟨X, 0, none⟩)] _ (by kernel_rfl) (by kernel_rfl) (by kernel_rfl) (by kernel_rfl) (dimage_any (hV5.below hHeld).x) ?_
        rintro e Y3 ⟨v2, rfl, hown2, hb3⟩
        obtain ⟨A2, c2, rfl, _⟩ := own_slice hown2
        have hsm := same_img ss5 hV5.d.len.2 A1 c1 A2 c2 Y3 (hr1.below hb3) (SlRead.of_own hown2)
        refine ⟨_, rfl, hHeld.trans (hb3.mono hHeld.size), fun hHeld => ?_⟩
        clear hb3 hr1 hown2
        refine held_call 12 23 #[Go.Operand.tmp 134, Go.Operand.tmp 136] #[32, 32] (some 137) #[.slice A1 (ss5.length * 128) c1, .slice A2 ((allS ss5).length * 128) c2] _ (by kernel_rfl) (by kernel_rfl) (by kernel_rfl) (by kernel_rfl) (hsm) ?_
        rintro e Y4 ⟨rfl, hb4⟩
        refine ⟨_, rfl, hHeld.trans (hb4.mono hHeld.size), fun hHeld => ?_⟩
        clear hb4 hsm
        refine held_any 13 (Go.Op.unOp Go.UnOp.not 4 (Go.Operand.tmp 137)) (some 138) (.bool false) (by kernel_rfl) (by kernel_rfl) (by kernel_rfl) (by kernel_rfl) (fun _ _ _ _ _ h => h) hHeld (fun o ho w _ => exec_un (vx := .bool true) ho (by kernel_rfl) (by kernel_rfl)) ?_
        refine held_pick 14 (Go.Operand.tmp 132) (Go.Operand.const (Go.Value.bool true)) (Go.Operand.tmp 138) (some 139) false (.bool false) (by kernel_rfl) (by kernel_rfl) (by kernel_rfl) (by kernel_rfl) (by kernel_rfl) (by kernel_rfl) (fun _ _ _ _ _ h => h) hHeld ?_
        refine held_move 15 (Go.Operand.tmp 139) (some 140) (.bool false) (by kernel_rfl) (by kernel_rfl) (by kernel_rfl) (by kernel_rfl) (by kernel_rfl) (fun _ _ _ _ _ h => h) hHeld ?_
        refine held_move 16 (Go.Operand.tmp 6) (some 141) (.pointer (some ⟨D, 0, none⟩)) (by kernel_rfl) (by kernel_rfl) (by kernel_rfl) (by kernel_rfl) (by kernel_rfl) (fun _ _ _ _ _ h => h) hHeld ?_
        refine held_move 18 (Go.Operand.tmp 7) (some 143) (.pointer (some ⟨X, 0, none⟩)) (by kernel_rfl) (by kernel_rfl) (by kernel_rfl) (by kernel_rfl) (by kernel_rfl) (fun _ _ _ _ _ h => h) hHeld ?_
        refine held_nil 19 (Go.Operand.tmp 143) (some 144) ⟨X, 0, none⟩ (by kernel_rfl) (by kernel_rfl) (by kernel_rfl) (by kernel_rfl) (by kernel_rfl) (fun _ _ _ _ _ h => h) hHeld ?_
        refine held_field 20 51 (Go.Operand.tmp 144) 0 (some 145) (.pointer (some ⟨X, 0, none⟩)) (.pointer (some ⟨X, 0, none⟩)) (by kernel_rfl) (by kernel_rfl) (fun w => by kernel_rfl) (by kernel_rfl) (by kernel_rfl) (by kernel_rfl) (fun _ _ _ _ _ h => h) hHeld ?_
        refine held_cell 21 49 (Go.Operand.tmp 145) (some 146) (.pointer (some ⟨X, 0, none⟩)) (.slice (some ⟨T, 0, none⟩) (allS ss5).length cT) (by kernel_rfl) (by kernel_rfl) (fun W hW => load_slice X 0 W 49 (fun w => by kernel_rfl) _ ((hV5.below hW).x.c0)) (by kernel_rfl) (by kernel_rfl) (by kernel_rfl) (fun _ _ _ _ _ h => h) hHeld ?_
        refine held_any 22 (Go.Op.call { callee := Go.Callee.builtin Go.Builtin.len, args := #[Go.Operand.tmp 146], argTypes := #[49] }) (some 147) (.int .i64 ((allS ss5).length : Int)) (by kernel_rfl) (by kernel_rfl) (by kernel_rfl) (by kernel_rfl) (fun _ _ _ _ _ h => h) hHeld (fun o ho w _ => exec_lenA (vx := .slice (some ⟨T, 0, none⟩) (allS ss5).length cT) ho (by kernel_rfl) (fun _ => len_slice _ 62 _ Tryd.underlying49 _ _ _ _)) ?_
        refine held_call 17 27 #[Go.Operand.tmp 141] #[25] (some 142) #[.pointer (some ⟨D, 0, none⟩)] _ (by kernel_rfl) (by kernel_rfl) (by kernel_rfl) (by kernel_rfl) (size_any (hV5.below hHeld).d) ?_
        rintro e Y5 ⟨rfl, hb5⟩
        refine ⟨_, rfl, hHeld.trans (hb5.mono hHeld.size), fun hHeld => ?_⟩
        clear hb5
        refine held_bin 23 Go.BinOp.neq 3 (Go.Operand.tmp 142) (Go.Operand.tmp 147) 3 (some 148) (.int .i64 (ss5.length : Int)) (.int .i64 ((allS ss5).length : Int)) (.bool false) (by kernel_rfl) (by kernel_rfl) (fun w => neq_int _ _ _ w _ _ _ _ (by rw [allS_len]; exact decide_eq_true rfl)) (by kernel_rfl) (by kernel_rfl) (by kernel_rfl) (fun _ _ _ _ _ h => h) hHeld ?_
        refine held_pick 24 (Go.Operand.tmp 140) (Go.Operand.const (Go.Value.bool true)) (Go.Operand.tmp 148) (some 149) false (.bool false) (by kernel_rfl) (by kernel_rfl) (by kernel_rfl) (by kernel_rfl) (by kernel_rfl) (by kernel_rfl) (fun _ _ _ _ _ h => h) hHeld ?_
        refine wpAnyH_done (by kernel_rfl) ?_ _
        refine NoPanic.normal ?_
        have HF := Lib.hid (hV5.below hHeld)
        clear hV5 hHeld
        simp only [Act.put, List.setIfInBounds_toArray, List.set_cons_zero, List.set_cons_succ]
        go_wp2_with fail
        refine ⟨?rel, ?measure⟩
        case rel => exact ⟨i + 1, _, _, _, _, by omega, by go_num, HF.out⟩
        case measure => simp [intOf] <;> omega
      · by_cases hl20 : 20 < q.l.length
        · have hd20 : (20 : Int) < (q.l.length : Int) := by omega
          have HV1 := Lib.hid hV1.b
          clear hV1 hsv hqb hfk hfl hl20
          go_wp2_with fail
          go_ret
          exact ⟨rfl, HV1.out⟩
        · have hd20 : ¬ (20 : Int) < (q.l.length : Int) := by omega
          have hcb := crash_bothV hV1 hi60 q.l q.A q.k hsv hqb hfk hfl
          clear hc1 hc2 hsv hqb hfk hfl hV1 hl20
          go_upto_region 39 with (first | (go_at_call 19; refine hcb.mono ?_; rintro e V2 ⟨rfl, ht2, hcb2⟩; have hc2 := (ht2.cell hDl hnF).trans hc3; clear hc3) | (go_at_call 20; refine hcb2.mono ?_; rintro e V3 ⟨rfl, ht3, ss3, pv3, off3, fuse3, hV3⟩; have HV4 := Lib.hid hV3; clear hV3))
          refine wp_world (fun W => ∃ ss5 pv5 off5 fuse5, BothS w0 W D R X T cT ss5 pv5 off5 fuse5 (i + 1)) ⟨_, _, _, _, HV4.out⟩ ?_
          rintro V ⟨ss5, pv5, off5, fuse5, hV5⟩
          clear HV4
          refine wp_region_noPanic ?_
          refine wp_region_held_drew (S := fun W => Below V.heap.size V W) (by kernel_rfl) (Below.drewNr (w := V) 1) (fun hHeld => ?_)
          refine held_move 0 (Go.Operand.tmp 6) (some 125) (.pointer (some ⟨D, 0, none⟩)) (by kernel_rfl) (by kernel_rfl) (by kernel_rfl) (by kernel_rfl) (by kernel_rfl) (fun _ _ _ _ _ h => h) hHeld ?_
          refine held_move 2 (Go.Operand.tmp 7) (some 127) (.pointer (some ⟨X, 0, none⟩)) (by kernel_rfl) (by kernel_rfl) (by kernel_rfl) (by kernel_rfl) (by kernel_rfl) (fun _ _ _ _ _ h => h) hHeld ?_
          refine held_nil 3 (Go.Operand.tmp 127) (some 128) ⟨X, 0, none⟩ (by kernel_rfl) (by kernel_rfl) (by kernel_rfl) (by kernel_rfl) (by kernel_rfl) (fun _ _ _ _ _ h => h) hHeld ?_
          refine held_field 4 51 (Go.Operand.tmp 128) 2 (some 129) (.pointer (some ⟨X, 0, none⟩)) (.pointer (some ⟨X, 2, none⟩)) (by kernel_rfl) (by kernel_rfl) (fun w => by kernel_rfl) (by kernel_rfl) (by kernel_rfl) (by kernel_rfl) (fun _ _ _ _ _ h => h) hHeld ?_
          refine held_cell 5 4 (Go.Operand.tmp 129) (some 130) (.pointer (some ⟨X, 2, none⟩)) (.bool off5) (by kernel_rfl) (by kernel_rfl) (fun W hW => load_bool X 2 W _ ((hV5.below hW).x.c2)) (by kernel_rfl) (by kernel_rfl) (by kernel_rfl) (fun _ _ _ _ _ h => h) hHeld ?_
          refine held_call 1 24 #[Go.Operand.tmp 125] #[25] (some 126) #[.pointer (some ⟨D, 0, none⟩)] _ (by kernel_rfl) (by kernel_rfl) (by kernel_rfl) (by kernel_rfl) (off_any (hV5.below hHeld).d) ?_
          rintro e Y1 ⟨rfl, hb1⟩
          refine ⟨_, rfl, hHeld.trans (hb1.mono hHeld.size), fun hHeld => ?_⟩
          clear hb1
          refine held_bin 6 Go.BinOp.neq 4 (Go.Operand.tmp 126) (Go.Operand.tmp 130) 4 (some 131) (.bool off5) (.bool off5) (.bool false) (by kernel_rfl) (by kernel_rfl) (fun w => by cases off5 <;> kernel_rfl) (by kernel_rfl) (by kernel_rfl) (by kernel_rfl) (fun _ _ _ _ _ h => h) hHeld ?_
          refine held_move 7 (Go.Operand.tmp 131) (some 132) (.bool false) (by kernel_rfl) (by kernel_rfl) (by kernel_rfl) (by kernel_rfl) (by kernel_rfl) (fun _ _ _ _ _ h => h) hHeld ?_
          refine held_move 8 (Go.Operand.tmp 6) (some 133) (.pointer (some ⟨D, 0, none⟩)) (by kernel_rfl) (by kernel_rfl) (by kernel_rfl) (by kernel_rfl) (by kernel_rfl) (fun _ _ _ _ _ h => h) hHeld ?_
          refine held_move 10 (Go.Operand.tmp 7) (some 135) (.pointer (some ⟨X, 0, none⟩)) (by kernel_rfl) (by kernel_rfl) (by kernel_rfl) (by kernel_rfl) (by kernel_rfl) (fun _ _ _ _ _ h => h) hHeld ?_
          refine held_call 9 25 #[Go.Operand.tmp 133] #[25] (some 134) #[.pointer (some ⟨D, 0, none⟩)] _ (by kernel_rfl) (by kernel_rfl) (by kernel_rfl) (by kernel_rfl) (image_any (hV5.below hHeld).d) ?_
          rintro e Y2 ⟨v1, rfl, hown1, hb2⟩
          obtain ⟨A1, c1, rfl, _⟩ := own_slice hown1
          have hr1 := SlRead.of_own hown1
          refine ⟨_, rfl, hHeld.trans (hb2.mono hHeld.size), fun hHeld => ?_⟩
          clear hb2 hown1
          refine held_call 11 26 #[Go.Operand.tmp 135] #[27] (some 136) #[.pointer (some ⟨X, 0, none⟩)] _ (by kernel_rfl) (by kernel_rfl) (by kernel_rfl) (by kernel_rfl) (dimage_any (hV5.below hHeld).x) ?_
          rintro e Y3 ⟨v2, rfl, hown2, hb3⟩
          obtain ⟨A2, c2, rfl, _⟩ := own_slice hown2
          have hsm := same_img ss5 hV5.d.len.2 A1 c1 A2 c2 Y3 (hr1.below hb3) (SlRead.of_own hown2)
          refine ⟨_, rfl, hHeld.trans (hb3.mono hHeld.size), fun hHeld => ?_⟩
          clear hb3 hr1 hown2
          refine held_call 12 23 #[Go.Operand.tmp 134, Go.Operand.tmp 136] #[32, 32] (some 137) #[.slice A1 (ss5.length * 128) c1, .slice A2 ((allS ss5).length * 128) c2] _ (by kernel_rfl) (by kernel_rfl) (by kernel_rfl) (by kernel_rfl) (hsm) ?_
          rintro e Y4 ⟨rfl, hb4⟩
          refine ⟨_, rfl, hHeld.trans (hb4.mono hHeld.size), fun hHeld => ?_⟩
          clear hb4 hsm
          refine held_any 13 (Go.Op.unOp Go.UnOp.not 4 (Go.Operand.tmp 137)) (some 138) (.bool false) (by kernel_rfl) (by kernel_rfl) (by kernel_rfl) (by kernel_rfl) (fun _ _ _ _ _ h => h) hHeld (fun o ho w _ => exec_un (vx := .bool true) ho (by kernel_rfl) (by kernel_rfl)) ?_
          refine held_pick 14 (Go.Operand.tmp 132) (Go.Operand.const (Go.Value.bool true)) (Go.Operand.tmp 138) (some 139) false (.bool false) (by kernel_rfl) (by kernel_rfl) (by kernel_rfl) (by kernel_rfl) (by kernel_rfl) (by kernel_rfl) (fun _ _ _ _ _ h => h) hHeld ?_
          refine held_move 15 (Go.Operand.tmp 139) (some 140) (.bool false) (by kernel_rfl) (by kernel_rfl) (by kernel_rfl) (by kernel_rfl) (by kernel_rfl) (fun _ _ _ _ _ h => h) hHeld ?_
          refine held_move 16 (Go.Operand.tmp 6) (some 141) (.pointer (some ⟨D, 0, none⟩)) (by kernel_rfl) (by kernel_rfl) (by kernel_rfl) (by kernel_rfl) (by kernel_rfl) (fun _ _ _ _ _ h => h) hHeld ?_
          refine held_move 18 (Go.Operand.tmp 7) (some 143) (.pointer (some ⟨X, 0, none⟩)) (by kernel_rfl) (by kernel_rfl) (by kernel_rfl) (by kernel_rfl) (by kernel_rfl) (fun _ _ _ _ _ h => h) hHeld ?_
          refine held_nil 19 (Go.Operand.tmp 143) (some 144) ⟨X, 0, none⟩ (by kernel_rfl) (by kernel_rfl) (by kernel_rfl) (by kernel_rfl) (by kernel_rfl) (fun _ _ _ _ _ h => h) hHeld ?_
          refine held_field 20 51 (Go.Operand.tmp 144) 0 (some 145) (.pointer (some ⟨X, 0, none⟩)) (.pointer (some ⟨X, 0, none⟩)) (by kernel_rfl) (by kernel_rfl) (fun w => by kernel_rfl) (by kernel_rfl) (by kernel_rfl) (by kernel_rfl) (fun _ _ _ _ _ h => h) hHeld ?_
          refine held_cell 21 49 (Go.Operand.tmp 145) (some 146) (.pointer (some ⟨X, 0, none⟩)) (.slice (some ⟨T, 0, none⟩) (allS ss5).length cT) (by kernel_rfl) (by kernel_rfl) (fun W hW => load_slice X 0 W 49 (fun w => by kernel_rfl) _ ((hV5.below hW).x.c0)) (by kernel_rfl) (by kernel_rfl) (by kernel_rfl) (fun _ _ _ _ _ h => h) hHeld ?_
          refine held_any 22 (Go.Op.call { callee := Go.Callee.builtin Go.Builtin.len, args := #[Go.Operand.tmp 146], argTypes := #[49] }) (some 147) (.int .i64 ((allS ss5).length : Int)) (by kernel_rfl) (by kernel_rfl) (by kernel_rfl) (by kernel_rfl) (fun _ _ _ _ _ h => h) hHeld (fun o ho w _ => exec_lenA (vx := .slice (some ⟨T, 0, none⟩) (allS ss5).length cT) ho (by kernel_rfl) (fun _ => len_slice _ 62 _ Tryd.underlying49 _ _ _ _)) ?_
          refine held_call 17 27 #[Go.Operand.tmp 141] #[25] (some 142) #[.pointer (some ⟨D, 0, none⟩)] _ (by kernel_rfl) (by kernel_rfl) (by kernel_rfl) (by kernel_rfl) (size_any (hV5.below hHeld).d) ?_
          rintro e Y5 ⟨rfl, hb5⟩
          refine ⟨_, rfl, hHeld.trans (hb5.mono hHeld.size), fun hHeld => ?_⟩
          clear hb5
          refine held_bin 23 Go.BinOp.neq 3 (Go.Operand.tmp 142) (Go.Operand.tmp 147) 3 (some 148) (.int .i64 (ss5.length : Int)) (.int .i64 ((allS ss5).length : Int)) (.bool false) (by kernel_rfl) (by kernel_rfl) (fun w => neq_int _ _ _ w _ _ _ _ (by rw [allS_len]; exact decide_eq_true rfl)) (by kernel_rfl) (by kernel_rfl) (by kernel_rfl) (fun _ _ _ _ _ h => h) hHeld ?_
          refine held_pick 24 (Go.Operand.tmp 140) (Go.Operand.const (Go.Value.bool true)) (Go.Operand.tmp 148) (some 149) false (.bool false) (by kernel_rfl) (by kernel_rfl) (by kernel_rfl) (by kernel_rfl) (by kernel_rfl) (by kernel_rfl) (fun _ _ _ _ _ h => h) hHeld ?_
          refine wpAnyH_done (by kernel_rfl) ?_ _
          refine NoPanic.normal ?_
          have HF := Lib.hid (hV5.below hHeld)
          clear hV5 hHeld
          simp only [Act.put, List.setIfInBounds_toArray, List.set_cons_zero, List.set_cons_succ]
          go_wp2_with fail
          refine ⟨?rel, ?measure⟩
          case rel => exact ⟨i + 1, _, _, _, _, by omega, by go_num, HF.out⟩
          case measure => simp [intOf] <;> omega
      · have hrb := read_both HE0.out hV1 q.b
        have HV1 := Lib.hid hV1
        clear hc2 hc3 hsv hqb hfk hfl hV1
        go_upto_region 39 with (first | (go_at_call 21; refine hrb.mono ?_; rintro e V2 ⟨A2, k2, l2, v2, c2, rfl, hrd2, hl2, hs2, hb2, hrb2⟩; have hc2 := (hb2.cell (p := ⟨DB, 1, none⟩) hDl).trans hc1; clear hc1) | (go_at_call 22; refine hrb2.mono ?_; rintro e V3 ⟨A3, k3, rfl, hs3, hb3⟩; have hsm := same_self l2 (by omega) A2 A3 k2 k3 V3 (hs2.below hb3) hs3) | (go_at_call 23; refine hsm.mono ?_; rintro e V4 ⟨rfl, hb4⟩; have hV4 := HV1.out.below (hb2.trans ((hb3.trans (hb4.mono hb3.size)).mono hb2.size)); have his := is_same E v2 c2 hrd2 V4 (hV4.errs HE0.out)) | (go_at_call 12; refine his.mono ?_; rintro e V6 ⟨rfl, hb6⟩; have HV4 := Lib.hid (hV4.below hb6).mono; clear hV4 hb6))
        refine wp_world (fun W => ∃ ss5 pv5 off5 fuse5, BothS w0 W D R X T cT ss5 pv5 off5 fuse5 (i + 1)) ⟨_, _, _, _, HV4.out⟩ ?_
        rintro V ⟨ss5, pv5, off5, fuse5, hV5⟩
        clear HV4
        refine wp_region_noPanic ?_
        refine wp_region_held_drew (S := fun W => Below V.heap.size V W) (by kernel_rfl) (Below.drewNr (w := V) 1) (fun hHeld => ?_)
        refine held_move 0 (Go.Operand.tmp 6) (some 125) (.pointer (some ⟨D, 0, none⟩)) (by kernel_rfl) (by kernel_rfl) (by kernel_rfl) (by kernel_rfl) (by kernel_rfl) (fun _ _ _ _ _ h => h) hHeld ?_
        refine held_move 2 (Go.Operand.tmp 7) (some 127) (.pointer (some ⟨X, 0, none⟩)) (by kernel_rfl) (by kernel_rfl) (by kernel_rfl) (by kernel_rfl) (by kernel_rfl) (fun _ _ _ _ _ h => h) hHeld ?_
        refine held_nil 3 (Go.Operand.tmp 127) (some 128) ⟨X, 0, none⟩ (by kernel_rfl) (by kernel_rfl) (by kernel_rfl) (by kernel_rfl) (by kernel_rfl) (fun _ _ _ _ _ h => h) hHeld ?_
        refine held_field 4 51 (Go.Operand.tmp 128) 2 (some 129) (.pointer (some ⟨X, 0, none⟩)) (.pointer (some ⟨X, 2, none⟩)) (by kernel_rfl) (by kernel_rfl) (fun w => by kernel_rfl) (by kernel_rfl) (by kernel_rfl) (by kernel_rfl) (fun _ _ _ _ _ h => h) hHeld ?_
        refine held_cell 5 4 (Go.Operand.tmp 129) (some 130) (.pointer (some ⟨X, 2, none⟩)) (.bool off5) (by kernel_rfl) (by kernel_rfl) (fun W hW => load_bool X 2 W _ ((hV5.below hW).x.c2)) (by kernel_rfl) (by kernel_rfl) (by kernel_rfl) (fun _ _ _ _ _ h => h) hHeld ?_
        refine held_call 1 24 #[Go.Operand.tmp 125] #[25] (some 126) #[.pointer (some ⟨D, 0, none⟩)] _ (by kernel_rfl) (by kernel_rfl) (by kernel_rfl) (by kernel_rfl) (off_any (hV5.below hHeld).d) ?_
        rintro e Y1 ⟨rfl, hb1⟩
        refine ⟨_, rfl, hHeld.trans (hb1.mono hHeld.size), fun hHeld => ?_⟩
        clear hb1
        refine held_bin 6 Go.BinOp.neq 4 (Go.Operand.tmp 126) (Go.Operand.tmp 130) 4 (some 131) (.bool off5) (.bool off5) (.bool false) (by kernel_rfl) (by kernel_rfl) (fun w => by cases off5 <;> kernel_rfl) (by kernel_rfl) (by kernel_rfl) (by kernel_rfl) (fun _ _ _ _ _ h => h) hHeld ?_
        refine held_move 7 (Go.Operand.tmp 131) (some 132) (.bool false) (by kernel_rfl) (by kernel_rfl) (by kernel_rfl) (by kernel_rfl) (by kernel_rfl) (fun _ _ _ _ _ h => h) hHeld ?_
        refine held_move 8 (Go.Operand.tmp 6) (some 133) (.pointer (some ⟨D, 0, none⟩)) (by kernel_rfl) (by kernel_rfl) (by kernel_rfl) (by kernel_rfl) (by kernel_rfl) (fun _ _ _ _ _ h => h) hHeld ?_
        refine held_move 10 (Go.Operand.tmp 7) (some 135) (.pointer (some ⟨X, 0, none⟩)) (by kernel_rfl) (by kernel_rfl) (by kernel_rfl) (by kernel_rfl) (by kernel_rfl) (fun _ _ _ _ _ h => h) hHeld ?_
        refine held_call 9 25 #[Go.Operand.tmp 133] #[25] (some 134) #[.pointer (some ⟨D, 0, none⟩)] _ (by kernel_rfl) (by kernel_rfl) (by kernel_rfl) (by kernel_rfl) (image_any (hV5.below hHeld).d) ?_
        rintro e Y2 ⟨v1, rfl, hown1, hb2⟩
        obtain ⟨A1, c1, rfl, _⟩ := own_slice hown1
        have hr1 := SlRead.of_own hown1
        refine ⟨_, rfl, hHeld.trans (hb2.mono hHeld.size), fun hHeld => ?_⟩
        clear hb2 hown1
        refine held_call 11 26 #[Go.Operand.tmp 135] #[27] (some 136) #[.pointer (some ⟨X, 0, none⟩)] _ (by kernel_rfl) (by kernel_rfl) (by kernel_rfl) (by kernel_rfl) (dimage_any (hV5.below hHeld).x) ?_
        rintro e Y3 ⟨v2, rfl, hown2, hb3⟩
        obtain ⟨A2, c2, rfl, _⟩ := own_slice hown2
        have hsm := same_img ss5 hV5.d.len.2 A1 c1 A2 c2 Y3 (hr1.below hb3) (SlRead.of_own hown2)
        refine ⟨_, rfl, hHeld.trans (hb3.mono hHeld.size), fun hHeld => ?_⟩
        clear hb3 hr1 hown2
        refine held_call 12 23 #[Go.Operand.tmp 134, Go.Operand.tmp 136] #[32, 32] (some 137) #[.slice A1 (ss5.length * 128) c1, .slice A2 ((allS ss5).length * 128) c2] _ (by kernel_rfl) (by kernel_rfl) (by kernel_rfl) (by kernel_rfl) (hsm) ?_
        rintro e Y4 ⟨rfl, hb4⟩
        refine ⟨_, rfl, hHeld.trans (hb4.mono hHeld.size), fun hHeld => ?_⟩
        clear hb4 hsm
        refine held_any 13 (Go.Op.unOp Go.UnOp.not 4 (Go.Operand.tmp 137)) (some 138) (.bool false) (by kernel_rfl) (by kernel_rfl) (by kernel_rfl) (by kernel_rfl) (fun _ _ _ _ _ h => h) hHeld (fun o ho w _ => exec_un (vx := .bool true) ho (by kernel_rfl) (by kernel_rfl)) ?_
        refine held_pick 14 (Go.Operand.tmp 132) (Go.Operand.const (Go.Value.bool true)) (Go.Operand.tmp 138) (some 139) false (.bool false) (by kernel_rfl) (by kernel_rfl) (by kernel_rfl) (by kernel_rfl) (by kernel_rfl) (by kernel_rfl) (fun _ _ _ _ _ h => h) hHeld ?_
        refine held_move 15 (Go.Operand.tmp 139) (some 140) (.bool false) (by kernel_rfl) (by kernel_rfl) (by kernel_rfl) (by kernel_rfl) (by kernel_rfl) (fun _ _ _ _ _ h => h) hHeld ?_
        refine held_move 16 (Go.Operand.tmp 6) (some 141) (.pointer (some ⟨D, 0, none⟩)) (by kernel_rfl) (by kernel_rfl) (by kernel_rfl) (by kernel_rfl) (by kernel_rfl) (fun _ _ _ _ _ h => h) hHeld ?_
        refine held_move 18 (Go.Operand.tmp 7) (some 143) (.pointer (some ⟨X, 0, none⟩)) (by kernel_rfl) (by kernel_rfl) (by kernel_rfl) (by kernel_rfl) (by kernel_rfl) (fun _ _ _ _ _ h => h) hHeld ?_
        refine held_nil 19 (Go.Operand.tmp 143) (some 144) ⟨X, 0, none⟩ (by kernel_rfl) (by kernel_rfl) (by kernel_rfl) (by kernel_rfl) (by kernel_rfl) (fun _ _ _ _ _ h => h) hHeld ?_
        refine held_field 20 51 (Go.Operand.tmp 144) 0 (some 145) (.pointer (some ⟨X, 0, none⟩)) (.pointer (some ⟨X, 0, none⟩)) (by kernel_rfl) (by kernel_rfl) (fun w => by kernel_rfl) (by kernel_rfl) (by kernel_rfl) (by kernel_rfl) (fun _ _ _ _ _ h => h) hHeld ?_
        refine held_cell 21 49 (Go.Operand.tmp 145) (some 146) (.pointer (some ⟨X, 0, none⟩)) (.slice (some ⟨T, 0, none⟩) (allS ss5).length cT) (by kernel_rfl) (by kernel_rfl) (fun W hW => load_slice X 0 W 49 (fun w => by kernel_rfl) _ ((hV5.below hW).x.c0)) (by kernel_rfl) (by kernel_rfl) (by kernel_rfl) (fun _ _ _ _ _ h => h) hHeld ?_
        refine held_any 22 (Go.Op.call { callee := Go.Callee.builtin Go.Builtin.len, args := #[Go.Operand.tmp 146], argTypes := #[49] }) (some 147) (.int .i64 ((allS ss5).length : Int)) (by kernel_rfl) (by kernel_rfl) (by kernel_rfl) (by kernel_rfl) (fun _ _ _ _ _ h => h) hHeld (fun o ho w _ => exec_lenA (vx := .slice (some ⟨T, 0, none⟩) (allS ss5).length cT) ho (by kernel_rfl) (fun _ => len_slice _ 62 _ Tryd.underlying49 _ _ _ _)) ?_
        refine held_call 17 27 #[Go.Operand.tmp 141] #[25] (some 142) #[.pointer (some ⟨D, 0, none⟩)] _ (by kernel_rfl) (by kernel_rfl) (by kernel_rfl) (by kernel_rfl) (size_any (hV5.below hHeld).d) ?_
        rintro e Y5 ⟨rfl, hb5⟩
        refine ⟨_, rfl, hHeld.trans (hb5.mono hHeld.size), fun hHeld => ?_⟩
        clear hb5
        refine held_bin 23 Go.BinOp.neq 3 (Go.Operand.tmp 142) (Go.Operand.tmp 147) 3 (some 148) (.int .i64 (ss5.length : Int)) (.int .i64 ((allS ss5).length : Int)) (.bool false) (by kernel_rfl) (by kernel_rfl) (fun w => neq_int _ _ _ w _ _ _ _ (by rw [allS_len]; exact decide_eq_true rfl)) (by kernel_rfl) (by kernel_rfl) (by kernel_rfl) (fun _ _ _ _ _ h => h) hHeld ?_
        refine held_pick 24 (Go.Operand.tmp 140) (Go.Operand.const (Go.Value.bool true)) (Go.Operand.tmp 148) (some 149) false (.bool false) (by kernel_rfl) (by kernel_rfl) (by kernel_rfl) (by kernel_rfl) (by kernel_rfl) (by kernel_rfl) (fun _ _ _ _ _ h => h) hHeld ?_
        refine wpAnyH_done (by kernel_rfl) ?_ _
        refine NoPanic.normal ?_
        have HF := Lib.hid (hV5.below hHeld)
        clear hV5 hHeld
        simp only [Act.put, List.setIfInBounds_toArray, List.set_cons_zero, List.set_cons_succ]
        go_wp2_with fail
        refine ⟨?rel, ?measure⟩
        case rel => exact ⟨i + 1, _, _, _, _, by omega, by go_num, HF.out⟩
        case measure => simp [intOf] <;> omega
    · go_wp2_with fail
      go_ret
      exact ⟨rfl, HB.out.b⟩
end Go.Proofs.YtionjhlllpipjaaDoor
