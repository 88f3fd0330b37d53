import Derived.Test.YtpegihfocnchnaaDoorAec
import Derived.Test.YtpegihfocnchnaaDoorIdx
import Derived.Test.YtpegihfocnchnaaDoorErr
/-
  aead.Open.
-/
namespace Go.Proofs.YtpegihfocnchnaaDoor
open Go.RowKit

theorem slice_h0 {P : Program} {t e : TypeId} (hu : P.underlying t = some (.slice e)) (hs : (P.info? e).map (·.size) = some 1) (A : Option Addr) (len cap n : Nat) (hn : n ≤ cap) (w : World) :
    (Instr.slice t (.slice A len cap) none (some (.int .i64 (n : Int))) none).run P w = .ok (.slice A n cap) w := by
  have e2 : P.elem t = e := by simp [Program.elem, hu]
  rw [run_slice_h (P := P) w t A len cap (by rw [e2]; exact hu) .i64 (n : Int) (by omega) (by omega), e2]
  obtain ⟨i, hi, hz⟩ := Option.map_eq_some_iff.1 hs
  simp [sizeOf, typeInfo, hi, hz, Result.andThen, sliced]
  intro _
  cases A with
  | none => rfl
  | some a => obtain ⟨b, o, r⟩ := a; cases r <;> simp [Addr.add]
theorem SlRead.front {w : World} {A : Option Addr} {bs : List (BitVec 8)} (h : SlRead w A (ints .u8 (bys bs))) (n : Nat) : SlRead w A (ints .u8 (bys (bs.take n))) := by
  intro hne
  have hp : 0 < (ints .u8 (bys bs)).length := by
    rw [bys_ints] at hne ⊢
    simp at hne ⊢
    omega
  obtain ⟨b, o, rfl, hlt, hc⟩ := h hp
  refine ⟨b, o, rfl, hlt, fun j u hj => hc j u ?_⟩
  rw [bys_ints] at hj ⊢
  rw [← hj]
  have hjl := (List.getElem?_eq_some_iff.1 hj).1
  simp at hjl
  simp [List.getElem?_take]
  omega

/-- what is opened, and the number of what is told -/
def openGot (key non : Nat → BitVec 8) (ad b : List (BitVec 8)) : List (BitVec 8) × Nat :=
  if b.length < 16 then ([], 103) else
  if lst 16 (polyB (ckB key 0#32 non) (tagData ad (b.take (b.length - 16)))) = b.drop (b.length - 16) then (xorB key 1#32 non (b.take (b.length - 16)), 0) else ([], 109)
def errC (E : Nat → Addr) (c : Nat) : Value := if c = 0 then .nilIface else errV (E (c - 101))
theorem errC_reads (E : Nat → Addr) (c : Nat) (h : c = 0 ∨ (101 ≤ c ∧ c < 120)) : Reads E (errC E c) c := by
  rcases h with rfl | h
  · exact .inl ⟨rfl, rfl⟩
  · refine .inr ⟨c - 101, by omega, ?_, by omega⟩
    unfold errC
    rw [if_neg (by omega)]

/-- ErrShort and ErrTag as they lie -/
structure ErrsSt (E : Nat → Addr) (W : World) : Prop where
  s : W.cell? ⟨0, 0, none⟩ = some (errV (E 2))
  t : W.cell? ⟨1, 0, none⟩ = some (errV (E 8))
theorem ErrsSt.below {E : Nat → Addr} {W W' : World} (h : ErrsSt E W) (hb : Below W.heap.size W W') : ErrsSt E W' :=
  ⟨by rw [World.cell?_of_block (hb.block _ (World.block_lt_of_cell? W _ h.s))]; exact h.s, by rw [World.cell?_of_block (hb.block _ (World.block_lt_of_cell? W _ h.t))]; exact h.t⟩
theorem ErrsAt.st {E : Nat → Addr} {W : World} (h : ErrsAt E W) : ErrsSt E W := ⟨h.c 2 (by decide), h.c 8 (by decide)⟩
theorem st_of_laid {laid : List (String × DataW Unit)} {W : World} (h : laidMetH Tryd.prog laid W) (h2 : laid.filter (fun x => x.1 == errName 2) = [(errName 2, errDat 2)]) (h8 : laid.filter (fun x => x.1 == errName 8) = [(errName 8, errDat 8)]) : ∃ E, ErrsSt E W := by
  obtain ⟨a, _, ha, _⟩ := err_of_laid h 2 (by decide) h2
  obtain ⟨b, _, hb, _⟩ := err_of_laid h 8 (by decide) h8
  exact ⟨fun i => if i = 2 then a else b, ha, hb⟩

set_option maxRecDepth 100000 in
set_option maxHeartbeats 1600000 in
theorem open_st (E : Nat → Addr) (key non : Nat → BitVec 8) (A X : Option Addr) (ad b : List (BitVec 8)) (ca cx : Nat) (w : World) (hE : ErrsSt E w) (hA : SlRead w A (ints .u8 (bys ad))) (hX : SlRead w X (ints .u8 (bys b))) (hla : ad.length ≤ 1000) (hlx : b.length ≤ 1000) (hcx : b.length ≤ cx) :
    Calls Tryd.prog 29 #[.agg (arr8 32 key), .agg (arr8 12 non), .slice A ad.length ca, .slice X b.length cx] w fun e w' => ∃ v, e = .returned (.tuple #[v, errC E (openGot key non ad b).2]) ∧ OwnB w w.heap.size (openGot key non ad b).1 v w' := by
  have hslT := sliceAt_all (P := Tryd.prog) 16 Tryd.underlying58 (show (Tryd.prog.info? 5).map (·.size) = some 1 by kernel_rfl)
  go_enter Tryd.func29, Tryd.ntmps29
  go_upto_region 1 with (fail)
  refine wp_world (fun W => W.rowIs w.heap.size 23 32 (fun i => v8 (key i)) ∧ W.rowIs (w.heap.size + 1) 48 12 (fun i => v8 (non i)) ∧ Below w.heap.size w W) ?_ ?_
  · refine ⟨?_, ?_, ?_⟩
    · exact (rowIs_new _ _ _ _ _ _ (by simp) (by simp) (fun i hi => arr8_get 32 key i hi)).alloc _
    · exact rowIs_new _ _ _ _ _ _ (by simp) (by simp) (fun i hi => arr8_get 12 non i hi)
    · go_grown
  rintro W0 ⟨h0, h1, h2⟩
  have hE0 := hE.below h2
  generalize hB : w.heap.size = B at h0 h1 h2 ⊢
  have HB := Lib.hid hB; clear hB
  by_cases hs : b.length < 16
  · have hd : decide ((b.length : Int) < 16) = true := by simp; omega
    have c2 : W0.cell? ⟨0, 0, none⟩ = some (errV (E 2)) := hE0.s
    go_wp2_with fail
    go_quiet (fail)
    go_wp2_with fail
    go_ret2
    have e : openGot key non ad b = ([], 103) := by unfold openGot; rw [if_pos hs]
    rw [e, HB.out]
    exact ⟨_, rfl, World.ownsRow_nil _ _ _ _, h2.trans ((Below.drewNr (w := W0) _).mono (by rw [← HB.out]; exact h2.size)), by rw [← HB.out]; exact h2.size⟩
  · have hd : decide ((b.length : Int) < 16) = false := by simp; omega
    obtain ⟨m, hm⟩ : ∃ m, b.length = m + 16 := ⟨b.length - 16, by omega⟩
    have hsub : IntKind.i64.wrap ((b.length : Int) - 16) = (m : Int) := by rw [IntWalk.i64_in _ (by omega)]; omega
    have hs1 := slice_h0 (P := Tryd.prog) (t := 24) Tryd.underlying24 (show (Tryd.prog.info? 5).map (·.size) = some 1 by kernel_rfl) X b.length cx m (by omega)
    have hs2 := slice_sl_l (P := Tryd.prog) (t := 24) Tryd.underlying24 (show (Tryd.prog.info? 5).map (·.size) = some 1 by kernel_rfl) X b.length cx m (m : Int) rfl (by omega)
    have HM := Lib.hid hm; clear hm
    go_wp2_with fail
    go_quiet (fail)
    have hmr : b.length - 16 = m := by have := HM.out; omega
    rw [show b.length - m = 16 by have := HM.out; omega]
    obtain ⟨tx, htx⟩ : ∃ tx, tx = b.take m := ⟨_, rfl⟩
    obtain ⟨tt, htt⟩ : ∃ tt, tt = b.drop m := ⟨_, rfl⟩
    have htl : tx.length = m := by rw [htx, List.length_take]; omega
    have httl : tt.length = 16 := by rw [htt, List.length_drop]; omega
    have hX1 := hX.front m
    have hX2 := hX.cut m (cutA X m cx) (fun hlt b' o' e => by subst e; exact cutA_some (by simpa using hlt) hcx)
    rw [bys_drop, ← htt] at hX2
    rw [← htx] at hX1
    have hgot : openGot key non ad b = if lst 16 (polyB (ckB key 0#32 non) (tagData ad tx)) = tt then (xorB key 1#32 non tx, 0) else ([], 109) := by
      unfold openGot
      rw [if_neg hs, hmr, htx, htt]
    have hm1 : m ≤ 1000 := by omega
    have HG := Lib.hid hgot
    clear hs1 hs2 hsub hgot hmr HM hd hs
    obtain ⟨Y, hY⟩ : ∃ Y, Y = cutA X m cx := ⟨_, rfl⟩
    rw [← hY] at hX2 ⊢
    go_upto_region 4 with (fail)
    refine wp_world (fun W => W.rowIs B 23 32 (fun i => v8 (key i)) ∧ W.rowIs (B + 1) 48 12 (fun i => v8 (non i)) ∧ Below B w W) ⟨h0, h1, h2.trans ((Below.drewNr (w := W0) _).mono (by rw [← HB.out]; exact h2.size))⟩ ?_
    clear h0 h1 h2 hE0 htx htt hX hY W0
    rintro W0 ⟨h0, h1, h2⟩
    have hk := rowIs_heap8 h0
    have hn := rowIs_heap8 h1
    have hA0 : SlRead W0 A (ints .u8 (bys ad)) := hA.below (by rw [HB.out]; exact h2)
    replace hX1 : SlRead W0 X (ints .u8 (bys tx)) := hX1.below (by rw [HB.out]; exact h2)
    replace hX2 : SlRead W0 Y (ints .u8 (bys tt)) := hX2.below (by rw [HB.out]; exact h2)
    have hE0 := hE.below (show Below w.heap.size w W0 by rw [HB.out]; exact h2)
    have htag := tagof_any key non A X ad tx ca cx W0 hA0 hX1 hla (by omega)
    rw [htl] at htag
    go_upto_region 5 with (first | (refine wpList_load_row rfl 23 _ rfl _ rfl _ _ _ _ hk Tryd.underlying23 rfl (by kernel_rfl) ?_) | (refine wpList_load_row rfl 48 _ rfl _ rfl _ _ _ _ hn Tryd.underlying48 rfl (by kernel_rfl) ?_) | (go_at_call 34; refine htag.mono ?_; rintro e W2 ⟨rfl, hb2⟩) | (refine wpList_store_row rfl 58 _ _ rfl _ _ rfl rfl _ _ (heap_alloc_new _ _) (by kernel_rfl) (by simp) (arr8_one _ _) ?_; rw [alloc_setRow]))
    obtain ⟨tg, htg⟩ : ∃ tg, tg = polyB (ckB key 0#32 non) (tagData ad tx) := ⟨_, rfl⟩
    rw [← htg] at HG ⊢
    have hb3 : Below W0.heap.size W0 (W2.alloc (.cells (arr8 16 tg) 58)) := hb2.alloc hb2.size _
    refine wp_world (fun W => Below W0.heap.size W0 W ∧ W.rowIs W2.heap.size 58 16 (fun i => v8 (tg i))) ⟨hb3, rowIs_new _ _ _ _ _ _ rfl (by simp) (fun i hi => arr8_get 16 _ i hi)⟩ ?_
    clear hb3
    rintro W3 ⟨hb3, hT3⟩
    generalize W2.heap.size = g at hT3 ⊢
    clear htag htg hb2 W2
    have h01 := h0.of_block (hb3.block _ h0.lt)
    have h11 := h1.of_block (hb3.block _ h1.lt)
    have hX13 := hX1.below hb3
    have hX23 := hX2.below hb3
    have hE3 := hE0.below hb3
    have hb := h2.trans (hb3.mono (Nat.le_of_lt h0.lt))
    clear h0 h1 h2 hk hn hA0 hX1 hX2 hE0 hb3 hA W0
    have hS := slread_row hT3
    have heq := meq_any (some ⟨g, 0, none⟩) Y (lst 16 tg) tt 16 (cx - m) W3 hS hX23 (by rw [lst_length]; omega) (by omega)
    rw [lst_length, httl] at heq
    by_cases ht : lst 16 tg = tt
    · rw [show decide (lst 16 tg = tt) = true by simp [ht]] at heq
      rw [if_pos ht] at HG
      go_wp2_with fail
      refine heq.mono ?_
      rintro e W4 ⟨rfl, q, rfl⟩
      have hb4 : Below W3.heap.size W3 (W3.drewN q) := Below.drewNr q
      generalize W3.drewN q = W4 at hb4 ⊢
      have hbw := hb.trans (hb4.mono (Nat.le_of_lt h01.lt))
      have h04 := h01.of_block (hb4.block _ h01.lt)
      have h14 := h11.of_block (hb4.block _ h11.lt)
      have hX4 := hX13.below hb4
      have hk := rowIs_heap8 h04
      have hn := rowIs_heap8 h14
      have hBw : B ≤ W4.heap.size := Nat.le_of_lt h04.lt
      clear heq hS hT3 h01 h11 hX13 hX23 hE3 hb4 hb W3
      have hxor := xorb_any key non 1#32 X tx cx W4 hX4 (by omega)
      have hxl : (xorB key 1#32 non tx).length = m := by simpa using htl
      rw [htl] at hxor
      go_wp2_with (first | (refine wpList_load_row rfl 23 _ rfl _ rfl _ _ _ _ hk Tryd.underlying23 rfl (by kernel_rfl) ?_) | (refine wpList_load_row rfl 48 _ rfl _ rfl _ _ _ _ hn Tryd.underlying48 rfl (by kernel_rfl) ?_))
      refine hxor.mono ?_
      rintro e W5 ⟨O, rfl, h5⟩
      go_wp2_with fail
      go_ret2
      rw [HG.out, HB.out]
      exact ⟨_, rfl, own_mono h5.own hBw, hbw.trans (h5.b.mono hBw), Nat.le_trans hBw h5.s⟩
    · rw [show decide (lst 16 tg = tt) = false by simp [ht]] at heq
      rw [if_neg ht] at HG
      go_wp2_with fail
      refine heq.mono ?_
      rintro e W4 ⟨rfl, q, rfl⟩
      have hb4 : Below W3.heap.size W3 (W3.drewN q) := Below.drewNr q
      generalize W3.drewN q = W4 at hb4 ⊢
      have hbw := hb.trans (hb4.mono (Nat.le_of_lt h01.lt))
      have hE4 := hE3.below hb4
      have c8 : W4.cell? ⟨1, 0, none⟩ = some (errV (E 8)) := hE4.t
      have hBw : B ≤ W4.heap.size := Nat.le_trans (Nat.le_of_lt h01.lt) hb4.size
      clear heq hS hT3 h01 h11 hX13 hX23 hE3 hb4 hb hE4 W3
      go_wp2_with fail
      go_quiet (fail)
      go_wp2_with fail
      go_ret2
      rw [HG.out, HB.out]
      exact ⟨_, rfl, World.ownsRow_nil _ _ _ _, hbw.trans ((Below.drewNr (w := W4) _).mono hBw), hBw⟩
theorem open_any (E : Nat → Addr) (key non : Nat → BitVec 8) (A X : Option Addr) (ad b : List (BitVec 8)) (ca cx : Nat) (w : World) (hE : ErrsAt E w) (hA : SlRead w A (ints .u8 (bys ad))) (hX : SlRead w X (ints .u8 (bys b))) (hla : ad.length ≤ 1000) (hlx : b.length ≤ 1000) (hcx : b.length ≤ cx) :
    Calls Tryd.prog 29 #[.agg (arr8 32 key), .agg (arr8 12 non), .slice A ad.length ca, .slice X b.length cx] w fun e w' => ∃ v, e = .returned (.tuple #[v, errC E (openGot key non ad b).2]) ∧ OwnB w w.heap.size (openGot key non ad b).1 v w' :=
  open_st E key non A X ad b ca cx w hE.st hA hX hla hlx hcx
end Go.Proofs.YtpegihfocnchnaaDoor
