import Derived.Test.YtbeeehfaeknhmaaDoorDkj
/-
  disk: Image.
-/
namespace Go.Proofs.YtbeeehfaeknhmaaDoor
open Go.RowKit

theorem field_S0 (R o : Nat) (w : World) : (Instr.fieldAt 93 (.pointer (some ⟨R, o, none⟩)) 0).run Tryd.prog w = .ok (.pointer (some ⟨R, o, none⟩)) w := by go_simp
theorem slice_C (b o : Nat) (w : World) : (Instr.sliceAt 90 (.pointer (some ⟨b, o, none⟩)) none none none).run Tryd.prog w = .ok (.slice (some ⟨b, o, none⟩) 128 128) w := by
  have hu := Tryd.underlying90
  have e1 : Tryd.prog.arrayLen 90 = 128 := by simp [Program.arrayLen, hu]
  have e2 : Tryd.prog.elem 90 = 5 := by simp [Program.elem, hu]
  have := run_sliceAt_array_all (P := Tryd.prog) w 90 ⟨b, o, none⟩ (by rw [e1, e2]; exact hu)
  rw [this, e1, e2]
  obtain ⟨i, hi, hz⟩ := Option.map_eq_some_iff.1 (show (Tryd.prog.info? 5).map (·.size) = some 1 by kernel_rfl)
  simp [sizeOf, typeInfo, hi, hz, Result.andThen, slicedAt, Addr.add]
def durs (ss : List Sec) : List UInt8 := ss.flatMap Sec.dur
theorem durs_len : ∀ ss : List Sec, (durs ss).length = ss.length * 128
  | [] => rfl
  | s :: ss => by
    have ih := durs_len ss
    have h := s.hd
    simp only [durs, List.flatMap_cons, List.length_append, List.length_cons] at ih ⊢
    omega
theorem durs_take (ss : List Sec) (k : Nat) (s : Sec) (hs : ss[k]? = some s) : durs (ss.take (k + 1)) = durs (ss.take k) ++ s.dur := by
  have h := (List.getElem?_eq_some_iff.1 hs).1
  have e := (List.getElem?_eq_some_iff.1 hs).2
  unfold durs
  rw [List.take_succ_eq_append_getElem h, e]
  simp
theorem info_U2 : (Tryd.prog.info? 5).map (fun i => (i.size, i.bytes)) = some (1, 1) := by kernel_rfl
theorem zero_U (i : TypeInfo) (h : Tryd.prog.info? 5 = some i) : i.zero = some (.int .u8 0) := by
  have : (Tryd.prog.info? 5).bind (·.zero) = some (.int .u8 0) := by kernel_rfl
  rw [h] at this
  exact this
theorem run_app_U (ty : TypeId) (W : World) (base : Nat) (v : Value) (n : Nat) (l : List UInt8) (hown : W.ownsRow base 5 1 v n (bcells l)) (B : List UInt8) (a : Addr) (m c : Nat) (hm : B.length = m)
    (hnews : ∀ j u, (bcells B)[j]? = some u → W.cell? (a.add j) = some u) (hn : n + m ≤ 100000) (hbase : base ≤ W.heap.size) :
    ∃ v' w', (Builtin.append_ #[41, 41] ty #[v, .slice (some a) m c]).run Tryd.prog W = .ok v' w' ∧ w'.ownsRow base 5 1 v' (n + m) (bcells (l ++ B)) ∧ W.grownBy w' v.ownBlock ∧ (∀ q, v'.ownBlock = some q → v.ownBlock = some q ∨ W.heap.size ≤ q) := by
  obtain ⟨i, hi, hz⟩ := Option.map_eq_some_iff.1 info_U2
  simp only [Prod.mk.injEq] at hz
  obtain ⟨v', w', h1, h2, h3, _, h4⟩ := run_append_own2 (P := Tryd.prog) W base 41 ty 5 i (.int .u8 0) 1 1 Tryd.underlying41 hi (zero_U i hi) hz.1 hz.2 rfl (by omega) v n (bcells l) hown a m c (bcells B) (by rw [bcells_len, hm, Nat.mul_one]) hnews (bcells_one B) (by unfold maxLen; omega) (by omega) hbase
  exact ⟨v', w', h1, by rw [bcells_app]; exact h2, h3, h4⟩
theorem make_U (base c : Nat) (hc : c ≤ 100000) (w : World) (hb : base ≤ w.heap.size) : ∃ w', (Instr.makeSlice 41 (.int .i64 0) (.int .i64 (c : Int))).run Tryd.prog w = .ok (.slice (some ⟨w.heap.size, 0, none⟩) 0 c) w' ∧
      w'.ownsRow base 5 1 (.slice (some ⟨w.heap.size, 0, none⟩) 0 c) 0 [] ∧ w.grownBy w' none := by
  obtain ⟨i, hi, hz⟩ := Option.map_eq_some_iff.1 info_U2
  simp only [Prod.mk.injEq] at hz
  exact run_make_own (P := Tryd.prog) w base 41 5 i (.int .u8 0) 1 Tryd.underlying41 hi (zero_U i hi) hz.1 .i64 .i64 c (by rw [hz.2]; omega) (by unfold maxLen; omega) hb
theorem below_own {w w1 w2 : World} (hb : Below w.heap.size w w1) {v : Value} {n size : Nat} {e : TypeId} {xs : List Value} (ho : w1.ownsRow w.heap.size e size v n xs) (hg : w1.grownBy w2 v.ownBlock) : Below w.heap.size w w2 :=
  hb.trans ⟨hg.os, hg.tape, hg.output, hg.size, fun k hk => hg.block k (Nat.lt_of_lt_of_le hk hb.size) (fun e => by have := (ho.lt k e.symm).1; omega)⟩
section
variable {w : World} {n D R : Nat} {ss : List Sec} {off : Bool} {fuse : Int} {pv : Nat → Value}
set_option maxRecDepth 100000 in
set_option maxHeartbeats 1600000 in
theorem image_any (h : DkS w n D R ss off fuse pv) : Calls Tryd.prog 28 #[.pointer (some ⟨D, 0, none⟩)] w fun e w' => ∃ v, e = .returned v ∧ w'.ownsRow w.heap.size 5 1 v (ss.length * 128) (bcells (durs ss)) ∧ Below w.heap.size w w' := by
  have hhd := h.hdr
  have hlen := h.len
  obtain ⟨w1, hmk, ho1, hg1⟩ := make_U w.heap.size (ss.length * 128) (by omega) w (Nat.le_refl _)
  have hmk' : (Instr.makeSlice 41 (.int .i64 0) (.int .i64 ((ss.length : Int) * 128))).run Tryd.prog w = .ok (.slice (some ⟨w.heap.size, 0, none⟩) 0 (ss.length * 128)) w1 := by
    rw [show ((ss.length : Int) * 128) = ((ss.length * 128 : Nat) : Int) by omega]
    exact hmk
  have hb1 : Below w.heap.size w w1 := ⟨hg1.os, hg1.tape, hg1.output, hg1.size, fun k hk => hg1.block k hk (by simp)⟩
  have hhd1 := (h.below hb1).hdr
  have H := Lib.hid h
  have HO1 := Lib.hid ho1
  have HB1 := Lib.hid hb1
  have hsm : ss.length ≤ 400 := hlen.2
  clear h hmk hg1 ho1 hb1
  go_enter Tryd.func28, Tryd.ntmps28
  go_wp2_with fail
  go_loopw [3, 17] (fun x i wr => ∃ (k : Nat) (v : Value), v = x ∧ i = .int .i64 (k : Int) ∧ k ≤ ss.length ∧ wr.ownsRow w.heap.size 5 1 v (k * 128) (bcells (durs (ss.take k))) ∧ Below w.heap.size w wr) (fun _ i _ => ss.length - (intOf i).toNat)
  case atStart => exact ⟨0, _, rfl, rfl, by omega, by rw [Nat.zero_mul, List.take_zero]; exact HO1.out, HB1.out⟩
  case round =>
    obtain ⟨k, v, rfl, rfl, hk, ho, hb⟩ := hrel
    by_cases hlt : k < ss.length
    · have hlt' : decide (k < ss.length) = true := by simpa using hlt
      obtain ⟨s, hs⟩ : ∃ s, ss[k]? = some s := ⟨_, List.getElem?_eq_getElem hlt⟩
      have hd := H.out.below hb
      obtain ⟨v', w', hap, ho', hg', _⟩ := run_app_U 41 wr w.heap.size v _ _ ho s.dur ⟨R, k * 129, none⟩ 128 128 s.hd (fun j u hu => by rw [Addr.add_mid]; exact hd.dur k s hs j u hu) (by omega) hb.size
      rw [← durs_take ss k s hs, show k * 128 + 128 = (k + 1) * 128 by omega] at ho'
      have HO := Lib.hid ho'
      have HB := Lib.hid (below_own hb ho hg')
      have hk4 : k < 400 := by omega
      go_upto_region 5 with (fail)
      refine wp_region_lit ?_
      refine wpList_run (by kernel_rfl) (v) (wr) (exec_move rfl (by kernel_rfl)) ?_
      refine wpList_run (by kernel_rfl) (.pointer (some ⟨D, 0, none⟩)) (wr) (exec_move rfl (by kernel_rfl)) ?_
      refine wpList_run (by kernel_rfl) (.pointer (some ⟨D, 0, none⟩)) (wr) (exec_nil rfl (by kernel_rfl)) ?_
      refine wpList_run (by kernel_rfl) (.pointer (some ⟨D, 0, none⟩)) (wr) (exec_field (vx := .pointer (some ⟨D, 0, none⟩)) rfl (by kernel_rfl) (field_D0 D wr)) ?_
      simp only [put_list, List.set_cons_zero, List.set_cons_succ]
      refine wpList_run (by kernel_rfl) (.slice (some ⟨R, 0, none⟩) ss.length ss.length) (wr) (exec_load (vx := .pointer (some ⟨D, 0, none⟩)) rfl (by kernel_rfl) (load_slice D 0 wr 70 agg_secs _ hd.hdr)) ?_
      refine wpList_run (by kernel_rfl) (.int .i64 (k : Int)) (wr) (exec_move rfl (by kernel_rfl)) ?_
      refine wpList_run (by kernel_rfl) (.pointer (some ⟨R, k * 129, none⟩)) (wr) (exec_index (vx := .slice (some ⟨R, 0, none⟩) ss.length ss.length) (vy := .int .i64 (k : Int)) rfl (by kernel_rfl) (idx_S R ss.length ss.length k hlt wr)) ?_
      refine wpList_run (by kernel_rfl) (.pointer (some ⟨R, k * 129, none⟩)) (wr) (exec_field (vx := .pointer (some ⟨R, k * 129, none⟩)) rfl (by kernel_rfl) (field_S0 R (k * 129) wr)) ?_
      refine wpList_run (by kernel_rfl) (.slice (some ⟨R, k * 129, none⟩) 128 128) (wr) (exec_slice (vx := .pointer (some ⟨R, k * 129, none⟩)) (l := none) (h := none) (m := none) rfl (by kernel_rfl) (slice_C R (k * 129) wr)) ?_
      simp only [put_list, List.set_cons_zero, List.set_cons_succ]
      refine wpList_run (by kernel_rfl) (v') (w') (exec_append rfl rfl (vs := v) (vx := .slice (some ⟨R, k * 129, none⟩) 128 128) (by kernel_rfl) (hap)) ?_
      refine wpList_run (by kernel_rfl) (v') (w') (exec_assign rfl (by kernel_rfl)) ?_
      refine wpList_nil ?_
      simp only [put_list, List.set_cons_zero, List.set_cons_succ]
      clear hap hd ho' hg' ho hb hs
      go_wp2_with fail
      go_roundw
      case rel => exact ⟨k + 1, _, rfl, by go_num, by omega, HO.out, HB.out⟩
      case measure => simp [intOf]; omega
    · have hk' : k = ss.length := by omega
      subst hk'
      rw [List.take_length] at ho
      have HO := Lib.hid ho
      have HB := Lib.hid hb
      clear ho hb
      go_wp2_with fail
      go_ret
      exact ⟨_, rfl, HO.out, HB.out⟩
end
end Go.Proofs.YtbeeehfaeknhmaaDoor
