import Derived.Test.YtklooieghlnblaaSks
import Derived.Test.YtklooieghlnblaaHx
import Derived.IntWalk
/-
  skip: the document's Take, Find, Put.
-/
namespace Go.Proofs.Ytklooieghlnblaa
open Go.RowKit

set_option maxRecDepth 100000 in
set_option maxHeartbeats 1600000 in
theorem add_one (t : TypeId) (x y : Operand) (i : Nat) (h : (i : Int) + 1 ≤ 9223372036854775807) {w : World} : (do eqGuard .add t x y (.int .i64 (i : Int)) (.int .i64 1); binOp .add t (.int .i64 (i : Int)) (.int .i64 1) : Sem Value).run Try.prog w = .ok (.int .i64 ((i : Int) + 1)) w := by
  have e : IntKind.i64.wrap ((i : Int) + 1) = (i : Int) + 1 := IntWalk.i64_in _ (by omega)
  simp [eqGuard, binOp, Op.intArith, e]
theorem store_dsl (b : Nat) (v : Value) (w : World) {u : Value} (h : w.cell? ⟨b, 0, none⟩ = some u) (hf : w.frozen? ⟨b, 0, none⟩ = false) {A : Option Addr} {n c : Nat} (hv : v = .slice A n c := by rfl) : (Instr.storeAt 27 (.pointer (some ⟨b, 0, none⟩)) v).run Try.prog w = .ok () (w.setCell ⟨b, 0, none⟩ v) := by
  subst hv
  have h2 := Try.underlying27
  go_simp
set_option maxRecDepth 100000 in
set_option maxHeartbeats 1600000 in
theorem dtake_any (es : List Ent) (q : List UInt8) (m : Int) (hq : q.length = 32) (hn : es.length ≤ 1000) (B : Nat) (A : Option Addr) (c : Nat) (w : World) (h : DkAt w B A c es) :
    Calls Try.prog 10 #[.pointer (some ⟨B, 0, none⟩), .agg (q.map cellB).toArray, .int .u32 m] w (DPost w B A es (es.eraseP (Ent.is q m)) (.bool (es.any (Ent.is q m)))) := by
  have hb1 : Below w.heap.size w (w.alloc (Obj.cells (q.map cellB).toArray 31)) := below_alc _ _
  have h1 := h.below hb1
  have hpl := dplace_any es q m hq hn B A c _ h1
  have hsz := key_size q hq
  have H := Lib.hid h
  clear h1 h
  cases hp : es.findIdx? (Ent.is q m) with
  | none =>
    obtain ⟨ha, he⟩ := none_any hp
    have HA := Lib.hid ha
    have HE := Lib.hid he
    rw [show plc es q m = -1 by unfold plc; rw [hp]] at hpl
    clear ha he hp
    go_enter Try.func10, Try.ntmps10
    go_wp2_with (first | (refine wpList_load_row rfl 31 _ rfl w.heap.size rfl _ _ _ _ (heap_alloc_new _ _) Try.underlying31 rfl (by rw [hsz]; exact info_key) ?_) | (go_at_call 20; refine hpl.mono ?_; rintro e w' ⟨rfl, hb'⟩))
    go_ret
    have hb := hb1.trans (hb'.mono (by simp))
    exact ⟨by rw [HA.out]; rfl, A, c, by rw [HE.out]; exact H.out.below hb, Mod.of_below _ H.out.lt hb, fun a ha he => .inr ⟨ha, by rw [HE.out] at he; exact he⟩⟩
  | some i =>
    have hi := find_lt hp
    have HA := Lib.hid (any_find hp)
    have HE := Lib.hid (eraseP_of es _ i hp)
    rw [show plc es q m = (i : Int) by unfold plc; rw [hp]] at hpl
    clear hp
    obtain ⟨g, p, rfl⟩ : ∃ g p, A = some ⟨g, p, none⟩ := by
      obtain ⟨g, p, e, _⟩ := H.out.row (by rw [cells_len]; omega)
      exact ⟨g, p, e⟩
    have hc1 := H.out.cap.1
    have s1 := slD_to g p es.length c i (by omega)
    have s2 := slD_from g p es.length c (i + 1) (by omega)
    rw [show (((i + 1 : Nat)) : Int) = (i : Int) + 1 by omega] at s2
    have i0 : (0 : Int) ≤ (i : Int) + 1 := by omega
    have i1 : (i : Int) + 1 ≤ 9223372036854775807 := by omega
    have HC1 := Lib.hid hc1
    have HI0 := Lib.hid i0
    have HI1 := Lib.hid i1
    have hneg : decide ((i : Int) < 0) = false := by simp
    clear hc1 i0 i1
    have HI := Lib.hid hi
    have S1 := Lib.hid s1
    have S2 := Lib.hid s2
    clear hi s1 s2
    go_enter Try.func10, Try.ntmps10
    go_upto_region 4 with (first | (refine wpList_load_row rfl 31 _ rfl w.heap.size rfl _ _ _ _ (heap_alloc_new _ _) Try.underlying31 rfl (by rw [hsz]; exact info_key) ?_) | (go_at_call 20; refine hpl.mono ?_; rintro e W ⟨rfl, hb'⟩))
    have hb := hb1.trans (hb'.mono (by simp))
    have hW := H.out.below hb
    have hc1 := HC1.out
    have i0 := HI0.out
    have i1 := HI1.out
    obtain ⟨W1, hW1⟩ : ∃ W1, W1 = W.alloc (.cells #[] 56) := ⟨_, rfl⟩
    have hbW1 : Below w.heap.size w W1 := by rw [hW1]; exact hb.alloc hb.size _
    have hD1 := H.out.below hbW1
    obtain ⟨v2, W2, hr2, ho2, hg2⟩ := run_app_D 27 W1 w.heap.size (.slice (some ⟨W.heap.size, 0, none⟩) 0 0) [] (es.take i) (by rw [hW1]; exact World.ownsRow_made W #[] 0 hb.size (by unfold maxLen; omega) (by simp)) (some ⟨g, p, none⟩) c (read_to i hD1.row) (by simp; omega) hbW1.size (fun e => by cases e)
    simp only [List.nil_append] at ho2
    rw [List.length_take, Nat.min_eq_left (Nat.le_of_lt HI.out)] at hr2
    have hbW2 : Below w.heap.size w W2 := hbW1.grown hg2 hbW1.size (by intro k hk; simp [Value.ownBlock] at hk; have := hb.size; omega)
    have hD2 := H.out.below hbW2
    obtain ⟨v3, W3, hr3, ho3, hg3⟩ := run_app_D 27 W2 w.heap.size v2 (es.take i) (es.drop (i + 1)) ho2 (some (frA g p c (i + 1))) (c - (i + 1)) (read_from hD2.row HI.out hc1) (by simp; omega) hbW2.size (fun e => by cases e)
    rw [List.length_drop] at hr3
    have hbW3 : Below w.heap.size w W3 := hbW2.grown hg3 hbW2.size (fun k hk => (ho2.lt k hk).1)
    rw [← List.eraseIdx_eq_take_drop_succ, ← HE.out] at ho3
    have c1 := load_dsl B _ W1 hD1.cell
    have c2 := load_dsl B _ W2 hD2.cell
    have hf3 := (hbW3.frozen (p := ⟨B, 0, none⟩) H.out.lt).trans H.out.frz
    have hc3 := (hbW3.cell (p := ⟨B, 0, none⟩) H.out.lt).trans H.out.cell
    obtain ⟨A3, n3, c3, rfl, hn3⟩ : ∃ A n c, v3 = .slice A n c ∧ n = (es.eraseP (Ent.is q m)).length := by
      obtain ⟨A, c, e, _⟩ := own_slice ho3
      exact ⟨A, _, c, e, rfl⟩
    have N3 := Lib.hid hn3
    clear hn3
    have BW := Lib.hid hbW3
    have OW := Lib.hid ho3
    have hw1 := bsl_zero W
    rw [← hW1] at hw1
    clear hW1 hbW1 hD1 ho2 hg2 hbW2 hD2 ho3 hg3 hbW3 hb hb' hb1 hW hpl
    refine wp_region_lit ?_
    refine wpList_run (by kernel_rfl) (.slice (some ⟨W.heap.size, 0, none⟩) 0 0) (W1) (exec_bsl (vs := #[]) rfl (by kernel_rfl) (hw1)) ?_
    refine wpList_run (by kernel_rfl) (.pointer (some ⟨B, 0, none⟩)) (W1) (exec_move rfl (by kernel_rfl)) ?_
    refine wpList_run (by kernel_rfl) (.pointer (some ⟨B, 0, none⟩)) (W1) (exec_nil rfl (by kernel_rfl)) ?_
    refine wpList_run (by kernel_rfl) (.pointer (some ⟨B, 0, none⟩)) (W1) (exec_field (vx := .pointer (some ⟨B, 0, none⟩)) rfl (by kernel_rfl) (by kernel_rfl)) ?_
    refine wpList_run (by kernel_rfl) (.slice (some ⟨g, p, none⟩) es.length c) (W1) (exec_load (vx := .pointer (some ⟨B, 0, none⟩)) rfl (by kernel_rfl) (c1)) ?_
    refine wpList_run (by kernel_rfl) (.int .i64 (i : Int)) (W1) (exec_move rfl (by kernel_rfl)) ?_
    refine wpList_run (by kernel_rfl) (.slice (some ⟨g, p, none⟩) i c) (W1) (exec_slice (vx := .slice (some ⟨g, p, none⟩) es.length c) (l := none) (h := some (.int .i64 (i : Int))) (m := none) rfl (by kernel_rfl) (S1.out _)) ?_
    refine wpList_run (by kernel_rfl) (v2) (W2) (exec_append rfl rfl (vs := .slice (some ⟨W.heap.size, 0, none⟩) 0 0) (vx := .slice (some ⟨g, p, none⟩) i c) (by kernel_rfl) (hr2)) ?_
    refine wpList_run (by kernel_rfl) (v2) (W2) (exec_assign rfl (by kernel_rfl)) ?_
    refine wpList_nil ?_
    simp only [put_list, List.set_cons_zero, List.set_cons_succ]
    go_upto_region 5 with (fail)
    refine wp_region_lit ?_
    refine wpList_run (by kernel_rfl) (.pointer (some ⟨B, 0, none⟩)) (W2) (exec_move rfl (by kernel_rfl)) ?_
    refine wpList_run (by kernel_rfl) (v2) (W2) (exec_move rfl (by kernel_rfl)) ?_
    refine wpList_run (by kernel_rfl) (.pointer (some ⟨B, 0, none⟩)) (W2) (exec_move rfl (by kernel_rfl)) ?_
    refine wpList_run (by kernel_rfl) (.pointer (some ⟨B, 0, none⟩)) (W2) (exec_nil rfl (by kernel_rfl)) ?_
    refine wpList_run (by kernel_rfl) (.pointer (some ⟨B, 0, none⟩)) (W2) (exec_field (vx := .pointer (some ⟨B, 0, none⟩)) rfl (by kernel_rfl) (by kernel_rfl)) ?_
    refine wpList_run (by kernel_rfl) (.slice (some ⟨g, p, none⟩) es.length c) (W2) (exec_load (vx := .pointer (some ⟨B, 0, none⟩)) rfl (by kernel_rfl) (c2)) ?_
    refine wpList_run (by kernel_rfl) (.int .i64 (i : Int)) (W2) (exec_move rfl (by kernel_rfl)) ?_
    refine wpList_run (by kernel_rfl) (.int .i64 ((i : Int) + 1)) (W2) (exec_bin (vx := .int .i64 (i : Int)) (vy := Go.Value.int Go.IntKind.i64 1) rfl (by kernel_rfl) (add_one _ _ _ i i1)) ?_
    refine wpList_run (by kernel_rfl) (.slice (some (frA g p c (i + 1))) (es.length - (i + 1)) (c - (i + 1))) (W2) (exec_slice (vx := .slice (some ⟨g, p, none⟩) es.length c) (l := some (.int .i64 ((i : Int) + 1))) (h := none) (m := none) rfl (by kernel_rfl) (S2.out _)) ?_
    refine wpList_run (by kernel_rfl) (.slice A3 n3 c3) (W3) (exec_append rfl rfl (vs := v2) (vx := .slice (some (frA g p c (i + 1))) (es.length - (i + 1)) (c - (i + 1))) (by kernel_rfl) (hr3)) ?_
    refine wpList_run (by kernel_rfl) (.pointer (some ⟨B, 0, none⟩)) (W3) (exec_nil rfl (by kernel_rfl)) ?_
    refine wpList_run (by kernel_rfl) (.pointer (some ⟨B, 0, none⟩)) (W3) (exec_field (vx := .pointer (some ⟨B, 0, none⟩)) rfl (by kernel_rfl) (by kernel_rfl)) ?_
    refine wpList_skip rfl ((W3.setCell ⟨B, 0, none⟩ (.slice A3 n3 c3))) (exec_store (vx := .pointer (some ⟨B, 0, none⟩)) (vy := .slice A3 n3 c3) rfl (by kernel_rfl) (store_dsl B _ _ hc3 hf3)) ?_
    refine wpList_nil ?_
    simp only [put_list, put_none, List.set_cons_zero, List.set_cons_succ]
    go_wp2_with fail
    go_ret
    have ow := OW.out
    rw [← N3.out] at ow
    obtain ⟨d1, d2, d3⟩ := dk_of H.out BW.out N3.out ow
    exact ⟨by rw [HA.out]; rfl, A3, c3, d1, d2, fun a ha _ => .inl (d3 a ha)⟩
end Go.Proofs.Ytklooieghlnblaa
