import Derived.Test.YtionjhlllpipjaaDoorDvc
/-
  The document's disk: Image.
-/
namespace Go.Proofs.YtionjhlllpipjaaDoor
open Go.RowKit

/-- each sector's first version -/
def durV (vs : List (List (List UInt8))) : List UInt8 := vs.flatMap fun l => l.headD []
theorem durV_take (vs : List (List (List UInt8))) (k : Nat) (l : List (List UInt8)) (b : List UInt8) (hl : vs[k]? = some l) (hb : l[0]? = some b) : durV (vs.take (k + 1)) = durV (vs.take k) ++ b := by
  unfold durV
  rw [List.take_add_one, hl]
  rcases l with _ | ⟨c, r⟩
  · simp at hb
  · simp at hb
    subst hb
    simp
section
variable {w : World} {n X T cT : Nat} {P : Nat → Prop} {vs : List (List (List UInt8))} {left : Int} {gone : Bool}
set_option maxRecDepth 100000 in
set_option maxHeartbeats 1600000 in
theorem dimage_any (h : DdS w n X T cT P vs left gone) : Calls Tryd.prog 26 #[.pointer (some ⟨X, 0, none⟩)] w fun e w' => ∃ v, e = .returned v ∧ w'.ownsRow w.heap.size 5 1 v (vs.length * 128) (bcells (durV vs)) ∧ Below w.heap.size w w' := by
  have hc0 := h.c0
  have hlen := h.len
  have H := Lib.hid h
  clear h
  go_enter Tryd.func26, Tryd.ntmps26
  go_wp2_with fail
  go_loopw [3, 4] (fun x i wr => ∃ (k : Nat) (v : Value), v = x ∧ i = .int .i64 (k : Int) ∧ k ≤ vs.length ∧ wr.ownsRow w.heap.size 5 1 v (k * 128) (bcells (durV (vs.take k))) ∧ Below w.heap.size w wr) (fun _ i _ => vs.length - (intOf i).toNat)
  case atStart => exact ⟨0, _, rfl, rfl, by omega, by rw [Nat.zero_mul, List.take_zero]; exact World.ownsRow_nil _ _ _ _, Below.refl _ _⟩
  case round =>
    obtain ⟨k, v, rfl, rfl, hk, ho, hb⟩ := hrel
    have hd := H.out.below hb
    have hc0w := hd.c0
    by_cases hlt : k < vs.length
    · have hlt' : (k : Int) < (vs.length : Int) := by omega
      obtain ⟨l, hl⟩ : ∃ l, vs[k]? = some l := ⟨_, List.getElem?_eq_getElem hlt⟩
      obtain ⟨hp0, hp1, hp2⟩ := hd.pos l (List.mem_of_getElem? hl)
      obtain ⟨b, hb0⟩ : ∃ b, l[0]? = some b := ⟨_, List.getElem?_eq_getElem hp0⟩
      have hblen := hp2 b (List.mem_of_getElem? hb0)
      obtain ⟨A0, c, cT1, _, hver⟩ := hd.sec k l hl
      obtain ⟨g, og, Ab, cb, rfl, _, hgl, cg, _, hbr, _⟩ := hver 0 b hb0
      obtain ⟨gb, ob, rfl, _, hbc⟩ := hbr (by rw [bcells_len]; omega)
      obtain ⟨v', w', hap, ho', hg', _⟩ := run_app_U 32 wr w.heap.size v _ _ ho b ⟨gb, ob, none⟩ 128 cb hblen (fun j u hu => by rw [Addr.add_mid]; exact hbc j u hu) (by omega) hb.size
      rw [← durV_take vs k l b hl hb0, show k * 128 + 128 = (k + 1) * 128 by omega] at ho'
      have HO := Lib.hid ho'
      have HB := Lib.hid (below_own hb ho hg')
      clear hver hbr hbc hp2 hl hb0
      go_upto_region 5 with (fail)
      refine wp_region_lit ?_
      refine wpList_run (by kernel_rfl) (v) (wr) (exec_move rfl (by kernel_rfl)) ?_
      refine wpList_run (by kernel_rfl) (.pointer (some ⟨X, 0, none⟩)) (wr) (exec_move rfl (by kernel_rfl)) ?_
      refine wpList_run (by kernel_rfl) (.pointer (some ⟨X, 0, none⟩)) (wr) (exec_nil rfl (by kernel_rfl)) ?_
      refine wpList_run (by kernel_rfl) (.pointer (some ⟨X, 0, none⟩)) (wr) (exec_field (vx := .pointer (some ⟨X, 0, none⟩)) rfl (by kernel_rfl) (by kernel_rfl)) ?_
      simp only [put_list, List.set_cons_zero, List.set_cons_succ]
      refine wpList_run (by kernel_rfl) (.slice (some ⟨T, 0, none⟩) vs.length cT) (wr) (exec_load (vx := .pointer (some ⟨X, 0, none⟩)) rfl (by kernel_rfl) (load_slice X 0 wr 49 (fun w => by kernel_rfl) _ hd.c0)) ?_
      refine wpList_run (by kernel_rfl) (.int .i64 (k : Int)) (wr) (exec_move rfl (by kernel_rfl)) ?_
      refine wpList_run (by kernel_rfl) (.pointer (some ⟨T, k, none⟩)) (wr) (exec_index (vx := .slice (some ⟨T, 0, none⟩) vs.length cT) (vy := .int .i64 (k : Int)) rfl (by kernel_rfl) (idxT3 T vs.length cT k hlt wr)) ?_
      refine wpList_run (by kernel_rfl) (.slice (some ⟨g, og, none⟩) l.length c) (wr) (exec_load (vx := .pointer (some ⟨T, k, none⟩)) rfl (by kernel_rfl) (load_slice T k wr 62 (fun w => by kernel_rfl) _ cT1)) ?_
      refine wpList_run (by kernel_rfl) (.pointer (some ⟨g, og + 0, none⟩)) (wr) (exec_index (vx := .slice (some ⟨g, og, none⟩) l.length c) (vy := Go.Value.int Go.IntKind.i64 0) rfl (by kernel_rfl) (idxT2 g og l.length c 0 hp0 wr)) ?_
      simp only [put_list, List.set_cons_zero, List.set_cons_succ]
      refine wpList_run (by kernel_rfl) (.slice (some ⟨gb, ob, none⟩) 128 cb) (wr) (exec_load (vx := .pointer (some ⟨g, og + 0, none⟩)) rfl (by kernel_rfl) (load_slice g (og + 0) wr 32 (fun w => by kernel_rfl) _ cg)) ?_
      refine wpList_run (by kernel_rfl) (v') (w') (exec_append rfl rfl (vs := v) (vx := .slice (some ⟨gb, ob, none⟩) 128 cb) (by kernel_rfl) (hap)) ?_
      refine wpList_run (by kernel_rfl) (v') (w') (exec_assign rfl (by kernel_rfl)) ?_
      refine wpList_nil ?_
      simp only [put_list, List.set_cons_zero, List.set_cons_succ]
      clear hap hd ho' hg' ho hb
      go_wp2_with fail
      go_roundw
      case rel => exact ⟨k + 1, _, rfl, by go_num, by omega, HO.out, HB.out⟩
      case measure => simp [intOf] <;> omega
    · have hk' : k = vs.length := by omega
      subst hk'
      rw [List.take_length] at ho
      have HO := Lib.hid ho
      have HB := Lib.hid hb
      clear ho hb hd
      go_wp2_with fail
      go_ret
      exact ⟨_, rfl, HO.out, HB.out⟩
end
end Go.Proofs.YtionjhlllpipjaaDoor
