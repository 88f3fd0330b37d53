import Derived.Test.YtocjmlncpjfnfaaDoorNew
namespace Go.Proofs.YtocjmlncpjfnfaaDoor
open Go.RowKit

/-- a slice of bytes: its address, its bytes, its room -/
abbrev BSl := Option Addr × List (BitVec 8) × Nat
abbrev slv (a : BSl) : Value := .slice a.1 a.2.1.length a.2.2
structure SlOk (w : World) (a : BSl) : Prop where
  r : SlRead w a.1 (ints .u8 (bys a.2.1))
  c : a.2.1.length ≤ a.2.2
  l : a.2.1.length ≤ 4611686018427387904
theorem SlOk.below {w w' : World} {a : BSl} (h : SlOk w a) (hb : Below w.heap.size w w') : SlOk w' a := ⟨h.r.below hb, h.c, h.l⟩
theorem SlRead.offB {w : World} {A : Option Addr} {xs : List Value} (h : SlRead w A xs) (hx : 0 < xs.length) {C : Nat} (hC : w.heap.size ≤ C) : OffB A C := by
  obtain ⟨b, o, rfl, hlt, _⟩ := h hx
  intro b' o' e
  simp at e
  omega
def flat (sl : List BSl) : List (BitVec 8) := sl.flatMap (·.2.1)
theorem flat_snoc (sl : List BSl) (k : Nat) (a : BSl) (h : sl[k]? = some a) : flat (sl.take (k + 1)) = flat (sl.take k) ++ a.2.1 := by
  unfold flat
  rw [List.take_add_one, h]
  simp

set_option maxRecDepth 100000 in
set_option maxHeartbeats 800000 in
theorem suml_any (A : Option Addr) (sl : List BSl) (cap : Nat) (w : World) (hA : SlRead w A (sl.map slv)) (hs : ∀ a ∈ sl, SlOk w a) (hl : sl.length ≤ 4611686018427387904) (hk : KAt w) :
    Calls Tryd.prog 88 #[.slice A sl.length cap] w fun e w' => e = .returned (.agg (arr8 32 (shaOf (flat sl)))) ∧ Below w.heap.size w w' := by
  go_enter Tryd.func88, Tryd.ntmps88
  go_wp2_with fail
  refine (start_any _).mono ?_
  rintro e W ⟨rfl, hb⟩
  have hb1 : Below w.heap.size w W := ((Below.refl _ _).alloc (Nat.le_refl _) _).trans (hb.mono (by simp))
  have hsz : w.heap.size < W.heap.size := by have := hb.size; simp at this; omega
  have hr0 : W.rowIs w.heap.size 23 32 (fun _ => .int .u8 0) :=
    (rowIs_new w (Array.replicate 32 (.int .u8 0)) 23 w.heap.size 32 (fun _ => .int .u8 0) rfl (by simp) (fun i hi => by simp [hi])).of_block (hb.block _ (by simp))
  clear hb
  go_upto_region 2 with (first | (refine wpList_alloc_z rfl 139 rfl hzero (fun _ => by kernel_rfl) ?_) | (refine wpList_store_row rfl 139 _ _ rfl _ _ rfl rfl _ _ (heap_alloc_new _ _) (by kernel_rfl) (by rw [hrow_size, hzero_size]) (hrow_one _ _ _ _) ?_; rw [alloc_setRow]))
  generalize hC : W.heap.size = C at *
  refine wp_world (fun W => Below w.heap.size w W ∧ W.rowIs w.heap.size 23 32 (fun _ => .int .u8 0) ∧ HashX W C []) ?_ ?_
  · exact ⟨hb1.alloc (by omega) _, hr0.alloc _, rowIs_new _ _ _ _ _ _ hC.symm (by simp) (fun i hi => hrow_get _ _ _ _ i hi)⟩
  clear hb1 hr0 hC
  rintro W1 ⟨hb, hr0, hx⟩
  generalize hB : w.heap.size = B at *
  have HB := Lib.hid hB; clear hB
  have h0B : 19 < B := by have := hk.lt; have := HB.out; omega
  go_wp2_with fail
  go_loopw [9] (fun i wr => ∃ k : Nat, k ≤ sl.length ∧ i = .int .i64 k ∧ Below B w wr ∧ wr.rowIs B 23 32 (fun _ => .int .u8 0) ∧ HashX wr C (flat (sl.take k))) (fun i _ => sl.length - (intOf i).toNat)
  case atStart => exact ⟨0, by omega, rfl, hb, hr0, hx⟩
  clear hb hr0 hx
  case round =>
    obtain ⟨k, hk1, rfl, hb, hr0, hx⟩ := hrel
    have hBw : B ≤ wr.heap.size := by rw [← HB.out]; exact hb.size
    have hkW : KAt wr := hk.of_block (hb.block 19 h0B)
    by_cases hlt : k < sl.length
    · obtain ⟨b, o, rfl, hblt, hcell⟩ := hA (by simp; omega)
      have hkk : sl[k]? = some sl[k] := by simp [hlt]
      have hok := hs sl[k] (List.getElem_mem hlt)
      have hc : wr.cell? ⟨b, o + k, none⟩ = some (slv sl[k]) := by
        rw [World.cell?_of_block (hb.block b (by rw [← HB.out]; exact hblt))]
        exact hcell k _ (by simp [hlt])
      have hfl := flat_snoc sl k _ hkk
      generalize sl[k] = a at *
      have hokW := hok.below (HB.out ▸ hb)
      go_wp2_with fail
      refine (write_x C _ a.2.1 a.1 a.2.2 wr hx hkW (by omega) hokW.r (fun hp => hok.r.offB (by simpa using hp) (by rw [HB.out]; omega)) hok.c hok.l).mono ?_
      rintro e W3 ⟨rfl, hx3, hon⟩
      have hb3 : Below B w W3 := hb.trans (hon.below (by omega) hBw)
      have hr3 := hon.row hr0 (by omega)
      rw [← hfl] at hx3
      clear hx hb hr0 hon
      go_wp2_with fail
      go_roundw
      case rel => exact ⟨k + 1, by omega, by go_num, hb3, hr3, hx3⟩
      case measure => simp [intOf]; omega
    · have hkl : k = sl.length := by omega
      have hdk : decide ((k : Int) < (sl.length : Int)) = false := by simp; omega
      rw [hkl, List.take_length] at hx
      have HK := Lib.hid hkl; clear hkl
      go_wp2_with fail
      refine (sum_x C _ wr hx hkW).mono ?_
      rintro e W3 ⟨rfl, hb3⟩
      obtain ⟨old, hro1, hro2, _⟩ := hr0.of_block (hb3.block _ hr0.lt)
      have hbb := below_setRow (g := B) (hb.trans (hb3.mono hBw)) (by omega) (arr8 32 (shaOf (flat sl)))
      have hres : (W3.setRow B (arr8 32 (shaOf (flat sl)))).heap[B]? = some (.cells (arr8 32 (shaOf (flat sl))) 23 (0, 0)) := setRow_heap _ _ _ _ _ _ hro1
      go_wp2_with (first | (refine wpList_store_row rfl 23 _ _ rfl _ _ rfl rfl _ _ hro1 (by kernel_rfl) (by simpa using hro2) (arr8_one _ _) ?_))
      refine bodyPost_ret (results_cell_row rfl _ _ _ _ _ _ _ rfl hres Tryd.underlying23 rfl (by kernel_rfl)) rfl ?_
      rw [HB.out]
      exact ⟨rfl, hbb⟩
end Go.Proofs.YtocjmlncpjfnfaaDoor
