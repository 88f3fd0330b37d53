import Derived.Test.YtegijahkiopncaaDoorPad
import Derived.Deep.MidRow
namespace Go.Proofs.YtegijahkiopncaaDoor
open Go.RowKit

/-- a digest's words as bytes -/
def outB (s : Nat → BitVec 32) (i : Nat) : BitVec 8 := (s (i / 4) >>> (24 - 8 * (i % 4))).setWidth 8
/-- what Sum answers -/
def digOf (h : HSt) (L : BitVec 64) : Nat → BitVec 8 := outB (feeds h (padL h.u L)).s

theorem n32_byte (x : BitVec 32) (s : Nat) : n32 x / (2 ^ s : Nat) % (256 : Int) = n8 ((x >>> s).setWidth 8) := by
  unfold n8 n32
  simp only [BitVec.toNat_setWidth, BitVec.toNat_ushiftRight, Nat.shiftRight_eq_div_pow]
  have h1 : x.toNat / 2 ^ s % 2 ^ 8 % 2 ^ 32 = x.toNat / 2 ^ s % 256 := by omega
  rw [h1]
  simp

theorem rowIs_cells {w : World} {b : Nat} {t : TypeId} {n : Nat} {f : Nat → Value} (h : w.rowIs b t n f) : w.heap[b]? = some (.cells ((List.range n).map f).toArray t (0, 0)) := by
  obtain ⟨c, hb, hn, hc⟩ := h
  rw [hb]
  have : c = ((List.range n).map f).toArray := by
    apply Array.ext
    · simp [hn]
    · intro i h1 h2
      have e1 := hc i (by omega)
      rw [Array.getElem?_eq_getElem h1] at e1
      simpa using Option.some.inj e1
  rw [this]

def hrow (s : Nat → BitVec 32) (m : Nat → BitVec 8) (us tt : Int) : Array Value := ((List.range 74).map (hcell s m us tt)).toArray
@[simp] theorem hrow_size (s : Nat → BitVec 32) (m : Nat → BitVec 8) (us tt : Int) : (hrow s m us tt).size = 74 := by simp [hrow]
theorem hrow_get (s : Nat → BitVec 32) (m : Nat → BitVec 8) (us tt : Int) (i : Nat) (h : i < 74) : (hrow s m us tt)[i]? = some (hcell s m us tt i) := by simp [hrow, h]
theorem hrow_one (s : Nat → BitVec 32) (m : Nat → BitVec 8) (us tt : Int) : (hrow s m us tt).all (·.oneCell') = true := by
  rw [Array.all_eq_true_iff_forall_mem]
  intro v hv
  simp only [hrow, List.mem_toArray, List.mem_map] at hv
  obtain ⟨i, _, rfl⟩ := hv
  unfold hcell
  repeat' split
  all_goals rfl
theorem wpList_load_part {P : Program} {ops : Array Oper} {rest : List Oper} {op : Oper} {a : Act} {w : World} {Q : Exit → Act → World → Prop} (hgd : op.guard = none) (ty : TypeId) (x : Operand) (ho : op.op = .load ty x)
    (b o : Nat) (hx : a.eval x = .pointer (some ⟨b, o, none⟩)) (A : Array Value) (d : TypeDesc) (hc : w.rangeAt b o A.toList)
    (hu : P.underlying ty = some d) (hd : d.isRow = true) (hi : (P.info? ty).map (·.size) = some A.toList.length)
    (h : wpList P ops Q rest (a.put op.dst (.agg A)) w) : wpList P ops Q (op :: rest) a w :=
  wpList_load_mid hgd ty x ho b o hx A.toList d hc hu hd hi (by simpa using h)
def outTo (s : Nat → BitVec 32) (k : Nat) (i : Nat) : BitVec 8 := if i < 4 * k then outB s i else 0#8
def hzero : Array Value := Array.replicate 8 (.int .u32 0) ++ Array.replicate 64 (.int .u8 0) ++ #[.int .i64 0, .int .u64 0]
theorem hzero_size : hzero.size = 74 := by simp [hzero]

set_option maxRecDepth 100000 in
set_option maxHeartbeats 1600000 in
theorem hsum_any (hb : Nat) (h : HSt) (L : BitVec 64) (tt : Int) (w : World) (hh : HashR w hb h.s h.m h.u tt) (hu : h.u < 64) (htt : IntKind.u64.wrap (tt * 8) = (L.toNat : Int))
    (hk : KAt w) :
    Calls Tryd.prog 42 #[.pointer (some ⟨hb, 0, none⟩)] w fun e w' => e = .returned (.agg (arr8 32 (digOf h L))) ∧ Below w.heap.size w w' := by
  have hc := rowIs_cells hh
  go_enter Tryd.func42, Tryd.ntmps42
  have hc0 : ∀ o, (w.alloc o).heap[hb]? = some (.cells (hrow h.s h.m h.u tt) 83 (0, 0)) := fun o => by rw [heap_alloc_old _ _ hh.lt]; exact hc
  go_upto_region 2 with (first | (refine wpList_load_row rfl 83 _ rfl _ rfl _ _ _ _ (hc0 _) Tryd.underlying83 rfl (by kernel_rfl) ?_) | (refine wpList_alloc_z rfl 83 rfl hzero (fun _ => by kernel_rfl) ?_) | (refine wpList_store_row rfl 83 _ _ rfl _ _ rfl rfl _ _ (heap_alloc_new _ _) (by kernel_rfl) (by rw [hrow_size, hzero_size]) (hrow_one _ _ _ _) ?_; rw [alloc_setRow]))
  refine wp_world (fun W => Below w.heap.size w W ∧ W.heap.size = w.heap.size + 2 ∧ W.rowIs w.heap.size 26 32 (fun _ => .int .u8 0) ∧ HashR W (w.heap.size + 1) h.s h.m h.u tt) ?_ ?_
  · refine ⟨by go_grown, by simp, ?_, ?_⟩
    · exact (rowIs_new w (Array.replicate 32 (.int .u8 0)) 26 w.heap.size 32 (fun _ => .int .u8 0) rfl (by simp) (fun i hi => by simp [hi])).alloc _
    · exact rowIs_new _ _ _ _ _ _ (by simp) (by simp) (fun i hi => hrow_get _ _ _ _ i hi)
  rintro W ⟨hbl, hsz, hr0, hW⟩
  clear hc0 hc
  have hkW : KAt W := hk.of_block (hbl.block 7 hk.lt)
  have h0B := hk.lt
  clear hh hk
  go_wp2_with fail
  generalize hB : w.heap.size = B at *
  have HB := Lib.hid hB; clear hB
  refine (pad_any (B + 1) h L tt W hW hu htt hkW (by omega)).mono ?_
  rintro e W1 ⟨rfl, ⟨T, hW1⟩, hon⟩
  have hbl1 := hbl.trans (hon.below (B := B) (by omega) (by omega))
  have hr1 := hon.row hr0 (by omega)
  have hDs : B + 1 < W1.heap.size := hW1.lt
  clear hbl hr0 hW hon hkW hsz
  have hdg : digOf h L = outB (feeds h (padL h.u L)).s := rfl
  have HDG := Lib.hid hdg; clear hdg
  generalize feeds h (padL h.u L) = H at *
  have hrg : ∀ o, World.rangeAt (W1.alloc o) (B + 1) 0 (arr32 8 H.s).toList := by
    intro o j v hv
    have hj : j < 8 := by
      have := (List.getElem?_eq_some_iff.1 hv).1
      simpa using this
    have e := arr32_get 8 H.s j hj
    rw [Array.getElem?_toList, e] at hv
    rw [Nat.zero_add, World.cell?_alloc_lt _ _ _ hDs, hW1.s_ j hj]
    exact hv
  go_upto_region 5 with (first | (refine wpList_load_part rfl 75 _ rfl (B + 1) 0 rfl (arr32 8 H.s) _ (hrg _) Tryd.underlying75 rfl (by kernel_rfl) ?_))
  generalize hD : W1.heap.size = D at *
  have hBD : B + 1 < D := hDs
  refine wp_world (fun W => Below B w W ∧ W.rowIs B 26 32 (fun _ => .int .u8 0) ∧ W.rowIs D 26 32 (fun i => v8 (outTo H.s 0 i))) ?_ ?_
  · refine ⟨hbl1.alloc (by omega) _, hr1.alloc _, ?_⟩
    exact rowIs_new W1 (Array.replicate 32 (.int .u8 0)) 26 D 32 _ hD.symm (by simp) (fun i hi => by simp [hi, outTo, n32])
  clear hbl1 hr1 hDs hW1 hrg hD
  rintro W ⟨hbl, hr0, hr⟩
  have hbx : ∀ x : BitVec 32, n32 x / (16777216 : Int) % (256 : Int) = n8 ((x >>> 24).setWidth 8) := fun x => n32_byte x 24
  have hby : ∀ x : BitVec 32, n32 x / (65536 : Int) % (256 : Int) = n8 ((x >>> 16).setWidth 8) := fun x => n32_byte x 16
  have hbz : ∀ x : BitVec 32, n32 x / (256 : Int) % (256 : Int) = n8 ((x >>> 8).setWidth 8) := fun x => n32_byte x 8
  have hbu : ∀ x : BitVec 32, n32 x % (256 : Int) = n8 ((x >>> 0).setWidth 8) := fun x => by
    have := n32_byte x 0
    simpa using this
  have HX := Lib.hid hbx; have HY := Lib.hid hby; have HZ := Lib.hid hbz; have HU := Lib.hid hbu
  clear hbx hby hbz hbu
  generalize hS : H.s = S at *
  have hR := fun k (h : k < 8) => arr32_get 8 S k h
  go_loopw [13] (fun i wr => ∃ k : Nat, k ≤ 8 ∧ i = .int .i64 k ∧ Below B w wr ∧ wr.rowIs B 26 32 (fun _ => .int .u8 0) ∧ wr.rowIs D 26 32 (fun i => v8 (outTo S k i))) (fun i _ => 8 - (intOf i).toNat)
  case atStart => exact ⟨0, by omega, rfl, hbl, hr0, hr⟩
  clear hbl hr0 hr
  case round =>
    obtain ⟨k, hk1, rfl, hbl, hr0, hr⟩ := hrel
    by_cases hlt : k < 8
    · have hix : ∀ w : World, (Instr.index 75 (.agg (arr32 8 S)) (.int .i64 k)).run Tryd.prog w = .ok (v32 (S k)) w :=
        fun w => index_arr Tryd.underlying75 Tryd.underlying74 (by kernel_rfl) (arr32 8 S) k hlt _ (hR k hlt) w
      have hx := HX.out (S k)
      have hy := HY.out (S k)
      have hz := HZ.out (S k)
      have hv := HU.out (S k)
      have hk8 : (k : Int) < 8 := by omega
      have c0 := hr.cell (i := 4 * k) (by omega)
      have c1 := hr.cell (i := 4 * k + 1) (by omega)
      have c2 := hr.cell (i := 4 * k + 2) (by omega)
      have c3 := hr.cell (i := 4 * k + 3) (by omega)
      have f0 := hr.frozen (4 * k)
      have f1 := hr.frozen (4 * k + 1)
      have f2 := hr.frozen (4 * k + 2)
      have f3 := hr.frozen (4 * k + 3)
      go_wp2_with fail
      go_roundw
      case rel =>
        refine ⟨k + 1, by omega, by go_num, (((hbl.setCell (by simp only; omega) _).setCell (by simp only; omega) _).setCell (by simp only; omega) _).setCell (by simp only; omega) _, (((hr0.setOther (by simp only; omega) _).setOther (by simp only; omega) _).setOther (by simp only; omega) _).setOther (by simp only; omega) _, ?_⟩
        refine ((((hr.set (4 * k) _).set (4 * k + 1) _).set (4 * k + 2) _).set (4 * k + 3) _).congr fun j hj => ?_
        have hg : ∀ i, i < 4 → outTo S (k + 1) (4 * k + i) = (S k >>> (24 - 8 * i)).setWidth 8 := by
          intro i hi
          unfold outTo outB
          rw [if_pos (by omega), show (4 * k + i) / 4 = k by omega, show (4 * k + i) % 4 = i by omega]
        by_cases e3 : j = 4 * k + 3
        · rw [if_pos e3, e3, hg 3 (by omega), show 24 - 8 * 3 = 0 from rfl, BitVec.ushiftRight_zero]
        · rw [if_neg e3]
          by_cases e2 : j = 4 * k + 2
          · rw [if_pos e2, e2, hg 2 (by omega)]
          · rw [if_neg e2]
            by_cases e1 : j = 4 * k + 1
            · rw [if_pos e1, e1, hg 1 (by omega)]
            · rw [if_neg e1]
              by_cases e0 : j = 4 * k
              · rw [if_pos e0, e0, show 4 * k = 4 * k + 0 from rfl, hg 0 (by omega)]
              · rw [if_neg e0]
                unfold outTo
                by_cases e : j < 4 * k
                · rw [if_pos e, if_pos (by omega)]
                · rw [if_neg e, if_neg (by omega)]
      case measure => simp [intOf]; omega
    · have hk8 : k = 8 := by omega
      subst hk8
      have hdk : decide (((8 : Nat) : Int) < 8) = false := by decide
      have hrd := hr.congr (g := fun i => v8 (outB S i)) fun i hi => by unfold outTo; rw [if_pos (by omega)]
      have hhD := rowIs_heap8 hrd
      obtain ⟨old, hro1, hro2, _⟩ := hr0
      have hbb := below_setRow (g := B) hbl (by omega) (arr8 32 (outB S))
      have hres : (wr.setRow B (arr8 32 (outB S))).heap[B]? = some (.cells (arr8 32 (outB S)) 26 (0, 0)) := setRow_heap _ _ _ _ _ _ hro1
      go_wp2_with (first | (refine wpList_load_row rfl 26 _ rfl _ rfl _ _ _ _ hhD Tryd.underlying26 rfl (by kernel_rfl) ?_) | (refine wpList_store_row rfl 26 _ _ rfl _ _ rfl rfl _ _ hro1 (by kernel_rfl) (by simpa using hro2) (arr8_one _ _) ?_))
      refine bodyPost_ret (results_cell_row rfl _ _ _ _ _ _ _ rfl hres Tryd.underlying26 rfl (by kernel_rfl)) rfl ?_
      rw [HDG.out, HB.out]
      exact ⟨rfl, hbb⟩
end Go.Proofs.YtegijahkiopncaaDoor
