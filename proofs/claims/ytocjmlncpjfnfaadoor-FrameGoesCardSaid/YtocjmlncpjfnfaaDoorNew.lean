import Derived.Test.YtocjmlncpjfnfaaDoorWri
import Derived.Deep.MidRow
/-
  
  
  
-/
namespace Go.Proofs.YtocjmlncpjfnfaaDoor
open Go.RowKit

theorem wpList_alloc_z {P : Program} {w : World} {ops : Array Oper} {rest : List Oper} {o : Oper} {a : Act} {Q : Exit → Act → World → Prop} (hgd : o.guard = none) (t : TypeId) (ho : o.op = .alloc t) (z : Array Value)
    (hz : ∀ w, (zeroValue t).run P w = .ok (.agg z) w) (h : wpList P ops Q rest (a.put o.dst (.pointer (some ⟨w.heap.size, 0, none⟩))) (w.alloc (.cells z t))) : wpList P ops Q (o :: rest) a w := by
  refine wpList_plain hgd fun K hK => ?_
  unfold Oper.wp execOp
  simp [ho, Instr.alloc, hz, newVar, newRow, Value.cells, Result.andThen]
  exact hK _ _ h

theorem n8_byte (L : BitVec 64) (s : Nat) : (L.toNat : Int) / 2 ^ s % 256 = n8 ((L >>> s).setWidth 8) := by
  unfold n8 n32
  simp only [BitVec.toNat_setWidth, BitVec.toNat_ushiftRight, Nat.shiftRight_eq_div_pow]
  have : (2 ^ s : Int) = ((2 ^ s : Nat) : Int) := by simp
  rw [this]
  have h1 : L.toNat / 2 ^ s % 2 ^ 8 % 2 ^ 32 = L.toNat / 2 ^ s % 256 := by omega
  rw [h1]
  simp

section
variable {P : Program} {t e : TypeId} {n : Nat}
theorem slice_arr_hi (hu : P.underlying t = some (.array n e)) (hs : (P.info? e).map (·.size) = some 1) (b : Nat) (kh : IntKind) (h : Int) (h0 : 0 ≤ h) (h2 : h ≤ n) (w : World) :
    (Instr.sliceAt t (.pointer (some ⟨b, 0, none⟩)) none (some (.int kh h)) none).run P w = .ok (.slice (some ⟨b, 0, none⟩) h.toNat n) w := by
  have e1 : P.arrayLen t = n := by simp [Program.arrayLen, hu]
  have e2 : P.elem t = e := by simp [Program.elem, hu]
  have := run_sliceAt_array_h (P := P) w t ⟨b, 0, none⟩ (by rw [e1, e2]; exact hu) kh h h0 (by rw [e1]; exact h2)
  rw [this, e1, e2]
  obtain ⟨i, hi, hz⟩ := Option.map_eq_some_iff.1 hs
  simp [sizeOf, typeInfo, hi, hz, Result.andThen, slicedAt, Addr.add]
end

/-- how many bytes of the padding stand ahead of the length -/
def padN (u : Nat) : Nat := 1 + (119 - u) % 64
/-- the padding's byte i: L is the length in bits -/
def padF (n : Nat) (L : BitVec 64) (k : Nat) (i : Nat) : BitVec 8 := if n ≤ i ∧ i < n + k then (L >>> (56 - 8 * (i - n))).setWidth 8 else if i = 0 then 128#8 else 0#8
def padL (u : Nat) (L : BitVec 64) : List (BitVec 8) := (List.range (padN u + 8)).map (padF (padN u) L 8)

set_option maxRecDepth 100000 in
set_option maxHeartbeats 1600000 in
theorem pad_any (hb : Nat) (h : HSt) (L : BitVec 64) (tt : Int) (w : World) (hh : HashR w hb h.s h.m h.u tt) (hu : h.u < 64) (htt : IntKind.u64.wrap (tt * 8) = (L.toNat : Int))
    (hk : KAt w) (hne : hb ≠ 19) :
    Calls Tryd.prog 98 #[.pointer (some ⟨hb, 0, none⟩)] w fun e w' => e = .returned (.tuple #[]) ∧ (∃ T, HashR w' hb (feeds h (padL h.u L)).s (feeds h (padL h.u L)).m (feeds h (padL h.u L)).u T) ∧ Only hb w w' := by
  have c3 := hh.t_
  have c2 := hh.u_
  have hn : (Int.tmod (119 - (h.u : Int)) 64) = ((padN h.u - 1 : Nat) : Int) := by
    unfold padN
    rw [Int.tmod_eq_emod_of_nonneg (by omega)]
    omega
  have hn2 : 1 ≤ padN h.u ∧ padN h.u ≤ 64 := by unfold padN; omega
  have hwr : 1 + ((padN h.u - 1 : Nat) : Int) = (padN h.u : Int) := by omega
  go_enter Tryd.func98, Tryd.ntmps98
  go_wp2_with (refine wpList_alloc_z rfl 147 rfl (Array.replicate 72 (.int .u8 0)) (fun _ => by kernel_rfl) ?_)
  refine wp_world (fun W => Below w.heap.size w W ∧ W.rowIs w.heap.size 147 72 (fun i => v8 (padF (padN h.u) L 0 i))) ?_ ?_
  · refine ⟨(Below.refl _ _).alloc (Nat.le_refl _) _, rowIs_new _ _ _ _ _ _ rfl (by simp) (fun i hi => ?_)⟩
    rw [Array.getElem?_setIfInBounds]
    by_cases e : i = 0
    · subst e
      rw [if_pos rfl, if_pos (by simp)]
      simp only [padF]
      rw [if_neg (by omega)]
      rfl
    · rw [if_neg (fun h => e h.symm)]
      simp only [padF, e, if_false]
      rw [if_neg (by omega)]
      simp [hi, n32]
  rintro W ⟨hbl, hr⟩
  clear c2 c3 hn hwr
  generalize hNN : padN h.u = n at *
  have HNN := Lib.hid hNN; clear hNN
  generalize hB : w.heap.size = B at *
  have HB := Lib.hid hB; clear hB
  have hL1 := L.isLt
  go_loopw [19] (fun i wr => ∃ k : Nat, k ≤ 8 ∧ i = .int .i64 k ∧ Below B w wr ∧ wr.rowIs B 147 72 (fun i => v8 (padF n L k i))) (fun i _ => 8 - (intOf i).toNat)
  case atStart => exact ⟨0, by omega, rfl, hbl, hr⟩
  clear hbl hr
  case round =>
    obtain ⟨k, hk1, rfl, hbl, hr⟩ := hrel
    by_cases hlt : k < 8
    · have hi0 : (0 : Int) ≤ (n : Int) + (k : Int) := by omega
      have hi1 : (n : Int) + (k : Int) < 72 := by omega
      have fz := hr.frozen (n + k)
      have cz := hr.cell (i := n + k) (by omega)
      go_wp2_with fail
      go_roundw
      case rel =>
        refine ⟨k + 1, by omega, by go_num, hbl.setCell (by simp only; omega) _, ?_⟩
        refine (hr.set (n + k) _).congr fun j hj => ?_
        rw [n8_byte]
        by_cases e : j = n + k
        · subst e
          rw [if_pos rfl]
          simp only [padF]
          rw [if_pos (by omega), show 56 - 8 * (n + k - n) = 56 - 8 * k by omega]
        · rw [if_neg e]
          simp only [padF]
          by_cases e2 : n ≤ j ∧ j < n + k
          · rw [if_pos e2, if_pos (by omega)]
          · have e3 : ¬ (n ≤ j ∧ j < n + (k + 1)) := by omega
            rw [if_neg e2, if_neg e3]
      case measure => simp [intOf]; omega
    · have hk8 : k = 8 := by omega
      subst hk8
      have hdk : decide (((8 : Nat) : Int) < 8) = false := by decide
      have hsl := slice_arr_hi (P := Tryd.prog) Tryd.underlying147 (show (Tryd.prog.info? 5).map (·.size) = some 1 by kernel_rfl) B .i64 ((n : Int) + 8) (by omega) (by omega)
      rw [show ((n : Int) + 8).toNat = n + 8 by omega] at hsl
      have hnl : (padL h.u L).length = n + 8 := by rw [← HNN.out]; simp [padL]
      have hA : SlRead wr (some ⟨B, 0, none⟩) (ints .u8 (bys (padL h.u L))) := by
        intro _
        refine ⟨B, 0, rfl, hr.lt, fun j u hj => ?_⟩
        rw [bys_ints] at hj
        have hjl : j < n + 8 := by
          have := (List.getElem?_eq_some_iff.1 hj).1
          rw [List.length_map, hnl] at this
          exact this
        have hc := hr.cell (i := j) (by omega)
        rw [Nat.zero_add, hc, ← hj]
        unfold padL
        rw [HNN.out]
        simp [hjl]
      go_wp2_with fail
      have hbB : hb < B := by have := hh.lt; have := HB.out; omega
      have h0B : 19 < B := by have := hk.lt; have := HB.out; omega
      have hw := write_any hb h tt (some ⟨B, 0, none⟩) (padL h.u L) 72 wr (hh.of_block (hbl.block hb hbB)) hu (hk.of_block (hbl.block 19 h0B)) hne hA
        (fun _ b o e => by simp at e; omega) (by omega) (by omega)
      rw [hnl] at hw
      have hon := Only.of_below (g := hb) (HB.out ▸ hbl)
      go_wp2_with fail
      refine hw.mono ?_
      rintro e W3 ⟨rfl, hW3, hon3⟩
      go_wp2_with fail
      go_end0
      exact ⟨rfl, ⟨_, hW3⟩, hon.trans hon3⟩
/-- a digest's words as bytes -/
def outB (s : Nat → BitVec 32) (i : Nat) : BitVec 8 := (s (i / 4) >>> (24 - 8 * (i % 4))).setWidth 8
/-- what Sum answers -/
def digOf (h : HSt) (L : BitVec 64) : Nat → BitVec 8 := outB (feeds h (padL h.u L)).s

theorem n32_byte (x : BitVec 32) (s : Nat) : n32 x / (2 ^ s : Nat) % (256 : Int) = n8 ((x >>> s).setWidth 8) := by
  unfold n8 n32
  simp only [BitVec.toNat_setWidth, BitVec.toNat_ushiftRight, Nat.shiftRight_eq_div_pow]
  have h1 : x.toNat / 2 ^ s % 2 ^ 8 % 2 ^ 32 = x.toNat / 2 ^ s % 256 := by omega
  rw [h1]
  simp

theorem rowIs_cells {w : World} {b : Nat} {t : TypeId} {n : Nat} {f : Nat → Value} (h : w.rowIs b t n f) : w.heap[b]? = some (.cells ((List.range n).map f).toArray t (0, 0)) := by
  obtain ⟨c, hb, hn, hc⟩ := h
  rw [hb]
  have : c = ((List.range n).map f).toArray := by
    apply Array.ext
    · simp [hn]
    · intro i h1 h2
      have e1 := hc i (by omega)
      rw [Array.getElem?_eq_getElem h1] at e1
      simpa using Option.some.inj e1
  rw [this]

def hrow (s : Nat → BitVec 32) (m : Nat → BitVec 8) (us tt : Int) : Array Value := ((List.range 74).map (hcell s m us tt)).toArray
@[simp] theorem hrow_size (s : Nat → BitVec 32) (m : Nat → BitVec 8) (us tt : Int) : (hrow s m us tt).size = 74 := by simp [hrow]
theorem hrow_get (s : Nat → BitVec 32) (m : Nat → BitVec 8) (us tt : Int) (i : Nat) (h : i < 74) : (hrow s m us tt)[i]? = some (hcell s m us tt i) := by simp [hrow, h]
theorem hrow_one (s : Nat → BitVec 32) (m : Nat → BitVec 8) (us tt : Int) : (hrow s m us tt).all (·.oneCell') = true := by
  rw [Array.all_eq_true_iff_forall_mem]
  intro v hv
  simp only [hrow, List.mem_toArray, List.mem_map] at hv
  obtain ⟨i, _, rfl⟩ := hv
  unfold hcell
  repeat' split
  all_goals rfl
theorem wpList_load_part {P : Program} {ops : Array Oper} {rest : List Oper} {op : Oper} {a : Act} {w : World} {Q : Exit → Act → World → Prop} (hgd : op.guard = none) (ty : TypeId) (x : Operand) (ho : op.op = .load ty x)
    (b o : Nat) (hx : a.eval x = .pointer (some ⟨b, o, none⟩)) (A : Array Value) (d : TypeDesc) (hc : w.rangeAt b o A.toList)
    (hu : P.underlying ty = some d) (hd : d.isRow = true) (hi : (P.info? ty).map (·.size) = some A.toList.length)
    (h : wpList P ops Q rest (a.put op.dst (.agg A)) w) : wpList P ops Q (op :: rest) a w :=
  wpList_load_mid hgd ty x ho b o hx A.toList d hc hu hd hi (by simpa using h)
def outTo (s : Nat → BitVec 32) (k : Nat) (i : Nat) : BitVec 8 := if i < 4 * k then outB s i else 0#8
def hzero : Array Value := Array.replicate 8 (.int .u32 0) ++ Array.replicate 64 (.int .u8 0) ++ #[.int .i64 0, .int .u64 0]
theorem hzero_size : hzero.size = 74 := by simp [hzero]

set_option maxRecDepth 100000 in
set_option maxHeartbeats 1600000 in
theorem hsum_any (hb : Nat) (h : HSt) (L : BitVec 64) (tt : Int) (w : World) (hh : HashR w hb h.s h.m h.u tt) (hu : h.u < 64) (htt : IntKind.u64.wrap (tt * 8) = (L.toNat : Int))
    (hk : KAt w) :
    Calls Tryd.prog 94 #[.pointer (some ⟨hb, 0, none⟩)] w fun e w' => e = .returned (.agg (arr8 32 (digOf h L))) ∧ Below w.heap.size w w' := by
  have hc := rowIs_cells hh
  go_enter Tryd.func94, Tryd.ntmps94
  have hc0 : ∀ o, (w.alloc o).heap[hb]? = some (.cells (hrow h.s h.m h.u tt) 139 (0, 0)) := fun o => by rw [heap_alloc_old _ _ hh.lt]; exact hc
  go_upto_region 2 with (first | (refine wpList_load_row rfl 139 _ rfl _ rfl _ _ _ _ (hc0 _) Tryd.underlying139 rfl (by kernel_rfl) ?_) | (refine wpList_alloc_z rfl 139 rfl hzero (fun _ => by kernel_rfl) ?_) | (refine wpList_store_row rfl 139 _ _ rfl _ _ rfl rfl _ _ (heap_alloc_new _ _) (by kernel_rfl) (by rw [hrow_size, hzero_size]) (hrow_one _ _ _ _) ?_; rw [alloc_setRow]))
  refine wp_world (fun W => Below w.heap.size w W ∧ W.heap.size = w.heap.size + 2 ∧ W.rowIs w.heap.size 23 32 (fun _ => .int .u8 0) ∧ HashR W (w.heap.size + 1) h.s h.m h.u tt) ?_ ?_
  · refine ⟨by go_grown, by simp, ?_, ?_⟩
    · exact (rowIs_new w (Array.replicate 32 (.int .u8 0)) 23 w.heap.size 32 (fun _ => .int .u8 0) rfl (by simp) (fun i hi => by simp [hi])).alloc _
    · exact rowIs_new _ _ _ _ _ _ (by simp) (by simp) (fun i hi => hrow_get _ _ _ _ i hi)
  rintro W ⟨hbl, hsz, hr0, hW⟩
  clear hc0 hc
  have hkW : KAt W := hk.of_block (hbl.block 19 hk.lt)
  have h0B := hk.lt
  clear hh hk
  go_wp2_with fail
  generalize hB : w.heap.size = B at *
  have HB := Lib.hid hB; clear hB
  refine (pad_any (B + 1) h L tt W hW hu htt hkW (by omega)).mono ?_
  rintro e W1 ⟨rfl, ⟨T, hW1⟩, hon⟩
  have hbl1 := hbl.trans (hon.below (B := B) (by omega) (by omega))
  have hr1 := hon.row hr0 (by omega)
  have hDs : B + 1 < W1.heap.size := hW1.lt
  clear hbl hr0 hW hon hkW hsz
  have hdg : digOf h L = outB (feeds h (padL h.u L)).s := rfl
  have HDG := Lib.hid hdg; clear hdg
  generalize feeds h (padL h.u L) = H at *
  have hrg : ∀ o, World.rangeAt (W1.alloc o) (B + 1) 0 (arr32 8 H.s).toList := by
    intro o j v hv
    have hj : j < 8 := by
      have := (List.getElem?_eq_some_iff.1 hv).1
      simpa using this
    have e := arr32_get 8 H.s j hj
    rw [Array.getElem?_toList, e] at hv
    rw [Nat.zero_add, World.cell?_alloc_lt _ _ _ hDs, hW1.s_ j hj]
    exact hv
  go_upto_region 5 with (first | (refine wpList_load_part rfl 99 _ rfl (B + 1) 0 rfl (arr32 8 H.s) _ (hrg _) Tryd.underlying99 rfl (by kernel_rfl) ?_))
  generalize hD : W1.heap.size = D at *
  have hBD : B + 1 < D := hDs
  refine wp_world (fun W => Below B w W ∧ W.rowIs B 23 32 (fun _ => .int .u8 0) ∧ W.rowIs D 23 32 (fun i => v8 (outTo H.s 0 i))) ?_ ?_
  · refine ⟨hbl1.alloc (by omega) _, hr1.alloc _, ?_⟩
    exact rowIs_new W1 (Array.replicate 32 (.int .u8 0)) 23 D 32 _ hD.symm (by simp) (fun i hi => by simp [hi, outTo, n32])
  clear hbl1 hr1 hDs hW1 hrg hD
  rintro W ⟨hbl, hr0, hr⟩
  have hbx : ∀ x : BitVec 32, n32 x / (16777216 : Int) % (256 : Int) = n8 ((x >>> 24).setWidth 8) := fun x => n32_byte x 24
  have hby : ∀ x : BitVec 32, n32 x / (65536 : Int) % (256 : Int) = n8 ((x >>> 16).setWidth 8) := fun x => n32_byte x 16
  have hbz : ∀ x : BitVec 32, n32 x / (256 : Int) % (256 : Int) = n8 ((x >>> 8).setWidth 8) := fun x => n32_byte x 8
  have hbu : ∀ x : BitVec 32, n32 x % (256 : Int) = n8 ((x >>> 0).setWidth 8) := fun x => by
    have := n32_byte x 0
    simpa using this
  have HX := Lib.hid hbx; have HY := Lib.hid hby; have HZ := Lib.hid hbz; have HU := Lib.hid hbu
  clear hbx hby hbz hbu
  generalize hS : H.s = S at *
  have hR := fun k (h : k < 8) => arr32_get 8 S k h
  go_loopw [13] (fun i wr => ∃ k : Nat, k ≤ 8 ∧ i = .int .i64 k ∧ Below B w wr ∧ wr.rowIs B 23 32 (fun _ => .int .u8 0) ∧ wr.rowIs D 23 32 (fun i => v8 (outTo S k i))) (fun i _ => 8 - (intOf i).toNat)
  case atStart => exact ⟨0, by omega, rfl, hbl, hr0, hr⟩
  clear hbl hr0 hr
  case round =>
    obtain ⟨k, hk1, rfl, hbl, hr0, hr⟩ := hrel
    by_cases hlt : k < 8
    · have hix : ∀ w : World, (Instr.index 99 (.agg (arr32 8 S)) (.int .i64 k)).run Tryd.prog w = .ok (v32 (S k)) w :=
        fun w => index_arr Tryd.underlying99 Tryd.underlying24 (by kernel_rfl) (arr32 8 S) k hlt _ (hR k hlt) w
      have hx := HX.out (S k)
      have hy := HY.out (S k)
      have hz := HZ.out (S k)
      have hv := HU.out (S k)
      have hk8 : (k : Int) < 8 := by omega
      have c0 := hr.cell (i := 4 * k) (by omega)
      have c1 := hr.cell (i := 4 * k + 1) (by omega)
      have c2 := hr.cell (i := 4 * k + 2) (by omega)
      have c3 := hr.cell (i := 4 * k + 3) (by omega)
      have f0 := hr.frozen (4 * k)
      have f1 := hr.frozen (4 * k + 1)
      have f2 := hr.frozen (4 * k + 2)
      have f3 := hr.frozen (4 * k + 3)
      go_wp2_with fail
      go_roundw
      case rel =>
        refine ⟨k + 1, by omega, by go_num, (((hbl.setCell (by simp only; omega) _).setCell (by simp only; omega) _).setCell (by simp only; omega) _).setCell (by simp only; omega) _, (((hr0.setOther (by simp only; omega) _).setOther (by simp only; omega) _).setOther (by simp only; omega) _).setOther (by simp only; omega) _, ?_⟩
        refine ((((hr.set (4 * k) _).set (4 * k + 1) _).set (4 * k + 2) _).set (4 * k + 3) _).congr fun j hj => ?_
        have hg : ∀ i, i < 4 → outTo S (k + 1) (4 * k + i) = (S k >>> (24 - 8 * i)).setWidth 8 := by
          intro i hi
          unfold outTo outB
          rw [if_pos (by omega), show (4 * k + i) / 4 = k by omega, show (4 * k + i) % 4 = i by omega]
        by_cases e3 : j = 4 * k + 3
        · rw [if_pos e3, e3, hg 3 (by omega), show 24 - 8 * 3 = 0 from rfl, BitVec.ushiftRight_zero]
        · rw [if_neg e3]
          by_cases e2 : j = 4 * k + 2
          · rw [if_pos e2, e2, hg 2 (by omega)]
          · rw [if_neg e2]
            by_cases e1 : j = 4 * k + 1
            · rw [if_pos e1, e1, hg 1 (by omega)]
            · rw [if_neg e1]
              by_cases e0 : j = 4 * k
              · rw [if_pos e0, e0, show 4 * k = 4 * k + 0 from rfl, hg 0 (by omega)]
              · rw [if_neg e0]
                unfold outTo
                by_cases e : j < 4 * k
                · rw [if_pos e, if_pos (by omega)]
                · rw [if_neg e, if_neg (by omega)]
      case measure => simp [intOf]; omega
    · have hk8 : k = 8 := by omega
      subst hk8
      have hdk : decide (((8 : Nat) : Int) < 8) = false := by decide
      have hrd := hr.congr (g := fun i => v8 (outB S i)) fun i hi => by unfold outTo; rw [if_pos (by omega)]
      have hhD := rowIs_heap8 hrd
      obtain ⟨old, hro1, hro2, _⟩ := hr0
      have hbb := below_setRow (g := B) hbl (by omega) (arr8 32 (outB S))
      have hres : (wr.setRow B (arr8 32 (outB S))).heap[B]? = some (.cells (arr8 32 (outB S)) 23 (0, 0)) := setRow_heap _ _ _ _ _ _ hro1
      go_wp2_with (first | (refine wpList_load_row rfl 23 _ rfl _ rfl _ _ _ _ hhD Tryd.underlying23 rfl (by kernel_rfl) ?_) | (refine wpList_store_row rfl 23 _ _ rfl _ _ rfl rfl _ _ hro1 (by kernel_rfl) (by simpa using hro2) (arr8_one _ _) ?_))
      refine bodyPost_ret (results_cell_row rfl _ _ _ _ _ _ _ rfl hres Tryd.underlying23 rfl (by kernel_rfl)) rfl ?_
      rw [HDG.out, HB.out]
      exact ⟨rfl, hbb⟩
def iv : Nat → BitVec 32
  | 0 => 1779033703#32 | 1 => 3144134277#32 | 2 => 1013904242#32 | 3 => 2773480762#32 | 4 => 1359893119#32 | 5 => 2600822924#32 | 6 => 528734635#32 | _ => 1541459225#32
/-- a digest at its start -/
def h0 : HSt := ⟨iv, fun _ => 0#8, 0⟩

theorem wpList_build {P : Program} {w : World} {ops : Array Oper} {rest : List Oper} {o : Oper} {a : Act} {Q : Exit → Act → World → Prop} (hgd : o.guard = none) (t : TypeId) (parts : Array (Nat × Operand)) (ho : o.op = .build t parts)
    (ps : Array (Nat × Value)) (hp : (parts.map fun (i, x) => (i, a.eval x)) = ps) (v : Value)
    (hz : ∀ w, (Instr.build t ps).run P w = .ok v w) (h : wpList P ops Q rest (a.put o.dst v) w) : wpList P ops Q (o :: rest) a w := by
  refine wpList_plain hgd fun K hK => ?_
  unfold Oper.wp execOp
  simp only [ho]
  simp [hp, hz, Result.andThen]
  exact hK _ _ h

theorem ivrow : (Value.agg #[Value.int IntKind.u32 1779033703, Value.int IntKind.u32 3144134277, Value.int IntKind.u32 1013904242,
            Value.int IntKind.u32 2773480762, Value.int IntKind.u32 1359893119, Value.int IntKind.u32 2600822924,
            Value.int IntKind.u32 528734635, Value.int IntKind.u32 1541459225]) = .agg (arr32 8 iv) := by rfl

set_option maxRecDepth 100000 in
theorem start_any (w : World) : Calls Tryd.prog 92 #[] w fun e w' => e = .returned (.agg (hrow iv (fun _ => 0#8) 0 0)) ∧ Below w.heap.size w w' := by
  go_enter Tryd.func92, Tryd.ntmps92
  go_wp2_with (first | (refine wpList_build rfl 139 _ rfl #[(0, .agg (arr32 8 iv))] (by kernel_rfl) (.agg (hrow iv (fun _ => 0#8) 0 0)) (fun _ => by kernel_rfl) ?_) | (refine wpList_alloc_z rfl 139 rfl hzero (fun _ => by kernel_rfl) ?_) | (refine wpList_store_row rfl 139 _ _ rfl _ _ rfl rfl _ _ (heap_alloc_new _ _) (by kernel_rfl) (by rw [hrow_size, hzero_size]) (hrow_one _ _ _ _) ?_; rw [alloc_setRow]))
  refine bodyPost_ret (results_cell_row rfl _ _ _ _ _ _ _ rfl (heap_alloc_new _ _) Tryd.underlying139 rfl (by rw [hrow_size]; kernel_rfl)) rfl ?_
  exact ⟨rfl, (Below.refl _ _).alloc (Nat.le_refl _) _⟩

/-- a digest to which xs was written -/
abbrev HashX (w : World) (C : Nat) (xs : List (BitVec 8)) : Prop := HashR w C (feeds h0 xs).s (feeds h0 xs).m (feeds h0 xs).u ((xs.length : Int) % 18446744073709551616)
/-- the digest of xs, as the program reckons it -/
def shaOf (xs : List (BitVec 8)) : Nat → BitVec 8 := digOf (feeds h0 xs) (BitVec.ofNat 64 (8 * xs.length))

theorem h0_u (xs : List (BitVec 8)) : (feeds h0 xs).u < 64 := feeds_u xs h0 (by decide)
theorem len_wrap (n : Nat) : IntKind.u64.wrap ((n : Int) % 18446744073709551616 * 8) = ((BitVec.ofNat 64 (8 * n)).toNat : Int) := by
  rw [BitVec.toNat_ofNat]
  show ((n : Int) % 18446744073709551616 * 8) % 18446744073709551616 = _
  omega

theorem write_x (C : Nat) (xs ys : List (BitVec 8)) (A : Option Addr) (cap : Nat) (w : World) (hh : HashX w C xs)
    (hk : KAt w) (hne : C ≠ 19) (hA : SlRead w A (ints .u8 (bys ys))) (hO : 0 < ys.length → OffB A C) (hcap : ys.length ≤ cap) (hlen : ys.length ≤ 4611686018427387904) :
    Calls Tryd.prog 93 #[.pointer (some ⟨C, 0, none⟩), .slice A ys.length cap] w fun e w' => e = .returned (.tuple #[]) ∧ HashX w' C (xs ++ ys) ∧ Only C w w' := by
  refine (write_any C (feeds h0 xs) _ A ys cap w hh (h0_u xs) hk hne hA hO hcap hlen).mono ?_
  rintro e w' ⟨rfl, h, ho⟩
  refine ⟨rfl, ?_, ho⟩
  unfold HashX
  rw [feeds_append, List.length_append]
  have : ((xs.length : Int) % 18446744073709551616 + ys.length) % 18446744073709551616 = ((xs.length + ys.length : Nat) : Int) % 18446744073709551616 := by omega
  rw [← this]
  exact h

theorem sum_x (C : Nat) (xs : List (BitVec 8)) (w : World) (hh : HashX w C xs) (hk : KAt w) :
    Calls Tryd.prog 94 #[.pointer (some ⟨C, 0, none⟩)] w fun e w' => e = .returned (.agg (arr8 32 (shaOf xs))) ∧ Below w.heap.size w w' :=
  hsum_any C (feeds h0 xs) (BitVec.ofNat 64 (8 * xs.length)) _ w hh (h0_u xs) (len_wrap _) hk
end Go.Proofs.YtocjmlncpjfnfaaDoor
