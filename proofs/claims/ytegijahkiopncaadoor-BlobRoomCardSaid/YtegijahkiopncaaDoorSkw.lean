import Derived.Test.YtegijahkiopncaaDoorBlj
import Derived.IntWalk
/-
  couriermake.Key: its 32 bytes.
-/
namespace Go.Proofs.YtegijahkiopncaaDoor
open Go.RowKit
def mk32 (f : Nat → UInt8) : List UInt8 := (List.range 32).map f
def zkey : List UInt8 := List.replicate 32 0
theorem size_u8 (w : World) : (sizeOf 5).run Tryd.prog w = .ok 1 w := by kernel_rfl
theorem info_key : (Tryd.prog.info? 45).map (·.size) = some 32 := by kernel_rfl
theorem cellB_one (q : List UInt8) : (q.map cellB).toArray.all (·.oneCell') = true := by simp [cellB, Value.oneCell']
theorem key_size (q : List UInt8) (h : q.length = 32) : (q.map cellB).toArray.size = 32 := by simpa using h

theorem rem_i64 (t : TypeId) (x y : Operand) (a b : Nat) (hb : 0 < b) (h2 : a ≤ 9223372036854775807) (w : World) : (do eqGuard .rem t x y (.int .i64 (a : Int)) (.int .i64 (b : Int)); binOp .rem t (.int .i64 (a : Int)) (.int .i64 (b : Int)) : Sem Value).run Tryd.prog w = .ok (.int .i64 ((a % b : Nat) : Int)) w := by
  have hm : ((a : Int).tmod (b : Int)) = ((a % b : Nat) : Int) := by rw [Int.tmod_eq_emod_of_nonneg (by omega)]; simp
  have hl : a % b ≤ a := Nat.mod_le _ _
  have hw : IntKind.i64.wrap (((a % b : Nat) : Int)) = ((a % b : Nat) : Int) := IntWalk.i64_in _ (by omega)
  have hb1 : ¬ b = 0 := by omega
  simp [eqGuard, binOp, Op.intDiv, hb1, hm]
  try exact hw
theorem mul_i64 (t : TypeId) (x y : Operand) (a b c : Int) (h : a * b = c) (h1 : -9223372036854775808 ≤ c) (h2 : c ≤ 9223372036854775807) (w : World) : (do eqGuard .mul t x y (.int .i64 a) (.int .i64 b); binOp .mul t (.int .i64 a) (.int .i64 b) : Sem Value).run Tryd.prog w = .ok (.int .i64 c) w := by
  have hw : IntKind.i64.wrap (a * b) = c := by rw [h]; exact IntWalk.i64_in _ (by omega)
  simp [eqGuard, binOp, Op.intArith, hw]
theorem cvt_u64 (x : Nat) (h : x < 18446744073709551616) (w : World) : (convert 3 69 (.int .i64 x)).run Tryd.prog w = .ok (.int .u64 x) w := by
  have h1 := Tryd.underlying3
  have h2 := Tryd.underlying69
  have hw : IntKind.u64.wrap (x : Int) = (x : Int) := by rw [IntKind.wrap_u64]; omega
  simp [convert, run_underlying h1, run_underlying h2, Conv.intToInt, hw]
theorem shr_i64 (t : TypeId) (x y : Operand) (n : Int) (c : Nat) (w : World) : (do eqGuard .shr t x y (.int .i64 n) (.int .u64 (c : Int)); binOp .shr t (.int .i64 n) (.int .u64 (c : Int)) : Sem Value).run Tryd.prog w = .ok (.int .i64 (n.fdiv (2 ^ min c 64))) w := by
  have h0 : ¬ ((c : Int) < 0) := by omega
  simp [eqGuard, binOp, Op.shift, h0, IntKind.bits]
theorem cvt_i64_u8 (x : Int) (w : World) : (convert 3 5 (.int .i64 x)).run Tryd.prog w = .ok (.int .u8 (IntKind.u8.wrap x)) w := by
  have h1 := Tryd.underlying3
  have h2 := Tryd.underlying5
  simp [convert, run_underlying h1, run_underlying h2, Conv.intToInt]
/-- byte i of Key(n) -/
def kb (n : Int) (i : Nat) : UInt8 := UInt8.ofNat (IntKind.u8.wrap (IntKind.u8.wrap (n.fdiv (2 ^ min (i % 8 * 4) 64)) + IntKind.u8.wrap ((17 * i : Nat) : Int))).toNat
theorem kb_val (n : Int) (i : Nat) : cellB (kb n i) = .int .u8 (IntKind.u8.wrap (IntKind.u8.wrap (n.fdiv (2 ^ min (i % 8 * 4) 64)) + IntKind.u8.wrap ((17 * i : Nat) : Int))) := by
  unfold cellB kb
  generalize IntKind.u8.wrap (n.fdiv (2 ^ min (i % 8 * 4) 64)) + IntKind.u8.wrap ((17 * i : Nat) : Int) = z
  have h : IntKind.u8.wrap z = z % 256 := by rw [IntKind.wrap_u8]
  rw [h]
  have h1 : 0 ≤ z % 256 := Int.emod_nonneg _ (by omega)
  have h2 : z % 256 < 256 := Int.emod_lt_of_pos _ (by omega)
  congr 1
  rw [UInt8.toNat_ofNat']
  omega
theorem add_kb (t : TypeId) (x y : Operand) (n : Int) (i : Nat) (w : World) : (do eqGuard .add t x y (.int .u8 (IntKind.u8.wrap (n.fdiv (2 ^ min (i % 8 * 4) 64)))) (.int .u8 (IntKind.u8.wrap ((17 * i : Nat) : Int))); binOp .add t (.int .u8 (IntKind.u8.wrap (n.fdiv (2 ^ min (i % 8 * 4) 64)))) (.int .u8 (IntKind.u8.wrap ((17 * i : Nat) : Int))) : Sem Value).run Tryd.prog w = .ok (cellB (kb n i)) w := by
  rw [kb_val]
  simp [eqGuard, binOp, Op.intArith]
def keyOf (n : Int) : List UInt8 := mk32 (kb n)
theorem keyOf_len (n : Int) : (keyOf n).length = 32 := by simp [keyOf, mk32]
def keyTo (n : Int) (k : Nat) (i : Nat) : UInt8 := if i < k then kb n i else 0
theorem idx_key (b k : Nat) (h : k < 32) (w : World) : (Instr.indexAt 45 (.pointer (some ⟨b, 0, none⟩)) (.int .i64 k)).run Tryd.prog w = .ok (.pointer (some ⟨b, k, none⟩)) w := by
  have hu := Tryd.underlying45
  have e1 : Tryd.prog.arrayLen 45 = 32 := by simp [Program.arrayLen, hu]
  have e2 : Tryd.prog.elem 45 = 5 := by simp [Program.elem, hu]
  rw [run_indexAt_array (h := by rw [e1, e2]; exact hu)]
  simp only [e1, e2, size_u8, Result.andThen, Addr.add]
  rw [if_pos (by omega)]
  by_cases h0 : k = 0 <;> simp [h0]
theorem store_k8 (b k : Nat) (u v : Value) {w : World} {x : UInt8} (h : w.cell? ⟨b, k, none⟩ = some u) (hf : w.frozen? ⟨b, k, none⟩ = false) (hv : v = cellB x := by rfl) : (Instr.storeAt 5 (.pointer (some ⟨b, k, none⟩)) v).run Tryd.prog w = .ok () (w.setCell ⟨b, k, none⟩ v) := by
  subst hv
  unfold cellB
  have h2 := Tryd.underlying5
  go_simp
/-- the row under way -/
structure KRow (w : World) (X : Nat) (f : Nat → UInt8) : Prop where
  cell : ∀ j, j < 32 → w.cell? ⟨X, j, none⟩ = some (cellB (f j))
  frz : ∀ j, w.frozen? ⟨X, j, none⟩ = false
theorem KRow.range {w : World} {X : Nat} {f : Nat → UInt8} (h : KRow w X f) : w.rangeAt X 0 ((mk32 f).map cellB) := by
  intro j v hv
  have hj : j < 32 := by
    have := (List.getElem?_eq_some_iff.1 hv).1
    simpa [mk32] using this
  rw [Nat.zero_add, h.cell j hj]
  simp [mk32, hj] at hv
  rw [hv]
theorem KRow.new {w : World} {X : Nat} {f : Nat → UInt8} (h : w.heap[X]? = some (.cells ((mk32 f).map cellB).toArray 45 (0, 0))) : KRow w X f := by
  refine ⟨fun j hj => ?_, fun j => ?_⟩
  · rw [cell_of_row w X j _ _ _ h]
    simp [mk32, hj]
  · simp [World.frozen?, h]
theorem KRow.set {w : World} {X : Nat} {n : Int} {k : Nat} (h : KRow w X (keyTo n k)) (hk : k < 32) : KRow (w.setCell ⟨X, k, none⟩ (cellB (kb n k))) X (keyTo n (k + 1)) := by
  refine ⟨fun j hj => ?_, fun j => by rw [frozen_setCell]; exact h.frz j⟩
  by_cases e : j = k
  · subst e
    rw [World.cell?_setCell_same w _ _ (h.cell j hj)]
    simp [keyTo]
  · rw [World.cell?_setCell_other _ _ _ _ (by intro q; cases q; exact e rfl), h.cell j hj]
    have : (j < k + 1) = (j < k) := by simp; omega
    simp only [keyTo, this]
theorem zrow_eq (n : Int) : (zkey.map cellB) = (mk32 (keyTo n 0)).map cellB := by
  simp only [zkey, mk32]
  rfl
def KeyIs (w : World) (n : Int) (e : Ending) (w' : World) : Prop := e = .returned (.agg ((keyOf n).map cellB).toArray) ∧ Below w.heap.size w w'
set_option maxRecDepth 100000 in
set_option maxHeartbeats 1600000 in
theorem keyis_any (n : Int) (w : World) : Calls Tryd.prog 19 #[.int .i64 n] w (KeyIs w n) := by
  have hz := zrow_eq n
  have hr0 := heap2_0 w (Obj.cells (zkey.map cellB).toArray 45) (Obj.cells (zkey.map cellB).toArray 45)
  have hr1 := heap2_1 w (Obj.cells (zkey.map cellB).toArray 45) (Obj.cells (zkey.map cellB).toArray 45)
  have hb0 : Below w.heap.size w ((w.alloc (Obj.cells (zkey.map cellB).toArray 45)).alloc (Obj.cells (zkey.map cellB).toArray 45)) := ((Below.refl _ _).alloc (Nat.le_refl _) _).alloc (by simp) _
  have hk0 : KRow ((w.alloc (Obj.cells (zkey.map cellB).toArray 45)).alloc (Obj.cells (zkey.map cellB).toArray 45)) (w.heap.size + 1) (keyTo n 0) := KRow.new (by rw [hr1, hz])
  clear hr1 hz
  go_enter Tryd.func19, Tryd.ntmps19
  go_upto_region 2 with (refine wpList_allocV rfl 45 rfl (zkey.map cellB).toArray (fun _ => by kernel_rfl) ?_)
  rw [show (w.alloc (Obj.cells (zkey.map cellB).toArray 45)).heap.size = w.heap.size + 1 by simp]
  simp only [put_list, List.set_cons_zero, List.set_cons_succ]
  refine wp_world (fun W => Below w.heap.size w W ∧ W.heap[w.heap.size]? = some (Obj.cells (zkey.map cellB).toArray 45) ∧ KRow W (w.heap.size + 1) (keyTo n 0)) ⟨hb0, hr0, hk0⟩ ?_
  clear hr0 hb0 hk0
  rintro W ⟨hb0, hr0, hk0⟩
  obtain ⟨X, hX⟩ : ∃ X, X = w.heap.size + 1 := ⟨_, rfl⟩
  rw [← hX] at hk0 ⊢
  have HX := Lib.hid hX
  have hXw : w.heap.size ≤ X := by omega
  have hXn : w.heap.size ≠ X := by omega
  clear hX
  go_wp2_with fail
  go_loopw [4] (fun i wr => ∃ k : Nat, i = .int .i64 k ∧ k ≤ 32 ∧ Below w.heap.size w wr ∧ wr.heap[w.heap.size]? = some (Obj.cells (zkey.map cellB).toArray 45) ∧ KRow wr X (keyTo n k)) (fun i _ => 32 - (intOf i).toNat)
  case atStart => exact ⟨0, rfl, by omega, hb0, hr0, hk0⟩
  case round =>
    clear hb0 hr0 hk0
    obtain ⟨k, rfl, hk, hb, hr, hrow⟩ := hrel
    by_cases hlt : k < 32
    · have hlt' : decide ((k : Int) < 32) = true := by simp; omega
      have hck := hrow.cell k hlt
      have hfk := hrow.frz k
      have HR := Lib.hid hrow
      have HRB := Lib.hid hr
      clear hrow hr
      go_upto_region 5 with (fail)
      refine wp_region_lit ?_
      try simp only [put_list, List.set_cons_zero, List.set_cons_succ]
      refine wpList_run (by kernel_rfl) (.int .i64 (k : Int)) (wr) (exec_move rfl (by kernel_rfl)) ?_
      try simp only [put_list, List.set_cons_zero, List.set_cons_succ]
      refine wpList_run (by kernel_rfl) (.int .i64 n) (wr) (exec_move rfl (by kernel_rfl)) ?_
      try simp only [put_list, List.set_cons_zero, List.set_cons_succ]
      refine wpList_run (by kernel_rfl) (.int .i64 (k : Int)) (wr) (exec_move rfl (by kernel_rfl)) ?_
      try simp only [put_list, List.set_cons_zero, List.set_cons_succ]
      refine wpList_run (by kernel_rfl) (.int .i64 ((k % 8 : Nat) : Int)) (wr) (exec_bin (vx := .int .i64 (k : Int)) (vy := Go.Value.int Go.IntKind.i64 8) rfl (by kernel_rfl) (rem_i64 _ _ _ k 8 (by omega) (by omega) _)) ?_
      try simp only [put_list, List.set_cons_zero, List.set_cons_succ]
      refine wpList_run (by kernel_rfl) (.int .i64 ((k % 8 * 4 : Nat) : Int)) (wr) (exec_bin (vx := .int .i64 ((k % 8 : Nat) : Int)) (vy := Go.Value.int Go.IntKind.i64 4) rfl (by kernel_rfl) (mul_i64 _ _ _ _ _ _ (by omega) (by omega) (by omega) _)) ?_
      try simp only [put_list, List.set_cons_zero, List.set_cons_succ]
      refine wpList_run (by kernel_rfl) (.int .u64 ((k % 8 * 4 : Nat) : Int)) (wr) (exec_cvt (vx := .int .i64 ((k % 8 * 4 : Nat) : Int)) rfl (by kernel_rfl) (cvt_u64 _ (by omega) _)) ?_
      try simp only [put_list, List.set_cons_zero, List.set_cons_succ]
      refine wpList_run (by kernel_rfl) (.int .i64 (n.fdiv (2 ^ min (k % 8 * 4) 64))) (wr) (exec_bin (vx := .int .i64 n) (vy := .int .u64 ((k % 8 * 4 : Nat) : Int)) rfl (by kernel_rfl) (shr_i64 _ _ _ _ _ _)) ?_
      try simp only [put_list, List.set_cons_zero, List.set_cons_succ]
      refine wpList_run (by kernel_rfl) (.int .u8 (IntKind.u8.wrap (n.fdiv (2 ^ min (k % 8 * 4) 64)))) (wr) (exec_cvt (vx := .int .i64 (n.fdiv (2 ^ min (k % 8 * 4) 64))) rfl (by kernel_rfl) (cvt_i64_u8 _ _)) ?_
      try simp only [put_list, List.set_cons_zero, List.set_cons_succ]
      refine wpList_run (by kernel_rfl) (.int .i64 (k : Int)) (wr) (exec_move rfl (by kernel_rfl)) ?_
      try simp only [put_list, List.set_cons_zero, List.set_cons_succ]
      refine wpList_run (by kernel_rfl) (.int .i64 ((17 * k : Nat) : Int)) (wr) (exec_bin (vx := Go.Value.int Go.IntKind.i64 17) (vy := .int .i64 (k : Int)) rfl (by kernel_rfl) (mul_i64 _ _ _ _ _ _ (by omega) (by omega) (by omega) _)) ?_
      try simp only [put_list, List.set_cons_zero, List.set_cons_succ]
      refine wpList_run (by kernel_rfl) (.int .u8 (IntKind.u8.wrap ((17 * k : Nat) : Int))) (wr) (exec_cvt (vx := .int .i64 ((17 * k : Nat) : Int)) rfl (by kernel_rfl) (cvt_i64_u8 _ _)) ?_
      try simp only [put_list, List.set_cons_zero, List.set_cons_succ]
      refine wpList_run (by kernel_rfl) (cellB (kb n k)) (wr) (exec_bin (vx := .int .u8 (IntKind.u8.wrap (n.fdiv (2 ^ min (k % 8 * 4) 64)))) (vy := .int .u8 (IntKind.u8.wrap ((17 * k : Nat) : Int))) rfl (by kernel_rfl) (add_kb _ _ _ _ _ _)) ?_
      try simp only [put_list, List.set_cons_zero, List.set_cons_succ]
      refine wpList_run (by kernel_rfl) (.pointer (some ⟨X, k, none⟩)) (wr) (exec_index (vx := .pointer (some ⟨X, 0, none⟩)) (vy := .int .i64 (k : Int)) rfl (by kernel_rfl) (idx_key X k hlt _)) ?_
      refine wpList_skip rfl ((wr.setCell ⟨X, k, none⟩ (cellB (kb n k)))) (exec_store (vx := .pointer (some ⟨X, k, none⟩)) (vy := cellB (kb n k)) rfl (by kernel_rfl) (store_k8 X k _ _ hck hfk)) ?_
      refine wpList_nil ?_
      simp only [put_list, put_none, List.set_cons_zero, List.set_cons_succ]
      have hn1 := HR.out.set hlt
      have hb1 := hb.setCell (p := ⟨X, k, none⟩) hXw (cellB (kb n k))
      have hr1 : (wr.setCell ⟨X, k, none⟩ (cellB (kb n k))).heap[w.heap.size]? = some (Obj.cells (zkey.map cellB).toArray 45) := by rw [Below.heap_setCell _ _ _ _ hXn]; exact HRB.out
      clear hck hfk hb
      generalize wr.setCell ⟨X, k, none⟩ (cellB (kb n k)) = wn at hn1 hb1 hr1 ⊢
      go_wp2_with fail
      go_roundw
      case rel => exact ⟨k + 1, by go_num, by omega, hb1, hr1, hn1⟩
      case measure => simp [intOf]; omega
    · have hlt' : decide ((k : Int) < 32) = false := by simp; omega
      obtain rfl : k = 32 := by omega
      have hrg := hrow.range
      have hke : mk32 (keyTo n 32) = keyOf n := by
        unfold keyOf mk32
        apply List.map_congr_left
        intro i hi
        simp only [List.mem_range] at hi
        simp [keyTo, hi]
      rw [hke] at hrg
      have hld := load_row 45 X 0 ((keyOf n).map cellB) _ Tryd.underlying45 rfl (by rw [List.length_map, keyOf_len]; exact info_key) wr hrg
      have hks := keyOf_len n
      generalize hkn : keyOf n = kn at hld hks
      have HKN := Lib.hid hkn
      have HKS := Lib.hid hks
      clear hkn hks hrg hke hrow
      go_wp2_with (first | (refine wpList_run rfl _ _ (exec_load rfl (by kernel_rfl) hld) ?_) | (refine wpList_store_row rfl 45 _ _ rfl w.heap.size _ rfl rfl _ _ hr (by rw [key_size _ HKS.out]; exact info_key) (by rw [key_size _ HKS.out, key_size _ (by simp [zkey])]) (cellB_one _) ?_))
      refine bodyPost_ret (results_cell_row rfl _ _ _ _ _ _ _ rfl (setRow_heap wr _ _ _ _ _ hr) Tryd.underlying45 rfl (by rw [key_size _ HKS.out]; exact info_key)) rfl ?_
      exact ⟨by rw [HKN.out], setRow_below hb _ (Nat.le_refl _) _⟩
/-- the key's bytes -/
def kf (n : Int) (i : Nat) : BitVec 8 := (kb n i).toBitVec
theorem kf_arr (n : Int) : ((keyOf n).map cellB).toArray = arr8 32 (kf n) := by
  unfold arr8 keyOf mk32
  rw [List.map_map]
  congr 1
theorem kf_zero (n : Int) (h : 0 ≤ n ∧ n < 256) : (kf n 0).toNat = n.toNat := by
  have h1 : IntKind.u8.wrap (n.fdiv (2 ^ min (0 % 8 * 4) 64)) = n := by
    rw [IntKind.wrap_u8]
    simp
    omega
  have h2 : IntKind.u8.wrap ((17 * 0 : Nat) : Int) = 0 := by rw [IntKind.wrap_u8]; rfl
  unfold kf kb
  rw [h1, h2, Int.add_zero, IntKind.wrap_u8]
  have h3 : n % 256 = n := by omega
  rw [h3]
  show (UInt8.ofNat n.toNat).toNat = n.toNat
  rw [UInt8.toNat_ofNat']
  omega
theorem kf_ne {a b : Int} (ha : 0 ≤ a ∧ a < 256) (hb : 0 ≤ b ∧ b < 256) (h : a ≠ b) : kf a 0 ≠ kf b 0 := fun e => by
  have h1 := kf_zero a ha
  rw [e, kf_zero b hb] at h1
  omega
theorem keyf_any (n : Int) (w : World) : Calls Tryd.prog 19 #[.int .i64 n] w fun r w' => r = .returned (.agg (arr8 32 (kf n))) ∧ Below w.heap.size w w' :=
  (keyis_any n w).mono fun _ _ ⟨a, b⟩ => ⟨by rw [← kf_arr]; exact a, b⟩
end Go.Proofs.YtegijahkiopncaaDoor
