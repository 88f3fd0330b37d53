import Derived.Test.YtplennobcbmccaaDoorBof
import Derived.Test.YtplennobcbmccaaDoorRmap
namespace Go.Proofs.YtplennobcbmccaaDoor
open Go.RowKit

theorem made_rmap (w : World) (n : Nat) (hx : n ≤ 1000) : IsRMap ((w.alloc (.cells (madeCells #[.bool false] n) 4)).alloc (.cells #[.slice (some ⟨w.heap.size, 0, none⟩) n n] 32)) (w.alloc (.cells (madeCells #[.bool false] n) 4)).heap.size w.heap.size (List.replicate n false) ∧ Below w.heap.size w ((w.alloc (.cells (madeCells #[.bool false] n) 4)).alloc (.cells #[.slice (some ⟨w.heap.size, 0, none⟩) n n] 32)) := by
  refine ⟨⟨?_, ?_, ?_, by simpa using hx⟩, ?_⟩
  · refine (World.rowIs_alloc (w.alloc (Obj.cells (madeCells #[Value.bool false] n) 4)) #[_] _ _ fun i hi => ?_)
    have : i = 0 := by simp at hi; omega
    subst this
    simp
  · refine World.rowIs.alloc ?_ _
    have := (World.rowIs_made w (.bool false) n 4).congr (g := fun i => .bool ((List.replicate n false).getD i false)) fun i hi => ?_
    · simpa using this
    · simp [hi]
  · simp
  · go_grown
theorem rnewz_any (z : Int) (w : World) :
    Calls Tryd.prog 9 #[.int .i64 z] w fun e w' => ∃ b a, e = .returned (.pointer (some ⟨b, 0, none⟩)) ∧ IsRMap w' b a (List.replicate (sizeN z) false) ∧ Below w.heap.size w w' ∧ w.heap.size ≤ a ∧ w.heap.size ≤ b := by
  rcases (show z < 0 ∨ (0 ≤ z ∧ z ≤ 1000) ∨ 1000 < z by omega) with hz | hz | hz
  · have e : sizeN z = 0 := by unfold sizeN; omega
    rw [e]
    have hmk : (Instr.makeSlice 30 (.int .i64 0) (.int .i64 0)).run Tryd.prog w = .ok (.slice (some ⟨w.heap.size, 0, none⟩) 0 0) (w.alloc (.cells (madeCells #[.bool false] 0) 4)) := run_make_row' (P := Tryd.prog) 30 4 (.bool false) 1 Tryd.underlying30 Tryd.info4 rfl .i64 .i64 0 (by omega) (by omega) w
    go_enter Tryd.func9, Tryd.ntmps9
    go_wp2
    go_ret
    obtain ⟨h1, h2⟩ := made_rmap w 0 (by omega)
    rw [show (w.alloc (.cells (madeCells #[.bool false] 0) 4)).heap.size = w.heap.size + 1 by simp] at h1
    exact ⟨_, _, rfl, h1, h2, Nat.le_refl _, by simp⟩
  · obtain ⟨n, rfl⟩ : ∃ n : Nat, z = (n : Int) := ⟨z.toNat, by omega⟩
    have e : sizeN (n : Int) = n := by unfold sizeN; omega
    rw [e]
    have hmk := run_make_row' (P := Tryd.prog) 30 4 (.bool false) 1 Tryd.underlying30 Tryd.info4 rfl .i64 .i64 n (by omega) (by omega) w
    go_enter Tryd.func9, Tryd.ntmps9
    go_wp2
    go_ret
    obtain ⟨h1, h2⟩ := made_rmap w n (by omega)
    rw [show (w.alloc (.cells (madeCells #[.bool false] n) 4)).heap.size = w.heap.size + 1 by simp] at h1
    exact ⟨_, _, rfl, h1, h2, Nat.le_refl _, by simp⟩
  · have e : sizeN z = 1000 := by unfold sizeN; omega
    rw [e]
    have hmk : (Instr.makeSlice 30 (.int .i64 1000) (.int .i64 1000)).run Tryd.prog w = .ok (.slice (some ⟨w.heap.size, 0, none⟩) 1000 1000) (w.alloc (.cells (madeCells #[.bool false] 1000) 4)) := run_make_row' (P := Tryd.prog) 30 4 (.bool false) 1 Tryd.underlying30 Tryd.info4 rfl .i64 .i64 1000 (by omega) (by omega) w
    go_enter Tryd.func9, Tryd.ntmps9
    go_wp2
    go_ret
    obtain ⟨h1, h2⟩ := made_rmap w 1000 (by omega)
    rw [show (w.alloc (.cells (madeCells #[.bool false] 1000) 4)).heap.size = w.heap.size + 1 by simp] at h1
    exact ⟨_, _, rfl, h1, h2, Nat.le_refl _, by simp⟩
theorem cvt_uint (x : Nat) (h : x < 18446744073709551616) (w : World) : (convert 3 47 (.int .i64 x)).run Tryd.prog w = .ok (.int .u64 x) w := by
  have h1 := Tryd.underlying3
  have h2 := Tryd.underlying47
  have hw : IntKind.u64.wrap (x : Int) = (x : Int) := IntWalk.u64_in _ (by omega)
  simp [convert, run_underlying h1, run_underlying h2, Conv.intToInt, hw]
theorem shrU_u8 (t : TypeId) (x y : Operand) (a : BitVec 8) (k : Nat) (w : World) : (do eqGuard .shr t x y (v8 a) (.int .u64 (k : Int)); binOp .shr t (v8 a) (.int .u64 (k : Int)) : Sem Value).run Tryd.prog w = .ok (v8 (a >>> k)) w := shr_u8 t x y a k w
theorem bit0_u8 (t : TypeId) (p q : Operand) (x : BitVec 8) (k : Nat) (h : k < 8) (b : Bool) (hb : x.getLsbD k = b) (w : World) : (do eqGuard .eql t p q (v8 (x >>> k &&& 1#8)) (.int .u8 0); binOp .eql t (v8 (x >>> k &&& 1#8)) (.int .u8 0) : Sem Value).run Tryd.prog w = .ok (.bool (!b)) w := by
  have hall : ∀ n, n < 256 → ∀ k, k < 8 → ((BitVec.ofNat 8 n >>> k &&& 1#8) == 0#8) = !(BitVec.ofNat 8 n).getLsbD k := by decide +kernel
  have h1 := hall x.toNat x.isLt k h
  rw [BitVec.ofNat_toNat, BitVec.setWidth_eq] at h1
  rw [← hb, ← h1]
  have e : (n8 (x >>> k &&& 1#8) == (0 : Int)) = ((x >>> k &&& 1#8) == 0#8) := by
    rw [Bool.eq_iff_iff, beq_iff_eq, beq_iff_eq, show (0 : Int) = n8 0#8 from rfl, n8_natG, n8_natG]
    constructor
    · intro h
      exact BitVec.eq_of_toNat_eq (by omega)
    · intro h
      rw [h]
  simp [eqGuard, binOp, Op.intCmp, e]

/-- what MapOf hands back -/
def MapPost (z : Int) (bs : List (BitVec 8)) (w : World) (e : Ending) (w' : World) : Prop :=
  (bs.length = (sizeN z + 7) / 8 ∧ NoMore bs (sizeN z) ∧ ∃ b a, e = .returned (.tuple #[.pointer (some ⟨b, 0, none⟩), .bool true]) ∧ IsRMap w' b a (readOf bs (sizeN z) (8 * bs.length)) ∧ Below w.heap.size w w' ∧ w.heap.size ≤ a ∧ w.heap.size ≤ b) ∨
  (¬ (bs.length = (sizeN z + 7) / 8 ∧ NoMore bs (sizeN z)) ∧ e = .returned (.tuple #[.pointer none, .bool false]) ∧ Below w.heap.size w w')

set_option maxRecDepth 100000 in
set_option maxHeartbeats 3200000 in
theorem mapof_any (z : Int) (bs : List (BitVec 8)) (X : Option Addr) (cb : Nat) (w : World) (hX : SlRead w X (ints .u8 (bys bs))) (hbs : bs.length ≤ 4611686018427387) :
    Calls Tryd.prog 25 #[.int .i64 z, .slice X bs.length cb] w (MapPost z bs w) := by
  have hsz := sizeN_le z
  go_enter Tryd.func25, Tryd.ntmps25
  go_wp2_with fail
  refine (rnewz_any z w).mono ?_
  rintro e W1 ⟨b, a, rfl, hm, hb1, ha, hb⟩
  obtain ⟨N, hN⟩ : ∃ N, N = sizeN z := ⟨_, rfl⟩
  rw [← hN] at hm hsz
  have HN := Lib.hid hN; clear hN
  have h0 := hm.h0
  rw [List.length_replicate] at h0
  by_cases hlen : bs.length = (N + 7) / 8
  · have d1 : decide ((bs.length : Int) = ((N : Int) + 7) / 8) = true := by simp; omega
    have d2 : ((bs.length : Int) == ((N : Int) + 7) / 8) = true := by simp; omega
    have hm0 : IsRMap W1 b a (readOf bs N 0) := by rw [readOf_zero]; exact hm
    have HLEN := Lib.hid hlen
    clear hm hlen
    go_upto_region 4 with (fail)
    clear d1 d2 h0
    go_wp2_with fail
    go_loopw [7] (fun p wr => ∃ k : Nat, p = .int .i64 k ∧ k ≤ 8 * bs.length ∧ IsRMap wr b a (readOf bs N k) ∧ Below w.heap.size w wr ∧ Hid (∀ i, i < k → N ≤ i → bitOf bs i = false)) (fun p _ => 8 * bs.length - (intOf p).toNat)
    case atStart => exact ⟨0, rfl, by omega, hm0, hb1, Lib.hid (fun i h => absurd h (by omega))⟩
    clear hm0 hb1
    case round =>
      obtain ⟨k, rfl, hkl, hm, hbw, HF⟩ := hrel
      by_cases hlt : k < 8 * bs.length
      · have hlt' : (k : Int) < 8 * (bs.length : Int) := by omega
        have hk8 : k / 8 < bs.length := by omega
        obtain ⟨xb, xo, rfl, hxb, hxc⟩ := hX (by simp [ints, bys]; omega)
        obtain ⟨x, hx⟩ : ∃ x, bs[k / 8]? = some x := ⟨bs[k / 8], by simp [hk8]⟩
        have hxcell := hxc (k / 8) (v8 x) (by simp [ints, bys, hx])
        have HL : ∀ w', Below wr.heap.size wr w' → w'.cell? ⟨xb, xo + k / 8, none⟩ = some (v8 x) := fun w' hb' =>
          (hb'.cell (p := ⟨xb, xo + k / 8, none⟩) (Nat.lt_of_lt_of_le hxb hbw.size)).trans ((hbw.cell (p := ⟨xb, xo + k / 8, none⟩) hxb).trans hxcell)
        have hbo : bitOf bs k = x.getLsbD (k % 8) := by unfold bitOf; rw [List.getD_eq_getElem?_getD, hx]; rfl
        have HBO := Lib.hid hbo
        clear hxcell hxc hx hbo
        rcases hbit : x.getLsbD (k % 8) with _ | _
        · go_upto_region 7 with (fail)
          refine wp_region_text [Sp.k 0 (some 27) [] (.slice (some ⟨xb, xo, none⟩) bs.length cb),
            Sp.k 1 (some 28) [] (.int .i64 k),
            Sp.k 2 (some 29) [1] (.int .i64 ((k / 8 : Nat) : Int)),
            Sp.k 3 (some 30) [0, 2] (.pointer (some ⟨xb, xo + k / 8, none⟩)),
            Sp.k 4 (some 31) [3] (v8 x),
            Sp.k 5 (some 32) [] (.int .i64 k),
            Sp.k 6 (some 33) [5] (.int .i64 ((k % 8 : Nat) : Int)),
            Sp.k 7 (some 34) [6] (.int .u64 ((k % 8 : Nat) : Int)),
            Sp.k 8 (some 35) [4, 7] (v8 (x >>> (k % 8))),
            Sp.k 9 (some 36) [8] (v8 (x >>> (k % 8) &&& 1#8)),
            Sp.k 10 (some 37) [9] (.bool true)] (by kernel_rfl)
            ⟨owes_move 0 (some 27) [] (.slice (some ⟨xb, xo, none⟩) bs.length cb) (Go.Operand.tmp 1) (fun v => by kernel_rfl) (fun v => by kernel_rfl),
            owes_move 1 (some 28) [] (.int .i64 k) (Go.Operand.tmp 7) (fun v => by kernel_rfl) (fun v => by kernel_rfl),
            owes_bin 2 (some 29) [1] (.int .i64 ((k / 8 : Nat) : Int)) Go.BinOp.quo 3 (Go.Operand.tmp 28) (Go.Operand.const (Go.Value.int Go.IntKind.i64 8)) 3 (.int .i64 k) (Go.Value.int Go.IntKind.i64 8) (fun v => by kernel_rfl) (fun v => by kernel_rfl) (quo_i64 _ _ _ k 8 (by omega) (by omega)),
            owes_index 3 (some 30) [0, 2] (.pointer (some ⟨xb, xo + k / 8, none⟩)) 35 (Go.Operand.tmp 27) (Go.Operand.tmp 29) (.slice (some ⟨xb, xo, none⟩) bs.length cb) (.int .i64 ((k / 8 : Nat) : Int)) (fun v => by kernel_rfl) (fun v => by kernel_rfl) (idx_sl (P := Tryd.prog) Tryd.underlying35 (show (Tryd.prog.info? 5).map (·.size) = some 1 by kernel_rfl) xb xo bs.length cb (k / 8) (by omega)),
            owes_load 4 (some 31) [3] (v8 x) 5 (Go.Operand.tmp 30) (.pointer (some ⟨xb, xo + k / 8, none⟩)) (fun v => by kernel_rfl) (fun v => by kernel_rfl) (fun w' hb => load_u8' _ _ _ w' (HL w' hb)),
            owes_move 5 (some 32) [] (.int .i64 k) (Go.Operand.tmp 7) (fun v => by kernel_rfl) (fun v => by kernel_rfl),
            owes_bin 6 (some 33) [5] (.int .i64 ((k % 8 : Nat) : Int)) Go.BinOp.rem 3 (Go.Operand.tmp 32) (Go.Operand.const (Go.Value.int Go.IntKind.i64 8)) 3 (.int .i64 k) (Go.Value.int Go.IntKind.i64 8) (fun v => by kernel_rfl) (fun v => by kernel_rfl) (rem_i64 _ _ _ k 8 (by omega) (by omega)),
            owes_cvt 7 (some 34) [6] (.int .u64 ((k % 8 : Nat) : Int)) 3 47 (Go.Operand.tmp 33) (.int .i64 ((k % 8 : Nat) : Int)) (fun v => by kernel_rfl) (fun v => by kernel_rfl) (cvt_uint (k % 8) (by omega)),
            owes_bin 8 (some 35) [4, 7] (v8 (x >>> (k % 8))) Go.BinOp.shr 5 (Go.Operand.tmp 31) (Go.Operand.tmp 34) 47 (v8 x) (.int .u64 ((k % 8 : Nat) : Int)) (fun v => by kernel_rfl) (fun v => by kernel_rfl) (shrU_u8 _ _ _ x (k % 8)),
            owes_bin 9 (some 36) [8] (v8 (x >>> (k % 8) &&& 1#8)) Go.BinOp.and 5 (Go.Operand.tmp 35) (Go.Operand.const (Go.Value.int Go.IntKind.u8 1)) 5 (v8 (x >>> (k % 8))) (Go.Value.int Go.IntKind.u8 1) (fun v => by kernel_rfl) (fun v => by kernel_rfl) (and_u8 _ _ _ _ 1#8),
            owes_bin 10 (some 37) [9] (.bool true) Go.BinOp.eql 5 (Go.Operand.tmp 36) (Go.Operand.const (Go.Value.int Go.IntKind.u8 0)) 5 (v8 (x >>> (k % 8) &&& 1#8)) (Go.Value.int Go.IntKind.u8 0) (fun v => by kernel_rfl) (fun v => by kernel_rfl) (bit0_u8 _ _ _ x (k % 8) (by omega) false hbit), trivial⟩ ?_
          intro v w' hb' hall
          clear hall HL
          have hm2 := hm.below' hb'
          have hbb := below_tr hbw hb'
          clear hb' hm hbw
          simp only [putsL_k, putsL_nil, List.set_cons_zero, List.set_cons_succ]
          have hbf : bitOf bs k = false := HBO.out.trans hbit
          rw [← readOf_no bs N k hbf] at hm2
          have HBF := Lib.hid hbf; clear hbf
          go_wp2_with fail
          go_roundw
          case rel => exact ⟨k + 1, by go_num, by omega, hm2, hbb, Lib.hid (fun i hi hn => by
            rcases Nat.lt_or_ge i k with h | h
            · exact HF.out i h hn
            · obtain rfl : i = k := by omega
              exact HBF.out)⟩
          case measure => simp [intOf]; omega
        · go_upto_region 7 with (fail)
          refine wp_region_text [Sp.k 0 (some 27) [] (.slice (some ⟨xb, xo, none⟩) bs.length cb),
            Sp.k 1 (some 28) [] (.int .i64 k),
            Sp.k 2 (some 29) [1] (.int .i64 ((k / 8 : Nat) : Int)),
            Sp.k 3 (some 30) [0, 2] (.pointer (some ⟨xb, xo + k / 8, none⟩)),
            Sp.k 4 (some 31) [3] (v8 x),
            Sp.k 5 (some 32) [] (.int .i64 k),
            Sp.k 6 (some 33) [5] (.int .i64 ((k % 8 : Nat) : Int)),
            Sp.k 7 (some 34) [6] (.int .u64 ((k % 8 : Nat) : Int)),
            Sp.k 8 (some 35) [4, 7] (v8 (x >>> (k % 8))),
            Sp.k 9 (some 36) [8] (v8 (x >>> (k % 8) &&& 1#8)),
            Sp.k 10 (some 37) [9] (.bool false)] (by kernel_rfl)
            ⟨owes_move 0 (some 27) [] (.slice (some ⟨xb, xo, none⟩) bs.length cb) (Go.Operand.tmp 1) (fun v => by kernel_rfl) (fun v => by kernel_rfl),
            owes_move 1 (some 28) [] (.int .i64 k) (Go.Operand.tmp 7) (fun v => by kernel_rfl) (fun v => by kernel_rfl),
            owes_bin 2 (some 29) [1] (.int .i64 ((k / 8 : Nat) : Int)) Go.BinOp.quo 3 (Go.Operand.tmp 28) (Go.Operand.const (Go.Value.int Go.IntKind.i64 8)) 3 (.int .i64 k) (Go.Value.int Go.IntKind.i64 8) (fun v => by kernel_rfl) (fun v => by kernel_rfl) (quo_i64 _ _ _ k 8 (by omega) (by omega)),
            owes_index 3 (some 30) [0, 2] (.pointer (some ⟨xb, xo + k / 8, none⟩)) 35 (Go.Operand.tmp 27) (Go.Operand.tmp 29) (.slice (some ⟨xb, xo, none⟩) bs.length cb) (.int .i64 ((k / 8 : Nat) : Int)) (fun v => by kernel_rfl) (fun v => by kernel_rfl) (idx_sl (P := Tryd.prog) Tryd.underlying35 (show (Tryd.prog.info? 5).map (·.size) = some 1 by kernel_rfl) xb xo bs.length cb (k / 8) (by omega)),
            owes_load 4 (some 31) [3] (v8 x) 5 (Go.Operand.tmp 30) (.pointer (some ⟨xb, xo + k / 8, none⟩)) (fun v => by kernel_rfl) (fun v => by kernel_rfl) (fun w' hb => load_u8' _ _ _ w' (HL w' hb)),
            owes_move 5 (some 32) [] (.int .i64 k) (Go.Operand.tmp 7) (fun v => by kernel_rfl) (fun v => by kernel_rfl),
            owes_bin 6 (some 33) [5] (.int .i64 ((k % 8 : Nat) : Int)) Go.BinOp.rem 3 (Go.Operand.tmp 32) (Go.Operand.const (Go.Value.int Go.IntKind.i64 8)) 3 (.int .i64 k) (Go.Value.int Go.IntKind.i64 8) (fun v => by kernel_rfl) (fun v => by kernel_rfl) (rem_i64 _ _ _ k 8 (by omega) (by omega)),
            owes_cvt 7 (some 34) [6] (.int .u64 ((k % 8 : Nat) : Int)) 3 47 (Go.Operand.tmp 33) (.int .i64 ((k % 8 : Nat) : Int)) (fun v => by kernel_rfl) (fun v => by kernel_rfl) (cvt_uint (k % 8) (by omega)),
            owes_bin 8 (some 35) [4, 7] (v8 (x >>> (k % 8))) Go.BinOp.shr 5 (Go.Operand.tmp 31) (Go.Operand.tmp 34) 47 (v8 x) (.int .u64 ((k % 8 : Nat) : Int)) (fun v => by kernel_rfl) (fun v => by kernel_rfl) (shrU_u8 _ _ _ x (k % 8)),
            owes_bin 9 (some 36) [8] (v8 (x >>> (k % 8) &&& 1#8)) Go.BinOp.and 5 (Go.Operand.tmp 35) (Go.Operand.const (Go.Value.int Go.IntKind.u8 1)) 5 (v8 (x >>> (k % 8))) (Go.Value.int Go.IntKind.u8 1) (fun v => by kernel_rfl) (fun v => by kernel_rfl) (and_u8 _ _ _ _ 1#8),
            owes_bin 10 (some 37) [9] (.bool false) Go.BinOp.eql 5 (Go.Operand.tmp 36) (Go.Operand.const (Go.Value.int Go.IntKind.u8 0)) 5 (v8 (x >>> (k % 8) &&& 1#8)) (Go.Value.int Go.IntKind.u8 0) (fun v => by kernel_rfl) (fun v => by kernel_rfl) (bit0_u8 _ _ _ x (k % 8) (by omega) true hbit), trivial⟩ ?_
          intro v w' hb' hall
          clear hall HL
          have hm2 := hm.below' hb'
          have hbb := below_tr hbw hb'
          clear hb' hm hbw
          simp only [putsL_k, putsL_nil, List.set_cons_zero, List.set_cons_succ]
          have hbt : bitOf bs k = true := HBO.out.trans hbit
          have HBT := Lib.hid hbt; clear hbt
          have h0 := hm2.h0
          rw [readOf_length] at h0
          by_cases hkN : k < N
          · have dN : decide (N ≤ k) = false := by simp; omega
            have hc := hm2.row.cell (i := k) (by simpa using hkN)
            have hf := hm2.row.frozen k
            have hm3 := hm2.set k (by simpa using hkN)
            rw [← readOf_yes bs N k HBT.out hkN] at hm3
            have hbb3 : Below w.heap.size w (w'.setCell ⟨a, k, none⟩ (.bool true)) := hbb.setCell (p := ⟨a, k, none⟩) ha _
            clear hm2 hbb
            go_wp2_with fail
            go_roundw
            case rel => exact ⟨k + 1, by go_num, by omega, hm3, hbb3, Lib.hid (fun i hi hn => by
              rcases Nat.lt_or_ge i k with h | h
              · exact HF.out i h hn
              · omega)⟩
            case measure => simp [intOf]; omega
          · have dN : decide (N ≤ k) = true := by simp; omega
            go_wp2_with fail
            go_ret2
            have hno : ¬ (bs.length = (sizeN z + 7) / 8 ∧ NoMore bs (sizeN z)) := fun hx => by
              have := hx.2 k (by rw [← HN.out]; omega) hlt
              rw [HBT.out] at this
              cases this
            exact .inr ⟨hno, rfl, hbb⟩
      · have hlt' : ¬ (k : Int) < 8 * (bs.length : Int) := by omega
        obtain rfl : k = 8 * bs.length := by omega
        go_wp2_with fail
        go_ret2
        refine .inl ⟨by rw [← HN.out]; exact HLEN.out, fun i h1 h2 => HF.out i h2 (by rw [HN.out]; exact h1), b, a, rfl, by rw [← HN.out]; exact hm, hbw, ha, hb⟩
  · have d1 : decide ((bs.length : Int) = ((N : Int) + 7) / 8) = false := by simp; omega
    have d2 : ((bs.length : Int) == ((N : Int) + 7) / 8) = false := by simp; omega
    go_wp2_with fail
    go_ret2
    exact .inr ⟨fun hx => hlen (by rw [HN.out]; exact hx.1), rfl, hb1⟩
end Go.Proofs.YtplennobcbmccaaDoor
