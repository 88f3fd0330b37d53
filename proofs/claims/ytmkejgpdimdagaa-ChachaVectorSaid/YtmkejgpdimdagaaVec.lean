import Derived.Test.YtmkejgpdimdagaaWra
namespace Go.Proofs.Ytmkejgpdimdagaa
open Go.RowKit

section
variable {P : Program} {md : Region.Mode} {ops : Array Oper} {Q : Exit → Act → World → Prop} {S : World → Prop} {fuel : Nat} {listed : Array Bool} {a : Act} {w : World}
theorem held_index (i : Nat) (t : TypeId) (x y : Operand) (dst : Option Tmp) (vx vy v : Value) (ho : ops[i]?.map (fun o => (o.op, o.dst, Region.wanted o (yielded ops a.tmps))) = some (.indexAddr t x y, dst, true))
    (hx : (a.eval x, a.eval y) = (vx, vy)) (he : ∀ w, (Instr.indexAt t vx vy).run P w = .ok v w)
    (hs : Region.noSelect ops = true) (hf : Region.free md ops listed i = true) (hr : (Region.ready md ops listed).contains i = true)
    (hQ : ∀ c a v d w, Q (.panic c) (a.put d v) w → Q (.panic c) a w) (hw : S w)
    (h : wpAnyH P md ops Q S fuel (listed.setIfInBounds i true) (a.put dst v) w) : wpAnyH P md ops Q S (fuel + 1) listed a w := by
  simp only [Prod.mk.injEq] at hx
  exact held_any i _ dst _ ho hs hf hr hQ hw (fun oo ho w hw => by
    unfold execOp
    simp [ho, hx.1, hx.2, he, Result.andThen]) h
theorem held_cell (i : Nat) (t : TypeId) (x : Operand) (dst : Option Tmp) (vx v : Value) (ho : ops[i]?.map (fun o => (o.op, o.dst, Region.wanted o (yielded ops a.tmps))) = some (.load t x, dst, true))
    (hx : a.eval x = vx) (he : ∀ w, S w → (Instr.loadAt t vx).run P w = .ok v w)
    (hs : Region.noSelect ops = true) (hf : Region.free md ops listed i = true) (hr : (Region.ready md ops listed).contains i = true)
    (hQ : ∀ c a v d w, Q (.panic c) (a.put d v) w → Q (.panic c) a w) (hw : S w)
    (h : wpAnyH P md ops Q S fuel (listed.setIfInBounds i true) (a.put dst v) w) : wpAnyH P md ops Q S (fuel + 1) listed a w :=
  held_any i _ dst _ ho hs hf hr hQ hw (fun oo ho w hw => by
    unfold execOp
    simp [ho, hx, he w hw, Result.andThen]) h
end
theorem idx62 (b : Nat) (w : World) : (Instr.indexAt 28 (.pointer (some ⟨b, 0, none⟩)) (.int .i64 62)).run Try.prog w = .ok (.pointer (some ⟨b, 62, none⟩)) w := by
  have h1 := Try.underlying28
  have h2 := Try.underlying5
  go_simp
theorem idx63 (b : Nat) (w : World) : (Instr.indexAt 28 (.pointer (some ⟨b, 0, none⟩)) (.int .i64 63)).run Try.prog w = .ok (.pointer (some ⟨b, 63, none⟩)) w := by
  have h1 := Try.underlying28
  have h2 := Try.underlying5
  go_simp
theorem load_u8 (b o : Nat) (v : Value) (w : World) (h : w.cell? ⟨b, o, none⟩ = some v) : (Instr.loadAt 5 (.pointer (some ⟨b, o, none⟩))).run Try.prog w = .ok v w := by
  have h2 := Try.underlying5
  go_simp
theorem eq_u8 (t : TypeId) (x y : Operand) (a : Int) (w : World) : (do eqGuard .eql t x y (.int .u8 a) (.int .u8 a); binOp .eql t (.int .u8 a) (.int .u8 a) : Sem Value).run Try.prog w = .ok (.bool true) w := by
  simp [eqGuard, binOp, Op.intCmp]

def vk : Nat → BitVec 8 := fun i => BitVec.ofNat 8 i
def vn : Nat → BitVec 8 := fun i => if i = 3 then 9#8 else if i = 7 then 74#8 else 0#8
theorem vec16 : ((List.range 64).map (fun i => n8 (blk vk 1#32 vn i))).take 16 = [16, 241, 231, 228, 209, 59, 89, 21, 80, 15, 221, 31, 163, 32, 113, 196] := by decide +kernel
theorem vec62 : blk vk 1#32 vn 62 = 60#8 := by decide +kernel
theorem vec63 : blk vk 1#32 vn 63 = 78#8 := by decide +kernel
theorem arr_vn : arr8 12 vn = #[.int .u8 0, .int .u8 0, .int .u8 0, .int .u8 9, .int .u8 0, .int .u8 0, .int .u8 0, .int .u8 74, .int .u8 0, .int .u8 0, .int .u8 0, .int .u8 0] := by rfl
theorem v32_one : v32 1#32 = .int .u32 1 := rfl
theorem n8_vk (i : Nat) (h : i < 32) : n8 (vk i) = (i : Int) := by
  unfold n8 n32 vk
  rw [BitVec.toNat_setWidth, BitVec.toNat_ofNat]
  omega
theorem n8_nat (x : BitVec 8) : n8 x = (x.toNat : Int) := by
  have := x.isLt
  unfold n8 n32
  rw [BitVec.toNat_setWidth]
  omega
theorem n8_xor1 (x : BitVec 8) : bits .xor .u8 (n8 x) 1 = n8 (x ^^^ 1#8) := by
  rw [u8_xor _ _ (n8_lo x) (n8_hi x) (by omega) (by omega), n8_nat, n8_nat, BitVec.toNat_xor]
  rfl
def kTo (k : Nat) : Nat → Value := fun i => if i < k then v8 (vk i) else .int .u8 0
theorem kTo_put {w : World} {a k : Nat} (h : w.rowIs a 23 32 (kTo k)) (v : Int) (hv : n8 (vk k) = v) : (w.setCell ⟨a, k, none⟩ (.int .u8 v)).rowIs a 23 32 (kTo (k + 1)) := by
  refine (h.set k _).congr fun i hi => ?_
  unfold kTo
  by_cases e : i = k
  · subst e; simp [hv]
  · rw [if_neg e]
    by_cases hlt : i < k
    · rw [if_pos hlt, if_pos (by omega)]
    · rw [if_neg hlt, if_neg (by omega)]

set_option maxRecDepth 100000 in
set_option maxHeartbeats 1600000 in
theorem vector_walk (x : Int) (w : World) : Calls Try.prog 5 #[.int .i64 x] w fun e w' => e = .returned (.bool true) ∧ Below w.heap.size w w' := by
  obtain ⟨i0, hi, hz0, hz1, hz2⟩ := info_parts Try.info5
  obtain ⟨N0, hN0, hN1⟩ := exists_mod x 32 (by omega)
  have HN0 := Lib.hid hN0; clear hN0
  go_enter Try.func5, Try.ntmps5
  go_wp2_with fail
  refine (first_any _).mono ?_
  rintro e W1 ⟨rfl, hb1⟩
  go_upto_region 5 with (fail)
  refine wp_world (fun W => W.rowIs W1.heap.size 23 32 (kTo 0) ∧ Below w.heap.size w W) ⟨rowIs_new _ _ _ _ _ _ rfl (by rfl) (fun i hi => by rw [show kTo 0 i = .int .u8 0 by simp [kTo]]; exact zero_row8 32 i hi), hb1.alloc hb1.size _⟩ ?_
  have hBA := hb1.size
  clear hb1
  generalize W1.heap.size = A at *
  rintro W2 ⟨hk, hb⟩
  go_wp2_with fail
  go_loopw [5] (fun i wr => ∃ k : Nat, k ≤ 32 ∧ i = .int .i64 k ∧ wr.rowIs A 23 32 (kTo k) ∧ Below w.heap.size w wr) (fun i _ => 32 - (intOf i).toNat)
  case atStart => exact ⟨0, by omega, rfl, hk, hb⟩
  clear hk hb
  case round =>
    obtain ⟨k, hk, rfl, hr, hb⟩ := hrel
    by_cases hlt : k < 32
    · have hmod : (k : Int) % 256 = (k : Int) := by omega
      have co := hr.cell hlt
      have fo := hr.frozen k
      have hr1 := kTo_put hr k (n8_vk k hlt)
      have hb1 : Below w.heap.size w (wr.setCell ⟨A, k, none⟩ (.int .u8 k)) := hb.setCell (by simp only; omega) _
      clear hr hb
      go_wp2_with fail
      go_roundw
      case rel => exact ⟨k + 1, by omega, by go_num, hr1, hb1⟩
      case measure => simp [intOf]; omega
    · have hk32 : k = 32 := by omega
      rw [hk32] at hr
      clear hk32
      have hrk : wr.rowIs A 23 32 (fun i => v8 (vk i)) := hr.congr (fun i hi => by simp [kTo, hi])
      clear hr
      go_upto_region 10 with (first | (refine wpList_store_row rfl 25 _ _ rfl _ _ rfl rfl _ _ (heap_alloc_new _ _) (by kernel_rfl) (by simp) (by rfl) ?_; rw [alloc_setRow]))
      refine wp_world (fun W => W.rowIs A 23 32 (fun i => v8 (vk i)) ∧ W.rowIs wr.heap.size 25 12 (fun i => v8 (vn i)) ∧ Below w.heap.size w W ∧ A < wr.heap.size) ⟨hrk.alloc _, rowIs_new _ _ _ _ _ _ rfl (by rfl) (fun i hi => by rw [← arr_vn]; exact arr8_get 12 vn i hi), hb.alloc hb.size _, hrk.lt⟩ ?_
      clear hrk hb
      generalize wr.heap.size = G
      rintro W3 ⟨hk3, hn3, hb3, hAG⟩
      have hk := rowIs_heap8 hk3
      have hn := rowIs_heap8 hn3
      have hbm := block_any vk vn 1#32
      rw [v32_one] at hbm
      go_upto_region 11 with (first | (refine wpList_load_row rfl 23 _ rfl _ rfl _ _ _ _ hk Try.underlying23 rfl (by kernel_rfl) ?_) | (refine wpList_load_row rfl 25 _ rfl _ rfl _ _ _ _ hn Try.underlying25 rfl (by kernel_rfl) ?_) | (go_at_call 9; refine (hbm _).mono ?_; rintro e W6 ⟨rfl, hb6⟩) | (refine wpList_store_row rfl 28 _ _ rfl _ _ rfl rfl _ _ (heap_alloc_new _ _) (by kernel_rfl) (by simp) (arr8_one _ _) ?_; rw [alloc_setRow]))
      have hk6 := hk3.of_block (hb6.block _ hk3.lt)
      have hn6 := hn3.of_block (hb6.block _ hn3.lt)
      refine wp_world (fun W => W.rowIs A 23 32 (fun i => v8 (vk i)) ∧ W.rowIs G 25 12 (fun i => v8 (vn i)) ∧ W.rowIs W6.heap.size 28 64 (fun i => v8 (blk vk 1#32 vn i)) ∧ Below w.heap.size w W) ⟨hk6.alloc _, hn6.alloc _, rowIs_new _ _ _ _ _ _ rfl (by simp) (fun i hi => arr8_get 64 _ i hi), (hb3.trans (hb6.mono hb3.size)).alloc (Nat.le_trans hb3.size hb6.size) _⟩ ?_
      rintro W7 ⟨hk7, hn7, hX7, hb7⟩
      generalize W6.heap.size = gx at hX7 ⊢
      clear hk3 hn3 hb3 hk hn hk6 hn6 hb6
      go_upto_region 12 with (fail)
      refine wp_world (fun W => W.rowIs A 23 32 (fun i => v8 (vk i)) ∧ W.rowIs G 25 12 (fun i => v8 (vn i)) ∧ W.rowIs gx 28 64 (fun i => v8 (blk vk 1#32 vn i)) ∧ SlRead W (some ⟨W7.heap.size, 0, none⟩) (ints .u8 [16, 241, 231, 228, 209, 59, 89, 21, 80, 15, 221, 31, 163, 32, 113, 196]) ∧ Below w.heap.size w W) ⟨hk7.alloc _, hn7.alloc _, hX7.alloc _, ?_, hb7.alloc hb7.size _⟩ ?_
      · intro _
        have hnew := heap_alloc_new W7 (.cells #[.int .u8 16, .int .u8 241, .int .u8 231, .int .u8 228, .int .u8 209, .int .u8 59, .int .u8 89, .int .u8 21, .int .u8 80, .int .u8 15, .int .u8 221, .int .u8 31, .int .u8 163, .int .u8 32, .int .u8 113, .int .u8 196] 5)
        refine ⟨W7.heap.size, 0, rfl, (Array.getElem?_eq_some_iff.1 hnew).1, fun j u hu => ?_⟩
        have := World.news_of_block (B := W7.heap.size) hnew j u (by simpa [ints] using hu)
        rw [Addr.add_mid] at this
        exact this
      generalize W7.heap.size = gw
      rintro W8 ⟨hk8, hn8, hX8, hw8, hb8⟩
      clear hk7 hn7 hX7 hb7
      go_wp2_with fail
      refine (number_nat _ _ N0 _ (by omega) HN0.out).mono ?_
      rintro e W9 ⟨rfl, m9, rfl⟩
      go_upto_region 13 with (fail)
      refine wp_world (fun W => W.rowIs A 23 32 (fun i => v8 (vk i)) ∧ W.rowIs G 25 12 (fun i => v8 (vn i)) ∧ W.rowIs gx 28 64 (fun i => v8 (blk vk 1#32 vn i)) ∧ SlRead W (some ⟨gw, 0, none⟩) (ints .u8 [16, 241, 231, 228, 209, 59, 89, 21, 80, 15, 221, 31, 163, 32, 113, 196]) ∧ Below w.heap.size w W) ⟨hk8.of_block rfl, hn8.of_block rfl, hX8.of_block rfl, hw8.below (Below.drewNr m9), hb8.trans (Below.drewNr m9)⟩ ?_
      clear hk8 hn8 hX8 hw8 hb8
      rintro W10 ⟨hk8, hn8, hX8, hw8, hb8⟩
      have hk := rowIs_heap8 hk8
      go_upto_region 14 with (first | (refine wpList_load_row rfl 23 _ rfl _ rfl _ _ _ _ hk Try.underlying23 rfl (by kernel_rfl) ?_) | (refine wpList_store_row rfl 23 _ _ rfl _ _ rfl rfl _ _ (heap_alloc_new _ _) (by kernel_rfl) (by rw [arr8_size]; rfl) (arr8_one _ _) ?_; rw [alloc_setRow]))
      refine wp_world (fun W => W.rowIs W10.heap.size 23 32 (fun i => v8 (vk i)) ∧ W.rowIs G 25 12 (fun i => v8 (vn i)) ∧ W.rowIs gx 28 64 (fun i => v8 (blk vk 1#32 vn i)) ∧ SlRead W (some ⟨gw, 0, none⟩) (ints .u8 [16, 241, 231, 228, 209, 59, 89, 21, 80, 15, 221, 31, 163, 32, 113, 196]) ∧ Below w.heap.size w W ∧ G < W10.heap.size ∧ gx < W10.heap.size ∧ w.heap.size ≤ W10.heap.size) ⟨rowIs_new _ _ _ _ _ _ rfl (by simp) (fun i hi => arr8_get 32 vk i hi), hn8.alloc _, hX8.alloc _, hw8.below ((Below.refl _ _).alloc (Nat.le_refl _) _), hb8.alloc hb8.size _, hn8.lt, hX8.lt, hb8.size⟩ ?_
      clear hk8 hn8 hX8 hb8 hk
      rintro W11 ⟨ho11, hn11, hX11, hw11, hb11, hl1, hl2, hl3⟩
      have hgw : ∀ b o, (some (⟨gw, 0, none⟩ : Addr)) = some ⟨b, o, none⟩ → b < W10.heap.size := fun b o e => by
        obtain ⟨b', o', e', hlt, _⟩ := hw8 (by simp [ints])
        cases e; cases e'; exact hlt
      have hgw2 := hgw gw 0 rfl
      clear hw8 hgw
      generalize W10.heap.size = go at *
      have co := ho11.cell (i := N0) (by omega)
      have fo := ho11.frozen N0
      have hx1 := n8_xor1 (vk N0)
      have hO : Only go W11 (W11.setCell ⟨go, N0, none⟩ (v8 (vk N0 ^^^ 1#8))) := (Only.refl _ _).setCell _ _
      have ho12 := (ho11.set N0 (v8 (vk N0 ^^^ 1#8))).congr (g := fun i => v8 (if i = N0 then vk N0 ^^^ 1#8 else vk i)) (fun i _ => by by_cases e : i = N0 <;> simp [e])
      have hn12 := hO.row hn11 (by omega)
      have hX12 := hO.row hX11 (by omega)
      have hb12 : Below w.heap.size w _ := hb11.trans (hO.below hl3 hb11.size)
      have hw12 : SlRead (W11.setCell ⟨go, N0, none⟩ (v8 (vk N0 ^^^ 1#8))) (some ⟨gw, 0, none⟩) (ints .u8 [16, 241, 231, 228, 209, 59, 89, 21, 80, 15, 221, 31, 163, 32, 113, 196]) := by
        intro hn
        obtain ⟨b', o', e', hlt, hc⟩ := hw11 hn
        cases e'
        refine ⟨gw, 0, rfl, Nat.lt_of_lt_of_le hlt hO.size, fun j u hu => ?_⟩
        rw [World.cell?_of_block (hO.block gw hlt (by omega))]
        exact hc j u hu
      clear hO hX11 hn11 hb11 hw11 ho11
      go_upto_region 15 with (fail)
      obtain ⟨vo, hvo⟩ : ∃ vo : Nat → BitVec 8, vo = fun i => if i = N0 then vk N0 ^^^ 1#8 else vk i := ⟨_, rfl⟩
      have ho13 : (W11.setCell ⟨go, N0, none⟩ (v8 (vk N0 ^^^ 1#8))).rowIs go 23 32 (fun i => v8 (vo i)) := by rw [hvo]; exact ho12
      clear hvo ho12
      refine wp_world (fun W => W.rowIs go 23 32 (fun i => v8 (vo i)) ∧ W.rowIs G 25 12 (fun i => v8 (vn i)) ∧ W.rowIs gx 28 64 (fun i => v8 (blk vk 1#32 vn i)) ∧ SlRead W (some ⟨gw, 0, none⟩) (ints .u8 [16, 241, 231, 228, 209, 59, 89, 21, 80, 15, 221, 31, 163, 32, 113, 196]) ∧ Below w.heap.size w W) ⟨ho13, hn12, hX12, hw12, hb12⟩ ?_
      clear ho13 hn12 hX12 hw12 hb12 hx1 co fo
      rintro W8 ⟨ho, hn, hX, hw, hfinb⟩
      have sX := rows_read (f := fun i => n8 (blk vk 1#32 vn i)) hX
      have sX1 := SlRead.take sX 16
      rw [vec16] at sX1
      have q1 := fun W (hb : Below W8.heap.size W8 W) => sameBytes_any (some ⟨gx, 0, none⟩) (some ⟨gw, 0, none⟩) [16, 241, 231, 228, 209, 59, 89, 21, 80, 15, 221, 31, 163, 32, 113, 196] [16, 241, 231, 228, 209, 59, 89, 21, 80, 15, 221, 31, 163, 32, 113, 196] 64 16 W (sX1.below hb) (hw.below hb) (by simp) (by simp)
      rw [show ∀ z : List Int, decide (z = z) = true from fun z => by simp] at q1
      have i5 : (Try.prog.info? 5).map (·.size) = some 1 := by kernel_rfl
      have f1 := fun w => sliceAt_arr_h (P := Try.prog) 64 Try.underlying28 i5 gx 16 (by omega) (by omega) w
      have c62 := hX.cell (i := 62) (by omega)
      have c63 := hX.cell (i := 63) (by omega)
      rw [v8_at _ _ vec62 (by omega)] at c62
      rw [v8_at _ _ vec63 (by omega)] at c63
      have hbk := block_any vo vn 1#32
      have hrb := rblock_any vo vn 1#32
      have E1 := equal64 (blk vo 1#32 vn)
      have uK := Try.underlying23
      have uN := Try.underlying25
      have iK : (Try.prog.info? 23).map (·.size) = some (k8 32 vo).length := by rw [k8_length]; kernel_rfl
      have iN : (Try.prog.info? 25).map (·.size) = some (k8 12 vn).length := by rw [k8_length]; kernel_rfl
      have rK := range_of_row ho
      have rN := range_of_row hn
      have lk := ho.lt
      have ln := hn.lt
      have lx := hX.lt
      rw [v32_one, arr8_k8 32, arr8_k8 12] at hbk hrb
      clear sX sX1 hw ho hn hX
      generalize arr8 64 (blk vo 1#32 vn) = Z at *
      generalize k8 32 vo = K at *
      generalize k8 12 vn = N at *
      have keep : ∀ {W W' : World}, (W.rangeAt go 0 K ∧ W.rangeAt G 0 N ∧ W.cell? ⟨gx, 62, none⟩ = some (.int .u8 (60 : Nat)) ∧ W.cell? ⟨gx, 63, none⟩ = some (.int .u8 (78 : Nat)) ∧ Below W8.heap.size W8 W) → Below W.heap.size W W' → (W'.rangeAt go 0 K ∧ W'.rangeAt G 0 N ∧ W'.cell? ⟨gx, 62, none⟩ = some (.int .u8 (60 : Nat)) ∧ W'.cell? ⟨gx, 63, none⟩ = some (.int .u8 (78 : Nat)) ∧ Below W8.heap.size W8 W') := fun h hb =>
        ⟨fun j v hv => by rw [World.cell?_of_block (hb.block go (Nat.lt_of_lt_of_le lk h.2.2.2.2.size))]; exact h.1 j v hv, fun j v hv => by rw [World.cell?_of_block (hb.block G (Nat.lt_of_lt_of_le ln h.2.2.2.2.size))]; exact h.2.1 j v hv, by rw [World.cell?_of_block (hb.block gx (Nat.lt_of_lt_of_le lx h.2.2.2.2.size))]; exact h.2.2.1, by rw [World.cell?_of_block (hb.block gx (Nat.lt_of_lt_of_le lx h.2.2.2.2.size))]; exact h.2.2.2.1, h.2.2.2.2.trans (hb.mono h.2.2.2.2.size)⟩
      refine wp_region_noPanic ?_
      refine wp_region_held_drew (S := fun w' => w'.rangeAt go 0 K ∧ w'.rangeAt G 0 N ∧ w'.cell? ⟨gx, 62, none⟩ = some (.int .u8 (60 : Nat)) ∧ w'.cell? ⟨gx, 63, none⟩ = some (.int .u8 (78 : Nat)) ∧ Below W8.heap.size W8 w') (by kernel_rfl) ⟨by simpa using rK, by simpa using rN, c62, c63, (Below.refl _ W8).drew⟩ (fun hHeld => ?_)
      refine held_move 0 (.tmp 3) (some 36) (.bool true) (by kernel_rfl) (by kernel_rfl) (by kernel_rfl) (by kernel_rfl) (by kernel_rfl) (fun _ _ _ _ _ h => h) hHeld ?_
      refine held_move 1 (.tmp 36) (some 37) (.bool true) (by kernel_rfl) (by kernel_rfl) (by kernel_rfl) (by kernel_rfl) (by kernel_rfl) (fun _ _ _ _ _ h => h) hHeld ?_
      refine held_slice 2 28 (.tmp 7) none (some (.const (.int .i64 16))) none (some 38) (.pointer (some ⟨gx, 0, none⟩)) none (some (.int .i64 16)) none (.slice (some ⟨gx, 0, none⟩) 16 64) (by kernel_rfl) (by kernel_rfl) (f1) (by kernel_rfl) (by kernel_rfl) (by kernel_rfl) (fun _ _ _ _ _ h => h) hHeld ?_
      refine held_move 3 (.tmp 8) (some 39) (.slice (some ⟨gw, 0, none⟩) 16 16) (by kernel_rfl) (by kernel_rfl) (by kernel_rfl) (by kernel_rfl) (by kernel_rfl) (fun _ _ _ _ _ h => h) hHeld ?_
      refine held_call 4 11 #[.tmp 38, .tmp 39] #[26, 26] (some 40) #[.slice (some ⟨gx, 0, none⟩) 16 64, .slice (some ⟨gw, 0, none⟩) 16 16] _ (by kernel_rfl) (by kernel_rfl) (by kernel_rfl) (by kernel_rfl) (q1 _ hHeld.2.2.2.2) ?_
      rintro e W9 ⟨rfl, m9, rfl⟩
      refine ⟨_, rfl, keep hHeld (Below.drewNr m9), fun hHeld => ?_⟩
      refine held_pick 5 (.tmp 37) (.tmp 40) (.const (.bool false)) (some 41) true (.bool true) (by kernel_rfl) (by kernel_rfl) (by kernel_rfl) (by kernel_rfl) (by kernel_rfl) (by kernel_rfl) (fun _ _ _ _ _ h => h) hHeld ?_
      refine held_move 6 (.tmp 41) (some 42) (.bool true) (by kernel_rfl) (by kernel_rfl) (by kernel_rfl) (by kernel_rfl) (by kernel_rfl) (fun _ _ _ _ _ h => h) hHeld ?_
      refine held_index 7 28 (.tmp 7) (.const (.int .i64 62)) (some 43) (.pointer (some ⟨gx, 0, none⟩)) (.int .i64 62) (.pointer (some ⟨gx, 62, none⟩)) (by kernel_rfl) (by kernel_rfl) (idx62 gx) (by kernel_rfl) (by kernel_rfl) (by kernel_rfl) (fun _ _ _ _ _ h => h) hHeld ?_
      refine held_cell 8 5 (.tmp 43) (some 44) (.pointer (some ⟨gx, 62, none⟩)) (.int .u8 60) (by kernel_rfl) (by kernel_rfl) (fun w h => load_u8 gx 62 _ w h.2.2.1) (by kernel_rfl) (by kernel_rfl) (by kernel_rfl) (fun _ _ _ _ _ h => h) hHeld ?_
      refine held_bin 9 .eql 5 (.tmp 44) (.const (.int .u8 60)) 5 (some 45) (.int .u8 60) (.int .u8 60) (.bool true) (by kernel_rfl) (by kernel_rfl) (eq_u8 5 (.tmp 44) (.const (.int .u8 60)) 60) (by kernel_rfl) (by kernel_rfl) (by kernel_rfl) (fun _ _ _ _ _ h => h) hHeld ?_
      refine held_pick 10 (.tmp 42) (.tmp 45) (.const (.bool false)) (some 46) true (.bool true) (by kernel_rfl) (by kernel_rfl) (by kernel_rfl) (by kernel_rfl) (by kernel_rfl) (by kernel_rfl) (fun _ _ _ _ _ h => h) hHeld ?_
      refine held_move 11 (.tmp 46) (some 47) (.bool true) (by kernel_rfl) (by kernel_rfl) (by kernel_rfl) (by kernel_rfl) (by kernel_rfl) (fun _ _ _ _ _ h => h) hHeld ?_
      refine held_index 12 28 (.tmp 7) (.const (.int .i64 63)) (some 48) (.pointer (some ⟨gx, 0, none⟩)) (.int .i64 63) (.pointer (some ⟨gx, 63, none⟩)) (by kernel_rfl) (by kernel_rfl) (idx63 gx) (by kernel_rfl) (by kernel_rfl) (by kernel_rfl) (fun _ _ _ _ _ h => h) hHeld ?_
      refine held_cell 13 5 (.tmp 48) (some 49) (.pointer (some ⟨gx, 63, none⟩)) (.int .u8 78) (by kernel_rfl) (by kernel_rfl) (fun w h => load_u8 gx 63 _ w h.2.2.2.1) (by kernel_rfl) (by kernel_rfl) (by kernel_rfl) (fun _ _ _ _ _ h => h) hHeld ?_
      refine held_bin 14 .eql 5 (.tmp 49) (.const (.int .u8 78)) 5 (some 50) (.int .u8 78) (.int .u8 78) (.bool true) (by kernel_rfl) (by kernel_rfl) (eq_u8 5 (.tmp 49) (.const (.int .u8 78)) 78) (by kernel_rfl) (by kernel_rfl) (by kernel_rfl) (fun _ _ _ _ _ h => h) hHeld ?_
      refine held_pick 15 (.tmp 47) (.tmp 50) (.const (.bool false)) (some 51) true (.bool true) (by kernel_rfl) (by kernel_rfl) (by kernel_rfl) (by kernel_rfl) (by kernel_rfl) (by kernel_rfl) (fun _ _ _ _ _ h => h) hHeld ?_
      refine held_move 16 (.tmp 51) (some 52) (.bool true) (by kernel_rfl) (by kernel_rfl) (by kernel_rfl) (by kernel_rfl) (by kernel_rfl) (fun _ _ _ _ _ h => h) hHeld ?_
      refine held_load 17 23 (.tmp 10) (some 53) go 0 K _ (by kernel_rfl) (by kernel_rfl) (fun w h => h.1) uK rfl iK (by kernel_rfl) (by kernel_rfl) (by kernel_rfl) (fun _ _ _ _ _ h => h) hHeld ?_
      refine held_load 18 25 (.tmp 6) (some 54) G 0 N _ (by kernel_rfl) (by kernel_rfl) (fun w h => h.2.1) uN rfl iN (by kernel_rfl) (by kernel_rfl) (by kernel_rfl) (fun _ _ _ _ _ h => h) hHeld ?_
      refine held_load 20 23 (.tmp 10) (some 56) go 0 K _ (by kernel_rfl) (by kernel_rfl) (fun w h => h.1) uK rfl iK (by kernel_rfl) (by kernel_rfl) (by kernel_rfl) (fun _ _ _ _ _ h => h) hHeld ?_
      refine held_load 21 25 (.tmp 6) (some 57) G 0 N _ (by kernel_rfl) (by kernel_rfl) (fun w h => h.2.1) uN rfl iN (by kernel_rfl) (by kernel_rfl) (by kernel_rfl) (fun _ _ _ _ _ h => h) hHeld ?_
      refine held_call 19 9 #[.tmp 53, .const (.int .u32 1), .tmp 54] #[23, 24, 25] (some 55) #[.agg K.toArray, .int .u32 1, .agg N.toArray] _ (by kernel_rfl) (by kernel_rfl) (by kernel_rfl) (by kernel_rfl) (hbk _) ?_
      rintro e W11 ⟨rfl, hb11⟩
      refine ⟨_, rfl, keep hHeld hb11, fun hHeld => ?_⟩
      refine held_call 22 10 #[.tmp 56, .const (.int .u32 1), .tmp 57] #[23, 24, 25] (some 58) #[.agg K.toArray, .int .u32 1, .agg N.toArray] _ (by kernel_rfl) (by kernel_rfl) (by kernel_rfl) (by kernel_rfl) (hrb _) ?_
      rintro e W12 ⟨rfl, hb12⟩
      refine ⟨_, rfl, keep hHeld hb12, fun hHeld => ?_⟩
      refine held_eql 23 28 (.tmp 55) (.tmp 58) 28 (some 59) Z Z true (by kernel_rfl) (by kernel_rfl) (by kernel_rfl) (by kernel_rfl) E1 (by kernel_rfl) (by kernel_rfl) (by kernel_rfl) (fun _ _ _ _ _ h => h) hHeld ?_
      refine held_pick 24 (.tmp 52) (.tmp 59) (.const (.bool false)) (some 60) true (.bool true) (by kernel_rfl) (by kernel_rfl) (by kernel_rfl) (by kernel_rfl) (by kernel_rfl) (by kernel_rfl) (fun _ _ _ _ _ h => h) hHeld ?_
      refine held_assign 25 (.tmp 60) (some 2) (.bool true) (by kernel_rfl) (by kernel_rfl) (by kernel_rfl) (by kernel_rfl) (by kernel_rfl) (fun _ _ _ _ _ h => h) hHeld ?_
      refine wpAnyH_done (by kernel_rfl) ?_ _
      refine NoPanic.normal ?_
      have hfin := hfinb.trans (hHeld.2.2.2.2.mono hfinb.size)
      clear hHeld keep q1 f1 hbk hrb E1 hb11 hb12 rK rN c62 c63
      simp only [Act.put, List.setIfInBounds_toArray, List.set_cons_zero, List.set_cons_succ]
      go_wp2_with fail
      go_ret
      exact ⟨rfl, hfin⟩
end Go.Proofs.Ytmkejgpdimdagaa
