import Derived.Test.YtpkajfkdandhoaaPyh
/-
  PolySums: its walk.
-/
namespace Go.Proofs.Ytpkajfkdandhoaa
open Go.RowKit

theorem a16_load {W : World} {b : Nat} {f : Nat → BitVec 8} (h : W.rowIs b 26 16 (fun i => v8 (f i))) : (Instr.loadAt 26 (.pointer (some ⟨b, 0, none⟩))).run Try.prog W = .ok (.agg (arr8 16 f)) W := by
  have := load_row (P := Try.prog) 26 b 0 (arr8 16 f).toList _ Try.underlying26 rfl (by simp only [Array.length_toList, arr8_size]; kernel_rfl) W (rangeAt_row h)
  simpa using this
theorem quiet_belowU {P : Program} {f : FuncId} {args : Array Value} {w : World} {v : Value} (h : Quiets P f args w v) : Calls P f args w fun e w' => e = .returned v ∧ Below w.heap.size w w' :=
  h.mono fun _ _ ⟨h1, m, h2⟩ => ⟨h1, by rw [h2]; exact Below.drewNr m⟩
theorem n8_wrapI (x : BitVec 8) : IntKind.i64.wrap (n8 x) = n64 x.toNat := by
  have := x.isLt
  rw [n8_64]
  unfold n64
  exact IntWalk.i64_in _ (by omega)
def halfX (key : Nat → BitVec 8) (k i : Nat) : BitVec 8 := if 16 ≤ i ∧ i < k then 0#8 else key i
def halfY (key : Nat → BitVec 8) (y : BitVec 8) (i : Nat) : BitVec 8 := if i = 16 then y else halfX key 32 i
def halfZ (key : Nat → BitVec 8) (k i : Nat) : BitVec 8 := if 16 ≤ i ∧ i < k then key i else 0#8
theorem keyR_congr {k1 k2 : Nat → BitVec 8} (h : ∀ i, i < 16 → k1 i = k2 i) : keyR k1 = keyR k2 := by
  unfold keyR
  exact num_congr 16 fun i hi => by dsimp only; rw [h i hi]
theorem acc_zero (bs : List (BitVec 8)) : ∀ n, acc 0 bs n = 0
  | 0 => rfl
  | n + 1 => by
    show (acc 0 bs n + _) * 0 % p5 = 0
    rw [Nat.mul_zero, Nat.zero_mod]
theorem dg_zero (t : Nat) : dg 0 t = 0 := by unfold dg; rw [Nat.zero_div, Nat.zero_mod]
theorem keyR_zero (k : Nat → BitVec 8) (h : ∀ i, i < 16 → k i = 0#8) : keyR k = 0 := by
  rw [keyR_congr (k2 := fun _ => 0#8) h]
  decide +kernel
/-- the tag's number without its second half -/
def accOf (key : Nat → BitVec 8) (bs : List (BitVec 8)) : Nat := acc (keyR key) bs ((bs.length + 15) / 16)
theorem polyX (key : Nat → BitVec 8) (bs : List (BitVec 8)) (t : Nat) (ht : t < 16) : polyB (halfX key 32) bs t = BitVec.ofNat 8 (dg (accOf key bs) t) := by
  unfold polyB tagB
  rw [keyR_congr (k2 := key) (fun i hi => by unfold halfX; rw [if_neg (by omega)])]
  rw [num_congr (f := tagF (acc (keyR key) bs ((bs.length + 15) / 16)) (halfX key 32)) (g := dg (accOf key bs)) 16 (fun i hi => by unfold tagF halfX accOf; rw [if_pos (by omega)]; simp)]
  rw [dg_num _ _ _ (fun i _ => dg_lt _ _) ht]
theorem polyY (key : Nat → BitVec 8) (y : BitVec 8) (bs : List (BitVec 8)) (t : Nat) : polyB (halfY key y) bs t = BitVec.ofNat 8 (dg (y.toNat + num (dg (accOf key bs)) 16) t) := by
  unfold polyB tagB
  rw [keyR_congr (k2 := key) (fun i hi => by unfold halfY halfX; rw [if_neg (by omega), if_neg (by omega)])]
  have e : num (tagF (acc (keyR key) bs ((bs.length + 15) / 16)) (halfY key y)) 16 = y.toNat + num (dg (accOf key bs)) 16 := by
    have h0 : num (fun t => if t = 0 then y.toNat else 0) 16 = y.toNat := by
      simp [num, sm]
    rw [num_congr (f := tagF (acc (keyR key) bs ((bs.length + 15) / 16)) (halfY key y)) (g := fun t => (if t = 0 then y.toNat else 0) + dg (accOf key bs) t) 16 (fun i hi => by
      unfold tagF halfY halfX accOf
      by_cases e : i = 0
      · rw [if_pos e, if_pos (by omega), Nat.add_comm]
      · rw [if_neg e, if_neg (by omega), if_pos (by omega)]; simp), num_add2, h0]
  rw [e]
theorem polyZ (key : Nat → BitVec 8) (bs : List (BitVec 8)) (t : Nat) (ht : t < 16) : polyB (halfZ key 32) bs t = key (16 + t) := by
  unfold polyB tagB
  rw [keyR_zero _ (fun i hi => by unfold halfZ; rw [if_neg (by omega)]), acc_zero]
  rw [num_congr (f := tagF 0 (halfZ key 32)) (g := fun t => (key (16 + t)).toNat) 16 (fun i hi => by unfold tagF halfZ; rw [if_pos (by omega), dg_zero, Nat.zero_add]), dg_num _ _ _ (fun i _ => (key (16 + i)).isLt) ht]
  simp
/-- the key, two keys more, and the rest -/
structure QS (w : World) (B D : Nat) (key fx fy : Nat → BitVec 8) (W : World) : Prop where
  k : W.rowIs B 23 32 (fun i => v8 (key i))
  x : W.rowIs D 23 32 (fun i => v8 (fx i))
  y : W.rowIs (D + 1) 23 32 (fun i => v8 (fy i))
  l : B < D
  b : Below B w W
theorem QS.next {w : World} {B D : Nat} {key fx fy : Nat → BitVec 8} {W W' : World} (h : QS w B D key fx fy W) (hb : Below W.heap.size W W') : QS w B D key fx fy W' :=
  ⟨h.k.of_block (hb.block _ h.k.lt), h.x.of_block (hb.block _ h.x.lt), h.y.of_block (hb.block _ h.y.lt), h.l, h.b.trans (hb.mono (Nat.le_of_lt h.k.lt))⟩
theorem QS.set {w : World} {B D : Nat} {key fx fy : Nat → BitVec 8} {W : World} (h : QS w B D key fx fy W) (g i : Nat) (v : Value) (hg : D + 1 < g) : QS w B D key fx fy (W.setCell ⟨g, i, none⟩ v) := by
  have hl := h.l
  exact ⟨h.k.setOther (a := ⟨g, i, none⟩) (by simp only; omega) _, h.x.setOther (a := ⟨g, i, none⟩) (by simp only; omega) _, h.y.setOther (a := ⟨g, i, none⟩) (by simp only; omega) _, hl, h.b.setCell (by simp only; omega) _⟩

set_option maxRecDepth 100000 in
set_option maxHeartbeats 3200000 in
theorem sums_walk (key : Nat → BitVec 8) (A : Option Addr) (bs : List (BitVec 8)) (cap : Nat) (y : BitVec 8) (w : World) (hS : SlRead w A (ints .u8 (bys bs))) (hcap : bs.length ≤ cap) :
    Calls Try.prog 5 #[.agg (arr8 32 key), .slice A bs.length cap, v8 y] w fun e w' => e = .returned (.bool true) ∧ Below w.heap.size w w' := by
  go_enter Try.func5, Try.ntmps5
  go_upto_region 1 with (fail)
  refine wp_world (fun W => W.rowIs w.heap.size 23 32 (fun i => v8 (key i)) ∧ Below w.heap.size w W) ?_ ?_
  · exact ⟨rowIs_new _ _ _ _ _ _ rfl (by simp) (fun i hi => arr8_get 32 key i hi), by go_grown⟩
  rintro W0 ⟨h1, h2⟩
  have HSR : Hid (∀ W', Below w.heap.size w W' → SlRead W' A (ints .u8 (bys bs))) := Lib.hid fun W' hb => hS.below hb
  generalize hB : w.heap.size = B at h1 h2 HSR ⊢
  have HB := Lib.hid hB; clear hB hS
  go_wp2_with fail
  refine (first_any W0).mono ?_
  rintro e W1 ⟨rfl, hb1⟩
  have g1 := h1.of_block (hb1.block _ h1.lt)
  have g2 : Below B w W1 := h2.trans (hb1.mono (Nat.le_of_lt h1.lt))
  clear h1 h2 hb1
  by_cases hlen : bs.length ≤ 100
  · have hk := rowIs_heap8 g1
    go_upto_region 7 with (first | (refine wpList_load_row rfl 23 _ rfl _ rfl _ _ _ _ hk Try.underlying23 rfl (by kernel_rfl) ?_) | (refine wpList_store_row rfl 23 _ _ rfl _ (arr8 32 key) rfl rfl _ _ (heap_alloc_new _ _) (by kernel_rfl) (by simp) (arr8_one _ _) ?_; rw [alloc_setRow]))
    have hD : B < W1.heap.size := g1.lt
    refine wp_world (fun V => V.rowIs B 23 32 (fun i => v8 (key i)) ∧ V.rowIs W1.heap.size 23 32 (fun i => v8 (key i)) ∧ Below B w V ∧ V.heap.size = W1.heap.size + 1) ?_ ?_
    · exact ⟨g1.alloc _, rowIs_new _ _ _ _ _ _ rfl (by simp) (fun i hi => arr8_get 32 key i hi), g2.alloc (by omega) _, by simp⟩
    clear g1 g2 hk
    generalize W1.heap.size = D at *
    rintro V ⟨g1, g3, g2, hsz⟩
    have HSZ := Lib.hid hsz; clear hsz
    have hk := rowIs_heap8 g1
    go_upto_region 8 with (first | (refine wpList_load_row rfl 23 _ rfl _ rfl _ _ _ _ hk Try.underlying23 rfl (by kernel_rfl) ?_) | (refine wpList_store_row rfl 23 _ _ rfl _ (arr8 32 key) rfl rfl _ _ (heap_alloc_new _ _) (by kernel_rfl) (by simp) (arr8_one _ _) ?_; rw [alloc_setRow]))
    refine wp_world (QS w B D key (halfX key 16) (halfX key 16)) ?_ ?_
    · have e : ∀ i, halfX key 16 i = key i := fun i => by unfold halfX; rw [if_neg (by omega)]
      refine ⟨g1.alloc _, (g3.alloc _).congr (fun i _ => by rw [e]), rowIs_new _ _ _ _ _ _ HSZ.out.symm (by simp) (fun i hi => by rw [e]; exact arr8_get 32 key i hi), hD, g2.alloc (by have := HSZ.out; omega) _⟩
    rw [HSZ.out]
    clear g1 g2 g3 hk HSZ V
    intro W2 hx
    go_wp2_with fail
    go_loopw [10] (fun i wr => ∃ k : Nat, 16 ≤ k ∧ k ≤ 32 ∧ i = .int .i64 k ∧ QS w B D key (halfX key k) (halfX key k) wr) (fun i _ => 32 - (intOf i).toNat)
    case atStart => exact ⟨16, by omega, by omega, rfl, hx⟩
    clear hx
    case round =>
      obtain ⟨k, hk16, hk, rfl, hx⟩ := hrel
      by_cases hlt : k < 32
      · have cx := hx.x.cell (i := k) hlt
        have cy := hx.y.cell (i := k) hlt
        have fx := hx.x.frozen k
        have fy := hx.y.frozen k
        have hst : ∀ i, (if i = k then .int .u8 0 else v8 (halfX key k i)) = v8 (halfX key (k + 1) i) := fun i => by
          unfold halfX
          by_cases e : i = k
          · rw [if_pos e, if_pos (by omega)]; rfl
          · rw [if_neg e]
            by_cases e2 : 16 ≤ i ∧ i < k
            · rw [if_pos e2, if_pos (by omega)]
            · rw [if_neg e2, if_neg (by omega)]
        have HX : Hid (QS w B D key (halfX key (k + 1)) (halfX key (k + 1)) ((wr.setCell ⟨D, k, none⟩ (.int .u8 0)).setCell ⟨D + 1, k, none⟩ (.int .u8 0))) := Lib.hid
          ⟨(hx.k.setOther (a := ⟨D, k, none⟩) (by simp only; omega) _).setOther (a := ⟨D + 1, k, none⟩) (by simp only; omega) _, ((hx.x.set k _).congr fun i _ => hst i).setOther (a := ⟨D + 1, k, none⟩) (by simp only; omega) _, ((hx.y.setOther (a := ⟨D, k, none⟩) (by simp only; omega) _).set k _).congr fun i _ => hst i, hD, (hx.b.setCell (by simp only; omega) _).setCell (by simp only; omega) _⟩
        clear hx hst
        go_wp2_with fail
        go_roundw
        case rel => exact ⟨k + 1, by omega, by omega, by go_num, HX.out⟩
        case measure => simp [intOf]; omega
      · have hk8 : k = 32 := by omega
        rw [hk8] at hx ⊢
        clear hk8 hlt hk hk16
        have cy := hx.y.cell (i := 16) (by omega)
        have fy := hx.y.frozen 16
        have HX : Hid (QS w B D key (halfX key 32) (halfY key y) (wr.setCell ⟨D + 1, 16, none⟩ (v8 y))) := Lib.hid
          ⟨hx.k.setOther (a := ⟨D + 1, 16, none⟩) (by simp only; omega) _, hx.x.setOther (a := ⟨D + 1, 16, none⟩) (by simp only; omega) _, (hx.y.set 16 _).congr fun i _ => by unfold halfY; split <;> rfl, hD, hx.b.setCell (by simp only; omega) _⟩
        clear hx
        go_upto_region 14 with (fail)
        have hx := HX.out
        generalize (wr.setCell ⟨D + 1, 16, none⟩ (v8 y)) = W3 at *
        clear HX cy fy
        have hX0 := rowIs_heap8 hx.x
        have hs := psum_any (halfX key 32) A bs cap W3 (HSR.out W3 hx.b) hcap (by omega)
        have HS := Lib.hid hs; clear hs
        go_wp2_with (refine wpList_load_row rfl 23 _ rfl _ rfl _ _ _ _ hX0 Try.underlying23 rfl (by kernel_rfl) ?_)
        refine HS.out.mono ?_
        rintro e W4 ⟨rfl, hb4⟩
        have hx4 := hx.next hb4
        clear hx hX0 HS hb4
        obtain ⟨P, hP⟩ : ∃ P, P = polyB (halfX key 32) bs := ⟨_, rfl⟩
        rw [← hP]
        have HP := Lib.hid hP; clear hP
        go_upto_region 15 with (first | (refine wpList_store_row rfl 26 _ _ rfl _ (arr8 16 P) rfl rfl _ _ (heap_alloc_new _ _) (by kernel_rfl) (by simp) (arr8_one _ _) ?_; rw [alloc_setRow]))
        have hx5 := hx4.next ((Below.refl _ _).alloc (Nat.le_refl _) (.cells (arr8 16 P) 26))
        have hs5 := rowIs_new W4 (arr8 16 P) 26 W4.heap.size 16 _ rfl (by simp) (fun i hi => arr8_get 16 P i hi)
        have hE : D + 1 < W4.heap.size := hx4.y.lt
        generalize W4.alloc (.cells (arr8 16 P) 26) = W5 at *
        generalize W4.heap.size = E at *
        clear hx4
        have hY0 := rowIs_heap8 hx5.y
        have hs := psum_any (halfY key y) A bs cap W5 (HSR.out W5 hx5.b) hcap (by omega)
        have HS := Lib.hid hs; clear hs
        go_wp2_with (refine wpList_load_row rfl 23 _ rfl _ rfl _ _ _ _ hY0 Try.underlying23 rfl (by kernel_rfl) ?_)
        refine HS.out.mono ?_
        rintro e W6 ⟨rfl, hb6⟩
        have hx6 := hx5.next hb6
        have hs6 := hs5.of_block (hb6.block _ hs5.lt)
        have hE6 : E < W6.heap.size := hs6.lt
        clear hx5 hY0 HS hb6 hs5
        obtain ⟨P2, hP2⟩ : ∃ P2, P2 = polyB (halfY key y) bs := ⟨_, rfl⟩
        rw [← hP2]
        have HP2 := Lib.hid hP2; clear hP2
        go_upto_region 16 with (first | (refine wpList_store_row rfl 26 _ _ rfl _ (arr8 16 P2) rfl rfl _ _ (heap_alloc_new _ _) (by kernel_rfl) (by simp) (arr8_one _ _) ?_; rw [alloc_setRow]))
        have hbA := ((Below.refl _ W6).alloc (Nat.le_refl _) (.cells (arr8 16 P2) 26))
        have hx7 := hx6.next hbA
        have hs7 := hs6.of_block (hbA.block _ hs6.lt)
        have ht7 := rowIs_new W6 (arr8 16 P2) 26 W6.heap.size 16 _ rfl (by simp) (fun i hi => arr8_get 16 P2 i hi)
        generalize W6.alloc (.cells (arr8 16 P2) 26) = W7 at *
        generalize W6.heap.size = E1 at *
        clear hx6 hs6 hbA
        have hw0 := n8_wrapI y
        obtain ⟨N, hN⟩ : ∃ N, N = accOf key bs := ⟨_, rfl⟩
        have HPX : Hid (∀ t, t < 16 → P t = BitVec.ofNat 8 (dg N t)) := Lib.hid fun t ht => by rw [HP.out, hN]; exact polyX key bs t ht
        have HPY : Hid (∀ t, P2 t = BitVec.ofNat 8 (dg (y.toNat + num (dg N) 16) t)) := Lib.hid fun t => by rw [HP2.out, hN]; exact polyY key y bs t
        have hc0 := y.isLt
        obtain ⟨c0, hc⟩ : ∃ c0, c0 = y.toNat := ⟨_, rfl⟩
        rw [← hc] at HPY hw0 hc0
        clear hN hc HP HP2
        go_wp2_with fail
        go_loopw [13, 14] (fun u i wr => ∃ k : Nat, k ≤ 16 ∧ i = .int .i64 k ∧ u = .int .i64 (n64 ((c0 + num (dg N) k) / 256 ^ k)) ∧ QS w B D key (halfX key 32) (halfY key y) wr ∧ wr.rowIs E 26 16 (fun t => v8 (if t < k then P2 t else P t)) ∧ wr.rowIs E1 26 16 (fun t => v8 (P2 t))) (fun _ i _ => 16 - (intOf i).toNat)
        case atStart => exact ⟨0, by omega, rfl, by simp [num, sm], hx7, hs7.congr (fun i _ => by simp), ht7⟩
        clear hx7 hs7 ht7
        case round =>
          obtain ⟨k, hk, rfl, rfl, hx, hs, ht⟩ := hrel
          by_cases hlt : k < 16
          · have cs := hs.cell (i := k) hlt
            have fs := hs.frozen k
            rw [if_neg (Nat.lt_irrefl k)] at cs
            obtain ⟨c1, c2⟩ := carry_in c0 (dg N) k
            have c3 := in_le c0 (dg N) 255 k (fun i _ => by have := dg_lt N i; omega)
            have hdl := dg_lt N k
            have hpk : (P k).toNat = dg N k := by rw [HPX.out k hlt]; simp; omega
            have e1 := n8_wrapI (P k)
            rw [hpk] at e1
            obtain ⟨u, hu⟩ : ∃ u, u = (c0 + num (dg N) k) / 256 ^ k := ⟨_, rfl⟩
            rw [← hu] at c1 c2 c3 ⊢
            have a1 : n64 u + n64 (dg N k) = n64 (u + dg N k) := by unfold n64; omega
            have a1w : IntKind.i64.wrap (n64 u + n64 (dg N k)) = n64 (u + dg N k) := by rw [a1]; unfold n64; exact IntWalk.i64_in _ (by omega)
            have a2 := wrap8 (u + dg N k)
            have a3 := n64_shr8 (u + dg N k)
            have hb : BitVec.ofNat 8 (u + dg N k) = P2 k := by
              rw [HPY.out k, in_later c0 (dg N) k 16 (by omega), ← c2]
              apply BitVec.eq_of_toNat_eq
              simp
            rw [hb] at a2
            have HC1 := Lib.hid c1
            have HX := Lib.hid (hx.set E k (v8 (P2 k)) hE)
            have HSS : Hid ((wr.setCell ⟨E, k, none⟩ (v8 (P2 k))).rowIs E 26 16 (fun t => v8 (if t < k + 1 then P2 t else P t))) := Lib.hid ((hs.set k _).congr fun i _ => by
              by_cases e : i = k
              · rw [if_pos e, if_pos (by omega), e]
              · rw [if_neg e]
                by_cases e2 : i < k
                · rw [if_pos e2, if_pos (by omega)]
                · rw [if_neg e2, if_neg (by omega)])
            have HT := Lib.hid (ht.setOther (a := ⟨E, k, none⟩) (by simp only; omega) (v8 (P2 k)))
            clear hx hs ht hu c1 c2 c3 hpk hb hdl a1
            generalize dg N k = d at *
            go_wp2_with fail
            go_roundw
            case rel => exact ⟨k + 1, by omega, by go_num, by rw [← HC1.out], HX.out, HSS.out, HT.out⟩
            case measure => simp [intOf]; omega
          · have hk8 : k = 16 := by omega
            rw [hk8] at hs ⊢
            clear hk8 hlt hk
            have hs : wr.rowIs E 26 16 (fun t => v8 (P2 t)) := hs.congr fun i hi => by rw [if_pos hi]
            have hE1 : E < E1 := hE6
            go_upto_region 24 with (fail)
            have hbA := (Below.refl _ wr).alloc (Nat.le_refl _) (.cells (Array.replicate 32 (.int .u8 0)) 23)
            refine wp_world (fun V => QS w B D key (halfX key 32) (halfY key y) V ∧ V.rowIs E 26 16 (fun t => v8 (P2 t)) ∧ V.rowIs E1 26 16 (fun t => v8 (P2 t)) ∧ V.rowIs wr.heap.size 23 32 (fun i => v8 (halfZ key 16 i))) ?_ ?_
            · refine ⟨hx.next hbA, hs.of_block (hbA.block _ hs.lt), ht.of_block (hbA.block _ ht.lt), rowIs_new _ _ _ _ _ _ rfl (by rfl) (fun i hi => ?_)⟩
              rw [show halfZ key 16 i = 0#8 by unfold halfZ; rw [if_neg (by omega)]]
              rcases i with _ | _ | _ | _ | _ | _ | _ | _ | _ | _ | _ | _ | _ | _ | _ | _ | _ | _ | _ | _ | _ | _ | _ | _ | _ | _ | _ | _ | _ | _ | _ | _ | i
              all_goals first | rfl | omega
            have hG : E1 < wr.heap.size := ht.lt
            clear hx hs ht hbA
            generalize wr.heap.size = G at *
            rintro V ⟨hx, hs, ht, hz⟩
            go_wp2_with fail
            go_loopw [16] (fun i wr => ∃ k : Nat, 16 ≤ k ∧ k ≤ 32 ∧ i = .int .i64 k ∧ QS w B D key (halfX key 32) (halfY key y) wr ∧ wr.rowIs E 26 16 (fun t => v8 (P2 t)) ∧ wr.rowIs E1 26 16 (fun t => v8 (P2 t)) ∧ wr.rowIs G 23 32 (fun i => v8 (halfZ key k i))) (fun i _ => 32 - (intOf i).toNat)
            case atStart => exact ⟨16, by omega, by omega, rfl, hx, hs, ht, hz⟩
            clear hx hs ht hz
            case round =>
              obtain ⟨k, hk16, hk, rfl, hx, hs, ht, hz⟩ := hrel
              by_cases hlt : k < 32
              · have ck := hx.k.cell (i := k) hlt
                have cz := hz.cell (i := k) hlt
                have fz := hz.frozen k
                have HX := Lib.hid (hx.set G k (v8 (key k)) (by omega))
                have HSS := Lib.hid (hs.setOther (a := ⟨G, k, none⟩) (by simp only; omega) (v8 (key k)))
                have HT := Lib.hid (ht.setOther (a := ⟨G, k, none⟩) (by simp only; omega) (v8 (key k)))
                have HZ : Hid ((wr.setCell ⟨G, k, none⟩ (v8 (key k))).rowIs G 23 32 (fun i => v8 (halfZ key (k + 1) i))) := Lib.hid ((hz.set k _).congr fun i _ => by
                  unfold halfZ
                  by_cases e : i = k
                  · rw [if_pos e, if_pos (by omega), e]
                  · rw [if_neg e]
                    by_cases e2 : 16 ≤ i ∧ i < k
                    · rw [if_pos e2, if_pos (by omega)]
                    · rw [if_neg e2, if_neg (by omega)])
                clear hx hs ht hz
                go_wp2_with fail
                go_roundw
                case rel => exact ⟨k + 1, by omega, by omega, by go_num, HX.out, HSS.out, HT.out, HZ.out⟩
                case measure => simp [intOf]; omega
              · have hk8 : k = 32 := by omega
                rw [hk8] at hz ⊢
                clear hk8 hlt hk hk16
                have hz0 := rowIs_heap8 hz
                have hs' := psum_any (halfZ key 32) A bs cap wr (HSR.out wr hx.b) hcap (by omega)
                have HS := Lib.hid hs'; clear hs'
                go_wp2_with (refine wpList_load_row rfl 23 _ rfl _ rfl _ _ _ _ hz0 Try.underlying23 rfl (by kernel_rfl) ?_)
                refine HS.out.mono ?_
                rintro e W8 ⟨rfl, hb8⟩
                have hx8 := hx.next hb8
                have hs8 := hs.of_block (hb8.block _ hs.lt)
                have ht8 := ht.of_block (hb8.block _ ht.lt)
                clear hx hs ht hz hz0 HS hb8
                obtain ⟨P3, hP3⟩ : ∃ P3, P3 = polyB (halfZ key 32) bs := ⟨_, rfl⟩
                rw [← hP3]
                have HPZ : Hid (∀ t, t < 16 → P3 t = key (16 + t)) := Lib.hid fun t ht => by rw [hP3]; exact polyZ key bs t ht
                clear hP3
                go_upto_region 29 with (first | (refine wpList_store_row rfl 26 _ _ rfl _ (arr8 16 P3) rfl rfl _ _ (heap_alloc_new _ _) (by kernel_rfl) (by simp) (arr8_one _ _) ?_; rw [alloc_setRow]))
                have hbA := ((Below.refl _ W8).alloc (Nat.le_refl _) (.cells (arr8 16 P3) 26))
                have hx9 := hx8.next hbA
                have hs9 := hs8.of_block (hbA.block _ hs8.lt)
                have ht9 := ht8.of_block (hbA.block _ ht8.lt)
                have hw9 := rowIs_new W8 (arr8 16 P3) 26 W8.heap.size 16 _ rfl (by simp) (fun i hi => arr8_get 16 P3 i hi)
                generalize W8.alloc (.cells (arr8 16 P3) 26) = W9 at *
                generalize W8.heap.size = E3 at *
                clear hx8 hs8 ht8 hbA
                have hbd : ∀ w', Below W9.drew.heap.size W9.drew w' → QS w B D key (halfX key 32) (halfY key y) w' := fun w' hb => hx9.next ((Below.drewNr (w := W9) 1).trans hb)
                have HA : ∀ w', Below W9.drew.heap.size W9.drew w' → w'.rowIs E 26 16 (fun i => v8 (P2 i)) := fun w' hb => hs9.of_block (hb.block _ hs9.lt)
                have HB2 : ∀ w', Below W9.drew.heap.size W9.drew w' → w'.rowIs E1 26 16 (fun i => v8 (P2 i)) := fun w' hb => ht9.of_block (hb.block _ ht9.lt)
                have HSB : ∀ w', Below W9.drew.heap.size W9.drew w' → Calls Try.prog 13 #[.slice (some ⟨E3, 0, none⟩) 16 16, .slice (some ⟨B, 16, none⟩) 16 16] w' fun e w'' => e = .returned (.bool true) ∧ Below w'.heap.size w' w'' := fun w' hb => by
                  have r1 : SlRead w' (some ⟨E3, 0, none⟩) (ints .u8 (bys (lst 16 P3))) := slread_row (hw9.of_block (hb.block _ hw9.lt))
                  have r2 : SlRead w' (some ⟨B, 16, none⟩) (ints .u8 (bys (lst 16 P3))) := by
                    intro _
                    refine ⟨B, 16, rfl, (hbd w' hb).k.lt, fun j u hj => ?_⟩
                    rw [bys_ints] at hj
                    have hjn : j < 16 := by
                      have := (List.getElem?_eq_some_iff.1 hj).1
                      simpa using this
                    rw [(hbd w' hb).k.cell (i := 16 + j) (by omega), ← hj]
                    simp [lst, hjn, HPZ.out j hjn]
                  have h := quiet_belowU (sameBytes_any (some ⟨E3, 0, none⟩) (some ⟨B, 16, none⟩) (bys (lst 16 P3)) (bys (lst 16 P3)) 16 16 w' r1 r2 (by simp) (by simp))
                  simpa using h
                generalize hPg : P2 = P at *
                clear hs9 ht9 hw9 hPg
                refine wp_region_spec_v [Sp.k 0 (some 73) [] (.bool true),
                  Sp.k 1 (some 74) [0] (.bool true),
                  Sp.k 2 (some 75) [1] (.agg (arr8 16 P)),
                  Sp.k 3 (some 76) [1] (.agg (arr8 16 P)),
                  Sp.k 4 (some 77) [1, 2, 3] (.bool true),
                  Sp.k 5 (some 78) [1, 4] (.bool true),
                  Sp.k 6 (some 79) [5] (.bool true),
                  Sp.k 7 (some 80) [6] (.slice (some ⟨E3, 0, none⟩) 16 16),
                  Sp.k 8 (some 81) [6] (.slice (some ⟨B, 16, none⟩) 16 16),
                  Sp.k 9 (some 82) [6, 7, 8] (.bool true),
                  Sp.k 10 (some 83) [6, 9] (.bool true),
                  Sp.k 11 (some 6) [10] (.bool true)] (by kernel_rfl) (by kernel_rfl)
                  ⟨owes_move 0 (some 73) [] (.bool true) (Go.Operand.tmp 7) (fun v => by kernel_rfl) (fun v => by kernel_rfl),
                  owes_move 1 (some 74) [0] (.bool true) (Go.Operand.tmp 73) (fun v => by kernel_rfl) (fun v => by kernel_rfl),
                  owes_load 2 (some 75) [1] (.agg (arr8 16 P)) 26 (Go.Operand.tmp 11) (.pointer (some ⟨E, 0, none⟩)) (fun v => by kernel_rfl) (fun v => by kernel_rfl) (fun w' hb => a16_load (HA w' hb)),
                  owes_load 3 (some 76) [1] (.agg (arr8 16 P)) 26 (Go.Operand.tmp 12) (.pointer (some ⟨E1, 0, none⟩)) (fun v => by kernel_rfl) (fun v => by kernel_rfl) (fun w' hb => a16_load (HB2 w' hb)),
                  owes_eql 4 (some 77) [1, 2, 3] 26 (Go.Operand.tmp 75) (Go.Operand.tmp 76) 26 (arr8 16 P) (arr8 16 P) true (fun v => by kernel_rfl) (fun v => by kernel_rfl) (by kernel_rfl) (equal16 P),
                  owes_pick 5 (some 78) [1, 4] (.bool true) (Go.Operand.tmp 74) (Go.Operand.tmp 77) (Go.Operand.const (Go.Value.bool false)) true (fun v => by kernel_rfl) (fun v => by kernel_rfl) (fun v => by kernel_rfl),
                  owes_move 6 (some 79) [5] (.bool true) (Go.Operand.tmp 78) (fun v => by kernel_rfl) (fun v => by kernel_rfl),
                  owes_slice 7 (some 80) [6] (.slice (some ⟨E3, 0, none⟩) 16 16) 26 (Go.Operand.tmp 17) none none none (.pointer (some ⟨E3, 0, none⟩)) none none none (fun v => by kernel_rfl) (fun v => by kernel_rfl) (fun w => sliceAt_all (P := Try.prog) 16 Try.underlying26 (show (Try.prog.info? 5).map (·.size) = some 1 by kernel_rfl) E3 (by omega) w),
                  owes_slice 8 (some 81) [6] (.slice (some ⟨B, 16, none⟩) 16 16) 23 (Go.Operand.tmp 3) (some (Go.Operand.const (Go.Value.int Go.IntKind.i64 16))) none none (.pointer (some ⟨B, 0, none⟩)) (some (Go.Value.int Go.IntKind.i64 16)) none none (fun v => by kernel_rfl) (fun v => by kernel_rfl) (fun w => slice_arr_l (P := Try.prog) Try.underlying23 (show (Try.prog.info? 5).map (·.size) = some 1 by kernel_rfl) B .i64 16 (by omega) (by omega) w),
                  owes_call 9 (some 82) [6, 7, 8] (.bool true) 13 #[Go.Operand.tmp 80, Go.Operand.tmp 81] #[24, 24] (fun v => by kernel_rfl) (fun _ _ => by kernel_rfl) (fun v w' hb ho => by
                      exact ⟨#[.slice (some ⟨E3, 0, none⟩) 16 16, .slice (some ⟨B, 16, none⟩) 16 16], by kernel_rfl, (HSB w' hb).mono (fun _ _ h => h)⟩),
                  owes_pick 10 (some 83) [6, 9] (.bool true) (Go.Operand.tmp 79) (Go.Operand.tmp 82) (Go.Operand.const (Go.Value.bool false)) true (fun v => by kernel_rfl) (fun v => by kernel_rfl) (fun v => by kernel_rfl),
                  owes_assign 11 (some 6) [10] (.bool true) (Go.Operand.tmp 83) (fun v => by kernel_rfl) (fun v => by kernel_rfl), trivial⟩ ?_
                intro v w' A' hAc hb hall
                have hbe := (hbd w' hb).b
                have h8 : A'.tmps.getD 6 undef = .bool true := by rw [hAc]; kernel_rfl
                have hd8 : A'.defers = [] := by rw [hAc]; kernel_rfl
                clear hall HA HB2 HSB hb hAc hbd hx9
                go_wp2_with fail
                rw [HB.out]
                exact ret_slot 6 rfl h8 hd8 ⟨rfl, hbe⟩
  · go_wp2_with fail
    go_ret
    rw [HB.out]
    exact ⟨rfl, g2⟩
end Go.Proofs.Ytpkajfkdandhoaa
