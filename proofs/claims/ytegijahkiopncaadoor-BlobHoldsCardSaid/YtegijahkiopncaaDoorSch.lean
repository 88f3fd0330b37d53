import Derived.Test.YtegijahkiopncaaDoorAr
namespace Go.Proofs.YtegijahkiopncaaDoor
open Go.RowKit

def sm_s (x : BitVec 32) : BitVec 32 := x.rotateRight 7 ^^^ x.rotateRight 18 ^^^ x >>> 3
def sm_t (x : BitVec 32) : BitVec 32 := x.rotateRight 17 ^^^ x.rotateRight 19 ^^^ x >>> 10
def updw (s : Nat → BitVec 32) (i : Nat) (x : BitVec 32) : Nat → BitVec 32 := fun j => if j = i then x else s j
def w16 (m : Nat → BitVec 8) : Nat → Nat → BitVec 32
  | 0 => fun _ => 0#32
  | k + 1 => updw (w16 m k) k (wordB (m (4 * k)) (m (4 * k + 1)) (m (4 * k + 2)) (m (4 * k + 3)))
def w64 (s : Nat → BitVec 32) : Nat → Nat → BitVec 32
  | 0 => s
  | k + 1 => updw (w64 s k) (16 + k) (w64 s k k + sm_s (w64 s k (k + 1)) + w64 s k (k + 9) + sm_t (w64 s k (k + 14)))
def sched (m : Nat → BitVec 8) : Nat → BitVec 32 := w64 (w16 m 16) 48

abbrev Ws (w : World) (b : Nat) (s : Nat → BitVec 32) : Prop := w.rowIs b 88 64 (fun i => v32 (s i))
theorem Ws.put {w : World} {b : Nat} {s : Nat → BitVec 32} (h : Ws w b s) (i : Nat) (x : BitVec 32) : Ws (w.setCell ⟨b, i, none⟩ (v32 x)) b (updw s i x) := by
  refine (h.set i _).congr fun j _ => ?_
  unfold updw
  split <;> simp [*]

set_option maxRecDepth 100000 in
set_option maxHeartbeats 1600000 in
theorem schedule_any (hb : Nat) (m : Nat → BitVec 8) (w : World) (hm : ∀ i, i < 64 → w.cell? ⟨hb, 8 + i, none⟩ = some (v8 (m i))) (hlt : hb < w.heap.size) :
    Calls Tryd.prog 53 #[.pointer (some ⟨hb, 0, none⟩)] w fun e w' => e = .returned (.agg (arr32 64 (sched m))) ∧ Below w.heap.size w w' := by
  go_enter Tryd.func53, Tryd.ntmps53
  go_upto_region 2 with (fail)
  refine wp_world (fun W => Below w.heap.size w W ∧ W.rowIs w.heap.size 88 64 (fun _ => .int .u32 0) ∧ Ws W (w.heap.size + 1) (w16 m 0)) ⟨by go_grown, (rowIs_new _ _ _ _ _ _ (by simp) (by rfl) (fun i hi => (by simp [hi] : (Array.replicate 64 (Value.int IntKind.u32 0))[i]? = some (.int .u32 0)))).alloc _, rowIs_new _ _ _ _ _ _ (by simp) (by rfl) (fun i hi => (by simp [hi, w16, n32] : (Array.replicate 64 (Value.int IntKind.u32 0))[i]? = some (v32 (w16 m 0 i))))⟩ ?_
  rintro W ⟨hb0, hr0, hw0⟩
  generalize hB : w.heap.size = B at *
  have HB := Lib.hid hB; clear hB
  go_wp2_with fail
  go_loopw [11] (fun i wr => ∃ k : Nat, k ≤ 16 ∧ i = .int .i64 k ∧ Below B w wr ∧ wr.rowIs B 88 64 (fun _ => .int .u32 0) ∧ Ws wr (B + 1) (w16 m k)) (fun i _ => 16 - (intOf i).toNat)
  case atStart => exact ⟨0, by omega, rfl, hb0, hr0, hw0⟩
  clear hb0 hr0 hw0
  case round =>
    obtain ⟨k, hk, rfl, hbl, hr, hw⟩ := hrel
    by_cases hlt2 : k < 16
    · have cc : ∀ i, i < 64 → wr.cell? ⟨hb, 8 + i, none⟩ = some (v8 (m i)) := fun i hi => by rw [World.cell?_of_block (hbl.block hb hlt)]; exact hm i hi
      have c0 := cc (4 * k) (by omega)
      have c1 := cc (4 * k + 1) (by omega)
      have c2 := cc (4 * k + 2) (by omega)
      have c3 := cc (4 * k + 3) (by omega)
      rw [← Nat.add_assoc] at c1 c2 c3
      clear cc
      have hsl := slice_mid_lh (P := Tryd.prog) Tryd.underlying81 (show (Tryd.prog.info? 5).map (·.size) = some 1 by kernel_rfl) hb 8 .i64 .i64 (4 * (k : Int)) (4 * (k : Int) + 4) (by omega) (by omega) (by omega) (by omega)
      rw [show (4 * (k : Int)).toNat = 4 * k by omega, show (4 * (k : Int) + 4).toNat = 4 * k + 4 by omega, show 4 * k + 4 - 4 * k = 4 by omega] at hsl
      have cw := hw.cell (i := k) (by omega)
      have fw := hw.frozen k
      have hw1 : Ws _ (B + 1) (w16 m (k + 1)) := hw.put k (wordB (m (4 * k)) (m (4 * k + 1)) (m (4 * k + 2)) (m (4 * k + 3)))
      have hr1 : World.rowIs _ B 88 64 _ := hr.setOther (a := ⟨B + 1, k, none⟩) (by simp only; omega) (v32 (wordB (m (4 * k)) (m (4 * k + 1)) (m (4 * k + 2)) (m (4 * k + 3))))
      have hb1 : Below B w (wr.setCell ⟨B + 1, k, none⟩ (v32 (wordB (m (4 * k)) (m (4 * k + 1)) (m (4 * k + 2)) (m (4 * k + 3))))) := hbl.setCell (by simp only; omega) _
      clear hw hr hbl
      generalize m (4 * k) = x at *
      generalize m (4 * k + 1) = y at *
      generalize m (4 * k + 2) = z at *
      generalize m (4 * k + 3) = u at *
      have s1 := n8_shl24 x
      have s2 := n8_shl16 y
      have s3 := n8_shl8 z
      have b0 := n8_hi x
      have b1 := n8_hi y
      have b2 := n8_hi z
      have b3 := n8_hi u
      have l0 := n8_lo x
      have l1 := n8_lo y
      have l2 := n8_lo z
      have l3 := n8_lo u
      have o1 := n32_or (x.setWidth 32 <<< 24) (y.setWidth 32 <<< 16)
      have o2 := n32_or (x.setWidth 32 <<< 24 ||| y.setWidth 32 <<< 16) (z.setWidth 32 <<< 8)
      have o3 := n32_or (x.setWidth 32 <<< 24 ||| y.setWidth 32 <<< 16 ||| z.setWidth 32 <<< 8) (u.setWidth 32)
      rw [show x.setWidth 32 <<< 24 ||| y.setWidth 32 <<< 16 ||| z.setWidth 32 <<< 8 ||| u.setWidth 32 = wordB x y z u from rfl] at o3
      go_wp2_with fail
      go_region
      go_wp2_with fail
      go_roundw
      case rel => exact ⟨k + 1, by omega, by go_num, hb1.drew, hr1, hw1⟩
      case measure => simp [intOf]; omega
    · have hdk : decide ((k : Int) < 16) = false := by simp; omega
      have hk16 : k = 16 := by omega
      rw [hk16] at hw
      clear hk16
      go_wp2_with fail
      go_loopw [6] (fun i wr => ∃ k : Nat, k ≤ 48 ∧ i = .int .i64 ((16 + k : Nat) : Int) ∧ Below B w wr ∧ wr.rowIs B 88 64 (fun _ => .int .u32 0) ∧ Ws wr (B + 1) (w64 (w16 m 16) k)) (fun i _ => 64 - (intOf i).toNat)
      case atStart => exact ⟨0, by omega, rfl, hbl, hr, hw⟩
      clear hbl hr hw
      case round =>
        obtain ⟨j, hj, rfl, hbl, hr, hw⟩ := hrel
        by_cases hlt3 : j < 48
        · have h15 : ((16 + j : Nat) : Int) - 15 = ((j + 1 : Nat) : Int) := by omega
          have h2 : ((16 + j : Nat) : Int) - 2 = ((j + 14 : Nat) : Int) := by omega
          have h16 : ((16 + j : Nat) : Int) - 16 = (j : Int) := by omega
          have h7 : ((16 + j : Nat) : Int) - 7 = ((j + 9 : Nat) : Int) := by omega
          have hput := Ws.put hw (16 + j) (w64 (w16 m 16) j j + sm_s (w64 (w16 m 16) j (j + 1)) + w64 (w16 m 16) j (j + 9) + sm_t (w64 (w16 m 16) j (j + 14)))
          have hE : updw (w64 (w16 m 16) j) (16 + j) (w64 (w16 m 16) j j + sm_s (w64 (w16 m 16) j (j + 1)) + w64 (w16 m 16) j (j + 9) + sm_t (w64 (w16 m 16) j (j + 14))) = w64 (w16 m 16) (j + 1) := rfl
          generalize w64 (w16 m 16) j = S at *
          have c1 := hw.cell (i := j + 1) (by omega)
          have c14 := hw.cell (i := j + 14) (by omega)
          have c0 := hw.cell (i := j) (by omega)
          have c9 := hw.cell (i := j + 9) (by omega)
          generalize hn : 16 + j = n at *
          have hn0 : (0 : Int) ≤ (n : Int) := by omega
          have hn1 : (n : Int) < 64 := by omega
          generalize hp1 : j + 1 = p1 at *
          generalize hp14 : j + 14 = p14 at *
          generalize hp9 : j + 9 = p9 at *
          have HE := Lib.hid hE; clear hE
          have e1 : (p1 : Int) < 64 := by omega
          have e14 : (p14 : Int) < 64 := by omega
          have e9 : (p9 : Int) < 64 := by omega
          have e0 : (j : Int) < 64 := by omega
          go_wp2_with fail
          go_quiet (fail)
          have x1 := n32_xor ((S p1).rotateRight 7) ((S p1).rotateRight 18)
          have x2 := n32_xor ((S p1).rotateRight 7 ^^^ (S p1).rotateRight 18) (S p1 >>> 3)
          rw [show (S p1).rotateRight 7 ^^^ (S p1).rotateRight 18 ^^^ S p1 >>> 3 = sm_s (S p1) from rfl] at x2
          have x3 : n32 (S p1) / (8 : Int) = n32 (S p1 >>> 3) := n32_shr (S p1) 3
          have y1 := n32_xor ((S p14).rotateRight 17) ((S p14).rotateRight 19)
          have y2 := n32_xor ((S p14).rotateRight 17 ^^^ (S p14).rotateRight 19) (S p14 >>> 10)
          rw [show (S p14).rotateRight 17 ^^^ (S p14).rotateRight 19 ^^^ S p14 >>> 10 = sm_t (S p14) from rfl] at y2
          have y3 : n32 (S p14) / (1024 : Int) = n32 (S p14 >>> 10) := n32_shr (S p14) 10
          go_wp2_with fail
          go_at_call 55
          refine (rr_7 _ _).mono ?_; rintro e w1 ⟨rfl, rfl⟩
          go_wp2_with fail
          go_at_call 55
          refine (rr_18 _ _).mono ?_; rintro e w1 ⟨rfl, rfl⟩
          go_wp2_with fail
          go_at_call 55
          refine (rr_17 _ _).mono ?_; rintro e w1 ⟨rfl, rfl⟩
          go_wp2_with fail
          go_at_call 55
          refine (rr_19 _ _).mono ?_; rintro e w1 ⟨rfl, rfl⟩
          go_wp2_with fail
          clear x1 x2 x3 y1 y2 y3
          have a1 := n32_add (S j) (sm_s (S p1))
          have a2 := n32_add (S j + sm_s (S p1)) (S p9)
          have a3 := n32_add (S j + sm_s (S p1) + S p9) (sm_t (S p14))
          have hr1 := hr.setOther (a := ⟨B + 1, n, none⟩) (by simp only; omega) (v32 (S j + sm_s (S p1) + S p9 + sm_t (S p14)))
          have hb1 : Below B w (wr.setCell ⟨B + 1, n, none⟩ (v32 (S j + sm_s (S p1) + S p9 + sm_t (S p14)))) := hbl.setCell (by simp only; omega) _
          have fn := hw.frozen n
          have fo := hw.cell (i := n) (by omega)
          clear hw hr hbl
          go_region
          go_wp2_with fail
          go_roundw
          case rel =>
            refine ⟨p1, by omega, by congr 1; omega, ?_, hr1, by rw [← HE.out]; exact hput⟩
            first | exact hb1.drew | exact hb1.trans (Below.drewNr _)
          case measure => simp [intOf]; omega
        · have hdk2 : decide (((16 + j : Nat) : Int) < 64) = false := by simp; omega
          have hj48 : j = 48 := by omega
          subst hj48
          rw [show w64 (w16 m 16) 48 = sched m from rfl] at hw
          have hh := rowIs_heap32 hw
          obtain ⟨old, hr1, hr2, _⟩ := hr
          generalize hz : sched m = z at *
          have HZ := Lib.hid hz; clear hz
          have hbb := below_setRow (g := B) hbl (by omega) (arr32 64 z)
          have hres : (wr.setRow B (arr32 64 z)).heap[B]? = some (.cells (arr32 64 z) 88 (0, 0)) := setRow_heap _ _ _ _ _ _ hr1
          go_wp2_with (first | (refine wpList_load_row rfl 88 _ rfl _ rfl _ _ _ _ hh Tryd.underlying88 rfl (by kernel_rfl) ?_) | (refine wpList_store_row rfl 88 _ _ rfl _ _ rfl rfl _ _ hr1 (by kernel_rfl) (by simpa using hr2) (arr32_one _ _) ?_))
          refine bodyPost_ret (results_cell_row rfl _ _ _ _ _ _ _ rfl hres Tryd.underlying88 rfl (by kernel_rfl)) rfl ?_
          rw [HZ.out, HB.out]
          exact ⟨rfl, hbb⟩
end Go.Proofs.YtegijahkiopncaaDoor
