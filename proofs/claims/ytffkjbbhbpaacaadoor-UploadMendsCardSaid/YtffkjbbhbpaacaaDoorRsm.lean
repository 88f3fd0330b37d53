import Derived.Test.YtffkjbbhbpaacaaDoorPads
import Derived.StillTailTactics
/-
  
  
-/
namespace Go.Proofs.YtffkjbbhbpaacaaDoor
open Go.RowKit

/-- what the document's round keeps while it goes: the state that came in, the result's cell, the numbers, the words -/
structure RdAt (w : World) (B C : Nat) (h : Nat → BitVec 32) (W' : Nat → BitVec 32) (wr : World) : Prop where
  h : wr.rowIs B 86 8 (fun i => v32 (h i))
  r : wr.rowIs (B + 1) 86 8 (fun _ => .int .u32 0)
  k : wr.rowIs C 119 64 (fun i => v32 (kR i))
  ws : wr.rowIs (C + 1) 119 64 (fun i => v32 (W' i))
  b : Below B w wr
  c : B + 1 < C
theorem RdAt.put {w : World} {B C : Nat} {h W' : Nat → BitVec 32} {wr : World} (hh : RdAt w B C h W' wr) (i : Nat) (x : BitVec 32) : RdAt w B C h (updw W' i x) (wr.setCell ⟨C + 1, i, none⟩ (v32 x)) := by
  have hc := hh.c
  refine ⟨hh.h.setOther (a := ⟨C + 1, i, none⟩) (by simp only; omega) _, hh.r.setOther (a := ⟨C + 1, i, none⟩) (by simp only; omega) _, hh.k.setOther (a := ⟨C + 1, i, none⟩) (by simp only; omega) _, ?_, hh.b.setCell (by simp only; omega) _, hc⟩
  refine (hh.ws.set i _).congr fun j _ => ?_
  unfold updw
  split <;> simp [*]
theorem RdAt.drewN {w : World} {B C : Nat} {h W' : Nat → BitVec 32} {wr : World} (hh : RdAt w B C h W' wr) (n : Nat) : RdAt w B C h W' (wr.drewN n) := ⟨hh.h, hh.r, hh.k, hh.ws, hh.b.trans (Below.drewNr n), hh.c⟩
def kParts : Array (Nat × Value) := #[(0, .int .u32 1116352408), (1, .int .u32 1899447441), (2, .int .u32 3049323471), (3, .int .u32 3921009573), (4, .int .u32 961987163), (5, .int .u32 1508970993), (6, .int .u32 2453635748), (7, .int .u32 2870763221), (8, .int .u32 3624381080), (9, .int .u32 310598401), (10, .int .u32 607225278), (11, .int .u32 1426881987), (12, .int .u32 1925078388), (13, .int .u32 2162078206), (14, .int .u32 2614888103), (15, .int .u32 3248222580), (16, .int .u32 3835390401), (17, .int .u32 4022224774), (18, .int .u32 264347078), (19, .int .u32 604807628), (20, .int .u32 770255983), (21, .int .u32 1249150122), (22, .int .u32 1555081692), (23, .int .u32 1996064986), (24, .int .u32 2554220882), (25, .int .u32 2821834349), (26, .int .u32 2952996808), (27, .int .u32 3210313671), (28, .int .u32 3336571891), (29, .int .u32 3584528711), (30, .int .u32 113926993), (31, .int .u32 338241895), (32, .int .u32 666307205), (33, .int .u32 773529912), (34, .int .u32 1294757372), (35, .int .u32 1396182291), (36, .int .u32 1695183700), (37, .int .u32 1986661051), (38, .int .u32 2177026350), (39, .int .u32 2456956037), (40, .int .u32 2730485921), (41, .int .u32 2820302411), (42, .int .u32 3259730800), (43, .int .u32 3345764771), (44, .int .u32 3516065817), (45, .int .u32 3600352804), (46, .int .u32 4094571909), (47, .int .u32 275423344), (48, .int .u32 430227734), (49, .int .u32 506948616), (50, .int .u32 659060556), (51, .int .u32 883997877), (52, .int .u32 958139571), (53, .int .u32 1322822218), (54, .int .u32 1537002063), (55, .int .u32 1747873779), (56, .int .u32 1955562222), (57, .int .u32 2024104815), (58, .int .u32 2227730452), (59, .int .u32 2361852424), (60, .int .u32 2428436474), (61, .int .u32 2756734187), (62, .int .u32 3204031479), (63, .int .u32 3329325298)]
theorem kR_row : ∀ i, i < 64 → (arr32 64 kR)[i]? = some (v32 (kR i)) := fun i hi => arr32_get 64 kR i hi

theorem RdAt.putH {w : World} {B C : Nat} {h W' : Nat → BitVec 32} {wr : World} (hh : RdAt w B C h W' wr) (i : Nat) (x : BitVec 32) : RdAt w B C (updw h i x) W' (wr.setCell ⟨B, i, none⟩ (v32 x)) := by
  have hc := hh.c
  refine ⟨?_, hh.r.setOther (a := ⟨B, i, none⟩) (by simp only; omega) _, hh.k.setOther (a := ⟨B, i, none⟩) (by simp only; omega) _, hh.ws.setOther (a := ⟨B, i, none⟩) (by simp only; omega) _, hh.b.setCell (by simp only; omega) _, hc⟩
  refine (hh.h.set i _).congr fun j _ => ?_
  unfold updw
  split <;> simp [*]
/-- beside that the eight of a round, in their own block -/
structure RvAt (w : World) (B C E : Nat) (h : Nat → BitVec 32) (W' V : Nat → BitVec 32) (wr : World) : Prop where
  at_ : RdAt w B C h W' wr
  v : wr.rowIs E 86 8 (fun i => v32 (V i))
  e : C + 1 < E
theorem RvAt.drewN {w : World} {B C E : Nat} {h W' V : Nat → BitVec 32} {wr : World} (hh : RvAt w B C E h W' V wr) (n : Nat) : RvAt w B C E h W' V (wr.drewN n) := ⟨hh.at_.drewN n, hh.v, hh.e⟩
theorem RvAt.putH {w : World} {B C E : Nat} {h W' V : Nat → BitVec 32} {wr : World} (hh : RvAt w B C E h W' V wr) (i : Nat) (x : BitVec 32) : RvAt w B C E (updw h i x) W' V (wr.setCell ⟨B, i, none⟩ (v32 x)) := by
  have hc := hh.at_.c
  have he := hh.e
  exact ⟨hh.at_.putH i x, hh.v.setOther (a := ⟨B, i, none⟩) (by simp only; omega) _, hh.e⟩
theorem rowIs_setRow_ne {w : World} {b E : Nat} {t : TypeId} {n : Nat} {f : Nat → Value} (h : w.rowIs b t n f) (hne : b ≠ E) (cs : Array Value) : (w.setRow E cs).rowIs b t n f := by
  refine h.of_block ?_
  unfold World.setRow
  simp [Array.getElem?_modify, Ne.symm hne]
theorem RvAt.setV {w : World} {B C E : Nat} {h W' V : Nat → BitVec 32} {wr : World} (hh : RvAt w B C E h W' V wr) (V' : Nat → BitVec 32) : RvAt w B C E h W' V' (wr.setRow E (arr32 8 V')) := by
  have hc := hh.at_.c
  have he := hh.e
  refine ⟨⟨rowIs_setRow_ne hh.at_.h (by omega) _, rowIs_setRow_ne hh.at_.r (by omega) _, rowIs_setRow_ne hh.at_.k (by omega) _, rowIs_setRow_ne hh.at_.ws (by omega) _, below_setRow hh.at_.b (by omega) _, hc⟩, ?_, he⟩
  exact rowIs_arr (setRow_heap _ _ _ _ _ _ (rowIs_heap32 hh.v)) (by simp) (fun i hi => arr32_get 8 V' i hi)
theorem quiet_on {P : Program} {f : Nat} {args : Array Value} {w : World} {v : Value} (q k : Nat) (h : Calls P f args (w.drewN (q + k)) fun e w' => e = .returned v ∧ w' = w.drewN (q + k)) :
    Calls P f args (w.drewN (q + k)) fun e w' => e = .returned v ∧ ∃ n, w' = w.drewN (q + n) := h.mono fun _ _ ⟨h1, h2⟩ => ⟨h1, k, h2⟩
theorem dr_any (x : BitVec 32) (n : Int) (hn : n = 2 ∨ n = 6 ∨ n = 7 ∨ n = 11 ∨ n = 13 ∨ n = 17 ∨ n = 18 ∨ n = 19 ∨ n = 22 ∨ n = 25) (w : World) : Calls Tryd.prog 66 #[v32 x, .int .u64 n] w fun e w' => e = .returned (v32 (x.rotateRight n.toNat)) ∧ w' = w := by
  rcases hn with rfl | rfl | rfl | rfl | rfl | rfl | rfl | rfl | rfl | rfl
  · exact dr_2 x w
  · exact dr_6 x w
  · exact dr_7 x w
  · exact dr_11 x w
  · exact dr_13 x w
  · exact dr_17 x w
  · exact dr_18 x w
  · exact dr_19 x w
  · exact dr_22 x w
  · exact dr_25 x w

set_option maxRecDepth 100000 in
set_option maxHeartbeats 3200000 in
theorem round_any (h : Nat → BitVec 32) (sb so : Nat) (m : Nat → BitVec 8) (cap : Nat) (w : World) (hm : ∀ i, i < 64 → w.cell? ⟨sb, so + i, none⟩ = some (v8 (m i))) (hlt : sb < w.heap.size) :
    Calls Tryd.prog 40 #[.agg (arr32 8 h), .slice (some ⟨sb, so, none⟩) 64 cap] w fun e w' => e = .returned (.agg (arr32 8 (mixed h m))) ∧ Below w.heap.size w w' := by
  go_enter Tryd.func40, Tryd.ntmps40
  go_upto_region 1 with (fail)
  refine wp_world (fun W => Below w.heap.size w W ∧ W.heap.size = w.heap.size + 2 ∧ W.rowIs w.heap.size 86 8 (fun i => v32 (h i)) ∧ W.rowIs (w.heap.size + 1) 86 8 (fun _ => .int .u32 0)) ?_ ?_
  · refine ⟨by go_grown, by simp, ?_, ?_⟩
    · exact (rowIs_new w (arr32 8 h) 86 w.heap.size 8 _ rfl (arr32_size 8 h) (fun i hi => arr32_get 8 h i hi)).alloc _
    · exact rowIs_new (w.alloc _) (Array.replicate 8 (.int .u32 0)) 86 (w.heap.size + 1) 8 (fun _ => .int .u32 0) (by simp) (by simp) (fun i hi => by simp [hi])
  rintro W1 ⟨hb1, hs1, hr1, hr2⟩
  refine wp_region_list ?_
  refine wpList_build rfl 119 _ rfl kParts (by kernel_rfl) (.agg (arr32 64 kR)) (fun _ => by kernel_rfl) ?_
  refine wpList_alloc_z rfl 119 rfl (Array.replicate 64 (.int .u32 0)) (fun _ => by kernel_rfl) ?_
  refine wpList_store_row rfl 119 _ _ rfl _ (arr32 64 kR) rfl rfl _ _ (heap_alloc_new _ _) (by kernel_rfl) (by simp) (arr32_one _ _) ?_
  rw [alloc_setRow]
  refine wpList_nil ?_
  simp only [Act.put, List.setIfInBounds_toArray, List.set_cons_zero, List.set_cons_succ]
  generalize hC : W1.heap.size = C at *
  have HC := Lib.hid hC
  have HS1 := Lib.hid hs1
  clear hC hs1
  go_upto_region 3 with (fail)
  rw [show W1.heap.size = C from HC.out]
  refine wp_world (RdAt w w.heap.size C h (w16 m 0)) ?_ ?_
  · have hC := HC.out
    have hs := HS1.out
    refine ⟨(hr1.alloc _).alloc _, (hr2.alloc _).alloc _, ?_, ?_, (hb1.alloc (by omega) _).alloc (by simp; omega) _, by omega⟩
    · exact (rowIs_new W1 (arr32 64 kR) 119 C 64 _ hC.symm (arr32_size 64 kR) (fun i hi => arr32_get 64 kR i hi)).alloc _
    · exact rowIs_new (W1.alloc _) (Array.replicate 64 (.int .u32 0)) 119 (C + 1) 64 _ (by simp [hC]) (by simp) (fun i hi => by simp [hi, w16, n32])
  have hBC : w.heap.size + 1 < C := by have hC := HC.out; have hs := HS1.out; omega
  clear hb1 hr1 hr2 HC HS1 W1
  rintro W hW
  generalize hB : w.heap.size = B at *
  have HB := Lib.hid hB; clear hB
  go_wp2_with fail
  go_loopw [7] (fun i wr => ∃ k : Nat, k ≤ 16 ∧ i = .int .i64 k ∧ RdAt w B C h (w16 m k) wr) (fun i _ => 16 - (intOf i).toNat)
  case atStart => exact ⟨0, by omega, rfl, hW⟩
  clear hW W
  case round =>
    obtain ⟨k, hk, rfl, hR⟩ := hrel
    by_cases hlt2 : k < 16
    · have cc : ∀ i, i < 64 → wr.cell? ⟨sb, so + i, none⟩ = some (v8 (m i)) := fun i hi => by rw [World.cell?_of_block (hR.b.block sb (HB.out ▸ hlt))]; exact hm i hi
      have c0 := cc (4 * k) (by omega)
      have c1 := cc (4 * k + 1) (by omega)
      have c2 := cc (4 * k + 2) (by omega)
      have c3 := cc (4 * k + 3) (by omega)
      clear cc
      have i0 : 4 * (k : Int) = ((4 * k : Nat) : Int) := by omega
      have i1 : ((4 * k : Nat) : Int) + 1 = ((4 * k + 1 : Nat) : Int) := by omega
      have i2 : ((4 * k : Nat) : Int) + 2 = ((4 * k + 2 : Nat) : Int) := by omega
      have i3 : ((4 * k : Nat) : Int) + 3 = ((4 * k + 3 : Nat) : Int) := by omega
      have hput := hR.put k (wordB (m (4 * k)) (m (4 * k + 1)) (m (4 * k + 2)) (m (4 * k + 3)))
      rw [show updw (w16 m k) k (wordB (m (4 * k)) (m (4 * k + 1)) (m (4 * k + 2)) (m (4 * k + 3))) = w16 m (k + 1) from rfl] at hput
      have cw := hR.ws.cell (i := k) (by omega)
      have fw := hR.ws.frozen k
      have e3 : (4 * k + 3 : Nat) < 64 := by omega
      have k0 : (k : Int) < 64 := by omega
      clear hR
      generalize m (4 * k) = x at *
      generalize m (4 * k + 1) = y at *
      generalize m (4 * k + 2) = z at *
      generalize m (4 * k + 3) = u at *
      generalize hp1 : 4 * k + 1 = p1 at *
      generalize hp2 : 4 * k + 2 = p2 at *
      generalize hp3 : 4 * k + 3 = p3 at *
      generalize hp0 : 4 * k = p0 at *
      have g0 : (p0 : Int) < 64 := by omega
      have g1 : (p1 : Int) < 64 := by omega
      have g2 : (p2 : Int) < 64 := by omega
      have g3 : (p3 : Int) < 64 := by omega
      clear hp1 hp2 hp3 hp0 e3
      have s1 := n8_shl24 x
      have s2 := n8_shl16 y
      have s3 := n8_shl8 z
      have b0 := n8_hi x
      have b1 := n8_hi y
      have b2 := n8_hi z
      have b3 := n8_hi u
      have l0 := n8_lo x
      have l1 := n8_lo y
      have l2 := n8_lo z
      have l3 := n8_lo u
      have o1 := n32_or (x.setWidth 32 <<< 24) (y.setWidth 32 <<< 16)
      have o2 := n32_or (x.setWidth 32 <<< 24 ||| y.setWidth 32 <<< 16) (z.setWidth 32 <<< 8)
      have o3 := n32_or (x.setWidth 32 <<< 24 ||| y.setWidth 32 <<< 16 ||| z.setWidth 32 <<< 8) (u.setWidth 32)
      rw [show x.setWidth 32 <<< 24 ||| y.setWidth 32 <<< 16 ||| z.setWidth 32 <<< 8 ||| u.setWidth 32 = wordB x y z u from rfl] at o3
      go_wp2_with fail
      go_region
      go_wp2_with fail
      go_roundw
      case rel => exact ⟨k + 1, by omega, by go_num, hput.drewN _⟩
      case measure => simp [intOf]; omega
    · have hdk : decide ((k : Int) < 16) = false := by simp; omega
      have hk16 : k = 16 := by omega
      rw [hk16] at hR
      clear hk16
      clear hm hlt
      go_wp2_with fail
      go_loopw [8] (fun i wr => ∃ k : Nat, k ≤ 48 ∧ i = .int .i64 ((16 + k : Nat) : Int) ∧ RdAt w B C h (w64 (w16 m 16) k) wr) (fun i _ => 64 - (intOf i).toNat)
      case atStart => exact ⟨0, by omega, rfl, hR⟩
      clear hR
      case round =>
        obtain ⟨j, hj, rfl, hR⟩ := hrel
        by_cases hlt3 : j < 48
        · have h15 : ((16 + j : Nat) : Int) - 15 = ((j + 1 : Nat) : Int) := by omega
          have h2 : ((16 + j : Nat) : Int) - 2 = ((j + 14 : Nat) : Int) := by omega
          have h16 : ((16 + j : Nat) : Int) - 16 = (j : Int) := by omega
          have h7 : ((16 + j : Nat) : Int) - 7 = ((j + 9 : Nat) : Int) := by omega
          have hput := hR.put (16 + j) (w64 (w16 m 16) j j + sm_s (w64 (w16 m 16) j (j + 1)) + w64 (w16 m 16) j (j + 9) + sm_t (w64 (w16 m 16) j (j + 14)))
          rw [show updw (w64 (w16 m 16) j) (16 + j) (w64 (w16 m 16) j j + sm_s (w64 (w16 m 16) j (j + 1)) + w64 (w16 m 16) j (j + 9) + sm_t (w64 (w16 m 16) j (j + 14))) = w64 (w16 m 16) (j + 1) from rfl] at hput
          generalize hN0 : w64 (w16 m 16) (j + 1) = SN at hput
          have hN := Lib.hid hN0; clear hN0
          generalize w64 (w16 m 16) j = S at *
          have c1 := hR.ws.cell (i := j + 1) (by omega)
          have c14 := hR.ws.cell (i := j + 14) (by omega)
          have c0 := hR.ws.cell (i := j) (by omega)
          have c9 := hR.ws.cell (i := j + 9) (by omega)
          generalize hn : 16 + j = n at *
          have hn0 : (0 : Int) ≤ (n : Int) := by omega
          have hn1 : (n : Int) < 64 := by omega
          have fn := hR.ws.frozen n
          have fo := hR.ws.cell (i := n) (by omega)
          generalize hp1 : j + 1 = p1 at *
          generalize hp14 : j + 14 = p14 at *
          generalize hp9 : j + 9 = p9 at *
          have e1 : (p1 : Int) < 64 := by omega
          have e14 : (p14 : Int) < 64 := by omega
          have e9 : (p9 : Int) < 64 := by omega
          have e0 : (j : Int) < 64 := by omega
          have v1 : IntKind.i64.wrap (p1 : Int) = p1 := IntWalk.i64_in _ (by omega)
          have v14 : IntKind.i64.wrap (p14 : Int) = p14 := IntWalk.i64_in _ (by omega)
          have v9 : IntKind.i64.wrap (p9 : Int) = p9 := IntWalk.i64_in _ (by omega)
          have v0 : IntKind.i64.wrap (j : Int) = j := IntWalk.i64_in _ (by omega)
          have HP1 := Lib.hid hp1; have HP2 := Lib.hid hn
          clear hR hp1 hp14 hp9 hn
          go_wp2_with fail
          have x1 := n32_xor ((S p1).rotateRight 7) ((S p1).rotateRight 18)
          have x2 := n32_xor ((S p1).rotateRight 7 ^^^ (S p1).rotateRight 18) (S p1 >>> 3)
          rw [show (S p1).rotateRight 7 ^^^ (S p1).rotateRight 18 ^^^ S p1 >>> 3 = sm_s (S p1) from rfl] at x2
          have x3 : n32 (S p1) / (8 : Int) = n32 (S p1 >>> 3) := n32_shr (S p1) 3
          go_quiet (first | (go_at_call 66; refine Calls.quiet_of_same (dr_any _ _ (by decide) _)))
          go_wp2_with fail
          clear x1 x2 x3
          have y1 := n32_xor ((S p14).rotateRight 17) ((S p14).rotateRight 19)
          have y2 := n32_xor ((S p14).rotateRight 17 ^^^ (S p14).rotateRight 19) (S p14 >>> 10)
          rw [show (S p14).rotateRight 17 ^^^ (S p14).rotateRight 19 ^^^ S p14 >>> 10 = sm_t (S p14) from rfl] at y2
          have y3 : n32 (S p14) / (1024 : Int) = n32 (S p14 >>> 10) := n32_shr (S p14) 10
          go_quiet (first | (go_at_call 66; refine quiet_on _ _ (dr_any _ _ (by decide) _)))
          clear y1 y2 y3
          have a1 := n32_add (S j) (sm_s (S p1))
          have a2 := n32_add (S j + sm_s (S p1)) (S p9)
          have a3 := n32_add (S j + sm_s (S p1) + S p9) (sm_t (S p14))
          go_wp2_with fail
          go_region
          go_wp2_with fail
          go_roundw
          case rel => exact ⟨p1, by have := HP1.out; omega, by have h1 := HP1.out; have h2 := HP2.out; congr 1; omega, by rw [hN.out]; exact hput.drewN _⟩
          case measure => simp [intOf]; omega
        · have hj48 : j = 48 := by omega
          rw [hj48, show w64 (w16 m 16) 48 = sched m from rfl] at hR
          clear hj48
          generalize hn : 16 + j = n at *
          have hdk2 : decide ((n : Int) < 64) = false := by simp; omega
          clear hn hj hlt3
          have hmx : addTo h (rds h (sched m) 64) 8 = mixed h m := rfl
          generalize sched m = z at *
          have HMX := Lib.hid hmx; clear hmx
          have hh := rowIs_heap32 hR.h
          have hsz : C + 1 < wr.heap.size := World.block_lt_of_cell? wr _ (hR.ws.cell (i := 0) (by omega))
          go_upto_region 13 with (fail)
          refine wp_region_list ?_
          refine wpList_load_row rfl 86 _ rfl _ rfl _ _ _ _ hh Tryd.underlying86 rfl (by kernel_rfl) ?_
          refine wpList_alloc_z rfl 86 rfl (Array.replicate 8 (.int .u32 0)) (fun _ => by kernel_rfl) ?_
          refine wpList_store_row rfl 86 _ _ rfl _ (arr32 8 h) rfl rfl _ _ (heap_alloc_new _ _) (by kernel_rfl) (by simp) (arr32_one _ _) ?_
          rw [alloc_setRow]
          refine wpList_nil ?_
          simp only [Act.put, List.setIfInBounds_toArray, List.set_cons_zero, List.set_cons_succ]
          generalize hE : wr.heap.size = E at *
          have HE := Lib.hid hE
          have HS := Lib.hid hsz
          clear hE hsz
          go_upto_region 14 with (fail)
          refine wp_world (RvAt w B C E h z (rds h z 0)) ?_ ?_
          · have hB := HB.out
            have hE := HE.out
            have hsz := HS.out
            have hbs := hR.b.size
            refine ⟨⟨hR.h.alloc _, hR.r.alloc _, hR.k.alloc _, hR.ws.alloc _, hR.b.alloc (by omega) _, hR.c⟩, ?_, hsz⟩
            exact rowIs_new wr (arr32 8 h) 86 E 8 _ hE.symm (arr32_size 8 h) (fun i hi => arr32_get 8 h i hi)
          clear hR hh HE HS
          rintro W2 hW2
          go_wp2_with fail
          go_loopw [12] (fun i wr => ∃ k : Nat, k ≤ 64 ∧ i = .int .i64 k ∧ RvAt w B C E h z (rds h z k) wr) (fun i _ => 64 - (intOf i).toNat)
          case atStart => exact ⟨0, by omega, rfl, hW2⟩
          clear hW2
          case round =>
            obtain ⟨q, hq, rfl, hR⟩ := hrel
            by_cases hlt4 : q < 64
            · have hset : ∀ n, RvAt w B C E h z (rds h z (q + 1)) ((wr.drewN n).setRow E (arr32 8 (rnd (rds h z q) (kR q) (z q)))) := fun n => (hR.drewN n).setV _
              have g1 := hR.at_.k.cell (i := q) (by omega)
              have g2 := hR.at_.ws.cell (i := q) (by omega)
              have hv := hR.v
              have hh := rowIs_heap32 hR.v
              clear hR
              generalize hRN0 : rds h z (q + 1) = RN at *
              have HRN := Lib.hid hRN0; clear hRN0
              generalize rds h z q = R at *
              generalize kR q = kk at *
              generalize z q = ww at *
              have c0 := hv.cell (i := 0) (by omega)
              have c1 := hv.cell (i := 1) (by omega)
              have c2 := hv.cell (i := 2) (by omega)
              have c3 := hv.cell (i := 3) (by omega)
              have c4 := hv.cell (i := 4) (by omega)
              have c5 := hv.cell (i := 5) (by omega)
              have c6 := hv.cell (i := 6) (by omega)
              have c7 := hv.cell (i := 7) (by omega)
              clear hv
              have x1 := n32_xor ((R 4).rotateRight 6) ((R 4).rotateRight 11)
              have x2 := n32_xor ((R 4).rotateRight 6 ^^^ (R 4).rotateRight 11) ((R 4).rotateRight 25)
              rw [show (R 4).rotateRight 6 ^^^ (R 4).rotateRight 11 ^^^ (R 4).rotateRight 25 = big_e (R 4) from rfl] at x2
              go_wp2_with fail
              go_quiet (first | (go_at_call 66; refine Calls.quiet_of_same (dr_any _ _ (by decide) _)))
              clear x1 x2
              have nt := n32_not (R 4)
              have a0 := n32_and (R 4) (R 5)
              have a1 := n32_and (~~~ R 4) (R 6)
              have a2 := n32_xor (R 4 &&& R 5) (~~~ R 4 &&& R 6)
              go_upto_region 19 with (fail)
              simp only [IntKind.signed, Bool.false_eq_true, ↓reduceIte, nt, a1, a2]
              clear nt a0 a1 a2
              have b0 := n32_add (R 7) (big_e (R 4))
              have b1 := n32_add (R 7 + big_e (R 4)) ((R 4 &&& R 5) ^^^ (~~~ R 4 &&& R 6))
              have b2 := n32_add (R 7 + big_e (R 4) + ((R 4 &&& R 5) ^^^ (~~~ R 4 &&& R 6))) kk
              have b3 := n32_add (R 7 + big_e (R 4) + ((R 4 &&& R 5) ^^^ (~~~ R 4 &&& R 6)) + kk) ww
              have b4 : (n32 (R 7 + big_e (R 4)) + n32 ((R 4 &&& R 5) ^^^ (~~~ R 4 &&& R 6)) + n32 kk + n32 ww) % 4294967296 = n32 (rnT R kk ww) := by
                rw [show rnT R kk ww = R 7 + big_e (R 4) + ((R 4 &&& R 5) ^^^ (~~~ R 4 &&& R 6)) + kk + ww from rfl, ← b3, ← b2, ← b1]
                omega
              clear b1 b2 b3
              have k0 : (q : Int) < 64 := by omega
              go_quiet (fail)
              simp only [Int.emod_add_emod, b4]
              clear b0 b4 g1 g2 k0
              go_wp2_with fail
              have x1 := n32_xor ((R 0).rotateRight 2) ((R 0).rotateRight 13)
              have x2 := n32_xor ((R 0).rotateRight 2 ^^^ (R 0).rotateRight 13) ((R 0).rotateRight 22)
              rw [show (R 0).rotateRight 2 ^^^ (R 0).rotateRight 13 ^^^ (R 0).rotateRight 22 = big_a (R 0) from rfl] at x2
              go_quiet (first | (go_at_call 66; refine quiet_on _ _ (dr_any _ _ (by decide) _)))
              clear x1 x2
              have a0 := n32_and (R 0) (R 1)
              have a1 := n32_and (R 0) (R 2)
              have a2 := n32_and (R 1) (R 2)
              have a3 := n32_xor (R 0 &&& R 1) (R 0 &&& R 2)
              have a4 := n32_xor (R 0 &&& R 1 ^^^ R 0 &&& R 2) (R 1 &&& R 2)
              go_upto_region 22 with (fail)
              clear a0 a1 a2 a3 a4
              have d0 := n32_add (R 3) (rnT R kk ww)
              have d1 := n32_add (rnT R kk ww) (big_a (R 0))
              have d2 := n32_add (rnT R kk ww + big_a (R 0)) ((R 0 &&& R 1) ^^^ (R 0 &&& R 2) ^^^ (R 1 &&& R 2))
              rw [BitVec.add_assoc (rnT R kk ww) (big_a (R 0)), show big_a (R 0) + ((R 0 &&& R 1) ^^^ (R 0 &&& R 2) ^^^ (R 1 &&& R 2)) = rnU R from rfl] at d2
              refine wp_region_list ?_
              iterate 62 go_step
              simp only [d0, d2]
              refine wpList_build rfl 86 _ rfl #[(0, v32 (rnT R kk ww + rnU R)), (1, v32 (R 0)), (2, v32 (R 1)), (3, v32 (R 2)), (4, v32 (R 3 + rnT R kk ww)), (5, v32 (R 4)), (6, v32 (R 5)), (7, v32 (R 6))] (by kernel_rfl) (.agg (arr32 8 (rnd R kk ww))) (fun _ => by kernel_rfl) ?_
              refine wpList_store_row rfl 86 _ _ rfl _ (arr32 8 (rnd R kk ww)) rfl rfl _ _ hh (by kernel_rfl) (by simp) (arr32_one _ _) ?_
              refine wpList_nil ?_
              simp only [Act.put, List.setIfInBounds_toArray, List.set_cons_zero, List.set_cons_succ]
              clear d0 d1 d2 c0 c1 c2 c3 c4 c5 c6 c7 hh
              go_wp2_with fail
              go_roundw
              case rel => exact ⟨q + 1, by omega, by go_num, by rw [HRN.out]; exact hset _⟩
              case measure => simp [intOf]; omega
            · have hdk3 : decide ((q : Int) < 64) = false := by simp; omega
              have hq64 : q = 64 := by omega
              rw [hq64] at hR
              clear hq64
              have hmx2 : addTo h (rds h z 64) 0 = h := by funext j; simp [addTo]
              have hR0 : RvAt w B C E (addTo h (rds h z 64) 0) z (rds h z 64) wr := by rw [hmx2]; exact hR
              clear hR hmx2
              generalize rds h z 64 = R at *
              go_wp2_with fail
              go_loopw [18] (fun i wr => ∃ k : Nat, k ≤ 8 ∧ i = .int .i64 k ∧ RvAt w B C E (addTo h R k) z R wr) (fun i _ => 8 - (intOf i).toNat)
              case atStart => exact ⟨0, by omega, rfl, hR0⟩
              clear hR0
              case round =>
                obtain ⟨k, hk1, rfl, hR⟩ := hrel
                by_cases hlt5 : k < 8
                · have hk0 : (k : Int) < 8 := by omega
                  have c1 := hR.at_.h.cell (i := k) (by omega)
                  rw [show addTo h R k k = h k by simp [addTo]] at c1
                  have c2 := hR.v.cell (i := k) (by omega)
                  have fz := hR.at_.h.frozen k
                  have a1 := n32_add (h k) (R k)
                  have hu : updw (addTo h R k) k (h k + R k) = addTo h R (k + 1) := by
                    funext j
                    unfold updw addTo
                    split
                    · subst_vars; simp
                    · by_cases e : j < k
                      · simp [e]; omega
                      · simp [e]; omega
                  have hput := hR.putH k (h k + R k)
                  rw [hu] at hput
                  clear hR hu
                  go_wp2_with fail
                  go_region
                  go_wp2_with fail
                  go_roundw
                  case rel => exact ⟨k + 1, by omega, by go_num, hput.drewN _⟩
                  case measure => simp [intOf]; omega
                · have hdk4 : decide ((k : Int) < 8) = false := by simp; omega
                  have hk8 : k = 8 := by omega
                  rw [hk8, HMX.out] at hR
                  clear hk8
                  generalize hM : mixed h m = M at *
                  have HM := Lib.hid hM; clear hM
                  have hh := rowIs_heap32 hR.at_.h
                  obtain ⟨old, hr1, hr2, _⟩ := hR.at_.r
                  have hbb := below_setRow (g := B + 1) hR.at_.b (by omega) (arr32 8 M)
                  have hres : (wr.setRow (B + 1) (arr32 8 M)).heap[B + 1]? = some (.cells (arr32 8 M) 86 (0, 0)) := setRow_heap _ _ _ _ _ _ hr1
                  clear hR
                  go_wp2_with (first | (refine wpList_load_row rfl 86 _ rfl _ rfl _ _ _ _ hh Tryd.underlying86 rfl (by kernel_rfl) ?_) | (refine wpList_store_row rfl 86 _ _ rfl _ _ rfl rfl _ _ hr1 (by kernel_rfl) (by simpa using hr2) (arr32_one _ _) ?_))
                  refine bodyPost_ret (results_cell_row rfl _ _ _ _ _ _ _ rfl hres Tryd.underlying86 rfl (by kernel_rfl)) rfl ?_
                  rw [HB.out, HM.out]
                  exact ⟨rfl, hbb⟩
theorem wpStill_load_row {P : Program} {ops : Array Oper} {rest : List Oper} {o : Oper} {a : Act} {w : World} {Q : Act → Prop} (hgd : o.guard = none) (ty : TypeId) (x : Operand) (ho : o.op = .load ty x)
    (g : Nat) (hx : a.eval x = .pointer (some ⟨g, 0, none⟩)) (t : TypeId) (cs : Array Value) (fr : Nat × Nat) (d : TypeDesc) (hg : w.heap[g]? = some (.cells cs t fr))
    (hu : P.underlying ty = some d) (hd : (match d with | .struct _ | .array _ _ => true | _ => false) = true) (hi : (P.info? ty).map (·.size) = some cs.size)
    (h : wpStill P ops w Q rest (a.put o.dst (.agg cs))) : wpStill P ops w Q (o :: rest) a := by
  refine wpStill_step fun K hK => ?_
  simp only [Region.wanted, hgd, if_true]
  unfold Oper.still execOp
  simp only [ho, hx, Instr.loadAt, Instr.sureAddr, Sem.run_bind, Sem.run_pure, Result.andThen_ok, run_loadVar_row w g t ty cs fr d hg hu hd hi]
  exact ⟨rfl, hK _ h⟩

theorem wpStill_slice {P : Program} {ops : Array Oper} {rest : List Oper} {o : Oper} {a : Act} {w : World} {Q : Act → Prop} (hgd : o.guard = none) (t e : TypeId) (hu : P.underlying t = some (.slice e)) (x lo hi : Operand) (ho : o.op = .slice t x (some lo) (some hi) none)
    (va vl vh r : Value) (hx : a.eval x = va) (hl : a.eval lo = vl) (hh : a.eval hi = vh) (hr : (Instr.slice t va (some vl) (some vh) none).run P w = .ok r w)
    (h : wpStill P ops w Q rest (a.put o.dst r)) : wpStill P ops w Q (o :: rest) a := by
  have e2 : P.elem t = e := by simp [Program.elem, hu]
  refine wpStill_step fun K hK => ?_
  simp only [Region.wanted, hgd, if_true]
  unfold Oper.still execOp
  simp only [ho, hx, hl, hh, Option.map_some, Option.map_none, Sem.run_bind, Sem.run_pure, run_sliceAt_slice (h := by rw [e2]; exact hu), hr, Result.andThen_ok]
  exact ⟨rfl, hK _ h⟩

/-- one byte appended to a row that is one's own -/
theorem push_own {ops : Array Oper} {rest : List Oper} {o : Oper} {a : Act} {Q : Exit → Act → World → Prop} (hgd : o.guard = none) (s x : Operand)
    (ho : o.op = .call { callee := .builtin .append, args := #[s, x], argTypes := #[25, 25] }) (W : World) (base : Nat) (v : Value) (ys : List (BitVec 8)) (y : BitVec 8)
    (hs : a.eval s = v) (hx : a.eval x = .slice (some ⟨W.heap.size, 0, none⟩) 1 1) (hown : W.ownsRow base 5 1 v ys.length (ints .u8 (bys ys))) (hbase : base ≤ W.heap.size) (hl : ys.length ≤ 140737488352000)
    (h : ∀ v' w', w'.ownsRow base 5 1 v' (ys ++ [y]).length (ints .u8 (bys (ys ++ [y]))) → Below base W w' → wpList Tryd.prog ops Q rest (a.put o.dst v') w') :
    wpList Tryd.prog ops Q (o :: rest) a (W.alloc (.cells #[.int .u8 (n8 y)] 5)) := by
  obtain ⟨i0, hi, hz0, hz1, hz2⟩ := info_parts Tryd.info5
  refine wpList_append_own _ hgd s x 25 ho base 5 i0 (.int .u8 0) 1 1 Tryd.underlying25 hi hz0 hz1 hz2 rfl (by decide) v _ _ hs (hown.alloc _) ⟨W.heap.size, 0, none⟩ 1 1 [.int .u8 (n8 y)] hx rfl (cell_one_new _ _ _) ?_ ?_ ?_ ?_ ?_
  · intro u hu; simp at hu; subst hu; rfl
  · unfold maxLen; omega
  · omega
  · simp; omega
  · intro v' w2 hown2 hgrow2 _
    have e : ints .u8 (bys ys) ++ [.int .u8 (n8 y)] = ints .u8 (bys (ys ++ [y])) := by simp [ints, bys]
    rw [e] at hown2
    refine h v' w2 (by simpa using hown2) ?_
    exact ((Below.refl _ _).alloc hbase _).grown hgrow2 (by simp; omega) (fun j hj => (hown.lt j hj).1)

theorem feeds_mod (xs : List (BitVec 8)) : ∀ h : HSt, h.u < 64 → (feeds h xs).u = (h.u + xs.length) % 64 := by
  induction xs with
  | nil => intro h hu; simp [feeds, Nat.mod_eq_of_lt hu]
  | cons x r ih =>
    intro h hu
    rw [feeds_cons, ih (feed1 h x) (by unfold feed1; split <;> simp; omega)]
    unfold feed1
    split <;> simp <;> omega

/-- the padded bytes: the first t of the padding -/
def docTo (n : Nat) (L : BitVec 64) (t : Nat) : List (BitVec 8) := (List.range t).map (padF n L 8)
theorem docTo_succ (n : Nat) (L : BitVec 64) (t : Nat) : docTo n L (t + 1) = docTo n L t ++ [padF n L 8 t] := by simp [docTo, List.range_succ]
@[simp] theorem docTo_len (n : Nat) (L : BitVec 64) (t : Nat) : (docTo n L t).length = t := by simp [docTo]

/-- what the document's Sum keeps while it lays its list -/
structure SumM (w : World) (B : Nat) (ys : List (BitVec 8)) (v : Value) (wr : World) : Prop where
  own : wr.ownsRow (B + 1) 5 1 v ys.length (ints .u8 (bys ys))
  b : Below B w wr
  r : wr.rowIs B 37 32 (fun _ => .int .u8 0)
  s : B + 1 ≤ wr.heap.size
theorem SumM.push {w : World} {B : Nat} {ys ys' : List (BitVec 8)} {v v' : Value} {wr wr' : World} (h : SumM w B ys v wr) (hb : Below (B + 1) wr wr') (ho : wr'.ownsRow (B + 1) 5 1 v' ys'.length (ints .u8 (bys ys'))) : SumM w B ys' v' wr' :=
  ⟨ho, h.b.trans (hb.mono (by omega)), h.r.of_block (hb.block B (by omega)), Nat.le_trans h.s hb.size⟩

theorem updbs_low (xs : List (BitVec 8)) : ∀ (m : Nat → BitVec 8) (u i : Nat), i < u → updbs m u xs i = m i := by
  induction xs with
  | nil => intro m u i _; rfl
  | cons x r ih =>
    intro m u i hi
    rw [updbs, ih _ _ _ (by omega)]
    unfold updb
    rw [if_neg (by omega)]
theorem updbs_get (xs : List (BitVec 8)) : ∀ (m : Nat → BitVec 8) (u j : Nat), j < xs.length → xs[j]? = some (updbs m u xs (u + j)) := by
  induction xs with
  | nil => intro m u j hj; simp at hj
  | cons x r ih =>
    intro m u j hj
    cases j with
    | zero =>
      rw [updbs, updbs_low r _ _ _ (by omega)]
      simp [updb]
    | succ j =>
      simp at hj
      have := ih (updb m u x) (u + 1) j hj
      rw [updbs, show u + (j + 1) = u + 1 + j by omega, List.getElem?_cons_succ]
      exact this

/-- a block more -/
theorem feeds_block (zs : List (BitVec 8)) (p : Nat) (hp : p % 64 = 0) (hl : p + 64 ≤ zs.length) :
    ∃ m, (∀ i, i < 64 → zs[p + i]? = some (m i)) ∧ (feeds h0 (zs.take (p + 64))).s = mixed (feeds h0 (zs.take p)).s m := by
  have hu : (feeds h0 (zs.take p)).u = 0 := by
    rw [feeds_mod _ h0 (by decide), List.length_take, Nat.min_eq_left (by omega)]
    simp [h0, hp]
  have hbl : ((zs.drop p).take 64).length = 64 := by simp; omega
  refine ⟨updbs (feeds h0 (zs.take p)).m 0 ((zs.drop p).take 64), fun i hi => ?_, ?_⟩
  · have h1 := updbs_get ((zs.drop p).take 64) (feeds h0 (zs.take p)).m 0 i (by omega)
    rw [Nat.zero_add] at h1
    rw [← h1, List.getElem?_take_of_lt hi, List.getElem?_drop]
  · rw [List.take_add, feeds_append, feeds_full _ _ (by omega) (by intro e; rw [e] at hbl; simp at hbl), hu]

theorem slice_sl_lh {P : Program} {t e : TypeId} (hu : P.underlying t = some (.slice e)) (hs : (P.info? e).map (·.size) = some 1) (b o n cap l m : Nat) (hm : l + m ≤ n) (hc : n ≤ cap) (h0 : l < n) (w : World) :
    (Instr.slice t (.slice (some ⟨b, o, none⟩) n cap) (some (.int .i64 (l : Int))) (some (.int .i64 ((l : Int) + m))) none).run P w = .ok (.slice (some ⟨b, o + l, none⟩) m (cap - l)) w := by
  have e2 : P.elem t = e := by simp [Program.elem, hu]
  rw [run_slice_lh (P := P) w t (some ⟨b, o, none⟩) n cap (by rw [e2]; exact hu) .i64 .i64 (l : Int) ((l : Int) + m) (by omega) (by omega) (by omega), e2]
  obtain ⟨i, hi, hz⟩ := Option.map_eq_some_iff.1 hs
  have h1 : ((l : Int) + m).toNat = l + m := by omega
  have h2 : ¬ cap = l := by omega
  have h3 : l + m - l = m := by omega
  simp [sizeOf, typeInfo, hi, hz, Result.andThen, sliced, h1, h2, h3, add_eq]

/-- what it keeps while it goes over the blocks -/
structure SumH (w : World) (B H g o : Nat) (zs : List (BitVec 8)) (S : Nat → BitVec 32) (wr : World) : Prop where
  b : Below B w wr
  r : wr.rowIs B 37 32 (fun _ => .int .u8 0)
  h : wr.rowIs H 86 8 (fun i => v32 (S i))
  c : ∀ i u, zs[i]? = some u → wr.cell? ⟨g, o + i, none⟩ = some (v8 u)
  l : g < H ∧ B < H
theorem SumH.below {w : World} {B H g o : Nat} {zs : List (BitVec 8)} {S : Nat → BitVec 32} {wr wr' : World} (x : SumH w B H g o zs S wr) (hb : Below wr.heap.size wr wr') : SumH w B H g o zs S wr' := by
  have hl := x.h.lt
  have := x.l
  exact ⟨x.b.trans (hb.mono (by omega)), x.r.of_block (hb.block _ (by omega)), x.h.of_block (hb.block _ hl), fun i u e => by rw [World.cell?_of_block (hb.block g (by omega))]; exact x.c i u e, x.l⟩
theorem SumH.set {w : World} {B H g o : Nat} {zs : List (BitVec 8)} {S : Nat → BitVec 32} {wr : World} (x : SumH w B H g o zs S wr) (S' : Nat → BitVec 32) : SumH w B H g o zs S' (wr.setRow H (arr32 8 S')) := by
  have hl := x.l
  have hg : ∀ b, b ≠ H → (wr.setRow H (arr32 8 S')).heap[b]? = wr.heap[b]? := by
    intro b hb
    unfold World.setRow
    simp [Array.getElem?_modify, Ne.symm hb]
  refine ⟨below_setRow x.b (by omega) _, rowIs_setRow_ne x.r (by omega) _, ?_, fun i u e => by rw [World.cell?_of_block (hg g (by omega))]; exact x.c i u e, x.l⟩
  exact rowIs_arr (setRow_heap _ _ _ _ _ _ (rowIs_heap32 x.h)) (by simp) (fun i hi => arr32_get 8 S' i hi)
def outUp (s : Nat → BitVec 32) (k : Nat) (i : Nat) : BitVec 8 := if i < k then outB s i else 0#8

set_option maxRecDepth 100000 in
set_option maxHeartbeats 800000 in
theorem dsum_any (A : Option Addr) (xs : List (BitVec 8)) (ca : Nat) (w : World) (hA : SlRead w A (ints .u8 (bys xs))) (hx : xs.length ≤ 140737488351232) :
    Calls Tryd.prog 17 #[.slice A xs.length ca] w fun e w' => e = .returned (.agg (arr8 32 (shaOf xs))) ∧ Below w.heap.size w w' := by
  go_enter Tryd.func17, Tryd.ntmps17
  go_upto_region 1 with (fail)
  refine wp_world (fun W => Below w.heap.size w W ∧ W.heap.size = w.heap.size + 1 ∧ W.rowIs w.heap.size 37 32 (fun _ => .int .u8 0)) ?_ ?_
  · refine ⟨by go_grown, by simp, ?_⟩
    exact rowIs_new w (Array.replicate 32 (.int .u8 0)) 37 w.heap.size 32 (fun _ => .int .u8 0) rfl (by simp) (fun i hi => by simp [hi])
  rintro W1 ⟨hb1, hs1, hr1⟩
  have hby := bytes_any A (bys xs) ca W1 (hA.below hb1) (by simpa using hx)
  rw [bys_length] at hby
  have HS := Lib.hid hs1; clear hs1
  go_wp2_with fail
  refine hby.mono ?_
  rintro e W2 ⟨v, rfl, hown, hb2⟩
  have hs1 := HS.out
  rw [hs1] at hown hb2
  have hM : SumM w w.heap.size xs v W2 := ⟨hown, hb1.trans (hb2.mono (by omega)), hr1.of_block (hb2.block _ (by omega)), by rw [← hs1]; exact hb2.size⟩
  clear hby hown hb1 hr1 hb2 HS hs1 W1
  generalize hB : w.heap.size = B at *
  have HB := Lib.hid hB; clear hB
  go_upto_region 2 with (at_builtin; refine push_own rfl _ _ rfl W2 (B + 1) v xs 128#8 rfl rfl hM.own hM.s (by omega) ?_; intro v' W3 hown hb)
  have hn : padN (feeds h0 xs).u = 1 + (119 - xs.length % 64) % 64 := by
    rw [feeds_mod xs h0 (by decide)]
    simp [padN, h0]
  have hpl : padL (feeds h0 xs).u (BitVec.ofNat 64 (8 * xs.length)) = docTo (padN (feeds h0 xs).u) (BitVec.ofNat 64 (8 * xs.length)) (padN (feeds h0 xs).u + 8) := rfl
  have hdg : shaOf xs = outB (feeds h0 (xs ++ padL (feeds h0 xs).u (BitVec.ofNat 64 (8 * xs.length)))).s := by rw [feeds_append]; rfl
  rw [hpl] at hdg
  generalize padN (feeds h0 xs).u = n at *
  generalize hL : BitVec.ofNat 64 (8 * xs.length) = L at *
  have HDG := Lib.hid hdg
  have HL := Lib.hid hL
  clear hdg hpl hL
  have hM1 : SumM w B (xs ++ docTo n L 1) v' W3 := by
    have e : docTo n L 1 = [128#8] := by
      simp only [docTo, List.range_one, List.map_cons, List.map_nil, padF]
      rw [if_neg (by omega)]
      simp
    rw [e]
    exact hM.push hb hown
  clear hM hown hb hA
  have HN := Lib.hid hn; clear hn
  refine wp_world (SumM w B (xs ++ docTo n L 1) v') hM1 ?_
  clear hM1 W3
  generalize W2.heap.size = g2
  clear W2
  rintro W3 hM1
  go_loopw [3] (fun v wr => ∃ t : Nat, 1 ≤ t ∧ t ≤ n ∧ SumM w B (xs ++ docTo n L t) v wr) (fun v _ => match v with | .slice _ len _ => xs.length + 65 - len | _ => 0)
  case atStart => exact ⟨1, by omega, by have := HN.out; omega, hM1⟩
  clear hM1
  case round =>
    obtain ⟨t, ht1, htn, hM⟩ := hrel
    obtain ⟨Av, cv, rfl, hcv⟩ := ownsRow_form hM.own
    by_cases hlt : t < n
    · have hm : (xs ++ docTo n L t).length % 64 ≠ 56 := by
        have := HN.out
        simp; omega
      have hle : (xs ++ docTo n L t).length ≤ 140737488352000 := by
        have := HN.out
        simp; omega
      have hle2 : (xs ++ docTo n L t).length < xs.length + 65 := by
        have := HN.out
        simp; omega
      have hzero : padF n L 8 t = 0#8 := by
        unfold padF
        rw [if_neg (by omega), if_neg (by omega)]
      have hsn : (xs ++ docTo n L t) ++ [0#8] = xs ++ docTo n L (t + 1) := by rw [docTo_succ, hzero, List.append_assoc]
      generalize xs ++ docTo n L t = ys at *
      have HSN := Lib.hid hsn; clear hsn hzero
      have htm : Int.tmod (ys.length : Int) 64 = ((ys.length % 64 : Nat) : Int) := by rw [Int.tmod_eq_emod_of_nonneg (by omega)]; omega
      generalize hr : ys.length % 64 = r at *
      have hrb : ((r : Int) != 56) = true := by simp; omega
      clear hr hm
      go_wp2_with (at_builtin; refine push_own rfl _ _ rfl wr (B + 1) (.slice Av ys.length cv) ys 0#8 rfl rfl hM.own hM.s (by omega) ?_; intro v' W4 hown hb)
      have hM4 := hM.push hb hown
      rw [HSN.out] at hM4
      clear hM hown hb
      go_wp2_with fail
      go_roundw
      case rel => exact ⟨t + 1, by omega, by omega, hM4⟩
      case measure =>
        obtain ⟨Av2, cv2, rfl, _⟩ := ownsRow_form hM4.own
        rw [← HSN.out]
        simp
        omega
    · have htn2 : t = n := by omega
      have hys : xs ++ docTo n L t = xs ++ docTo n L n := by rw [htn2]
      have hmb : (xs ++ docTo n L t).length % 64 = 56 := by
        have := HN.out
        simp; omega
      have htm : Int.tmod ((xs ++ docTo n L t).length : Int) 64 = 56 := by rw [Int.tmod_eq_emod_of_nonneg (by omega)]; omega
      generalize xs ++ docTo n L t = ys at *
      have HYS := Lib.hid hys
      clear htn2 ht1 htn hlt hmb hys hcv
      have hLn : (xs.length : Int) * 8 = (L.toNat : Int) := by
        rw [← HL.out, BitVec.toNat_ofNat]
        omega
      have hLw : (L.toNat : Int) % 18446744073709551616 = (L.toNat : Int) := by
        have := L.isLt
        omega
      go_upto_region 5 with (fail)
      go_wp2_with fail
      go_loopw [3, 5] (fun v i wr => ∃ (k : Nat) (z : Int) (zs : List (BitVec 8)), k ≤ 8 ∧ i = .int .i64 z ∧ z = 7 - (k : Int) ∧ zs = xs ++ docTo n L (n + k) ∧ SumM w B zs v wr) (fun _ i _ => (intOf i + 1).toNat)
      case atStart => exact ⟨0, 7, ys, by omega, rfl, rfl, HYS.out, hM⟩
      clear hM hLw hLn
      case round =>
        obtain ⟨k, z, zs, hk, rfl, hz, hzs, hM⟩ := hrel
        obtain ⟨Av2, cv2, rfl, hcv2⟩ := ownsRow_form hM.own
        have hle2 : zs.length ≤ 140737488352000 := by
          have := HN.out
          rw [hzs]
          simp; omega
        by_cases hlt : k < 8
        · have hze : z = ((7 - k : Nat) : Int) := by omega
          have hpf : padF n L 8 (n + k) = (L >>> (8 * (7 - k))).setWidth 8 := by
            unfold padF
            rw [if_pos (by omega), show 56 - 8 * (n + k - n) = 8 * (7 - k) by omega]
          have hsn : zs ++ [(L >>> (8 * (7 - k))).setWidth 8] = xs ++ docTo n L (n + (k + 1)) := by rw [hzs, ← Nat.add_assoc, docTo_succ, hpf, List.append_assoc]
          have he8 : 7 - k < 8 := by omega
          have hek : (7 : Int) - (k + 1 : Nat) = ((7 - k : Nat) : Int) - 1 := by omega
          generalize 7 - k = e at *
          subst hze
          have HSN := Lib.hid hsn
          have HZS := Lib.hid hzs
          have HEK := Lib.hid hek
          clear hsn hzs hek hz hpf hcv2
          have e0 : (0 : Int) ≤ (e : Int) := by omega
          have e1 : (8 : Int) * (e : Int) = ((8 * e : Nat) : Int) := by omega
          have hby := n8_byte L (8 * e)
          have hs0 : 8 * e < 64 := by omega
          generalize 8 * e = s at *
          go_upto_region 8 with (fail)
          refine wp_region_list ?_
          iterate 21 go_step
          simp only [hby]
          go_wp2_with (at_builtin; refine push_own rfl _ _ rfl wr (B + 1) (.slice Av2 zs.length cv2) zs ((L >>> s).setWidth 8) rfl rfl hM.own hM.s hle2 ?_; intro v4 W4 hown hb)
          have hM4 := hM.push hb hown
          clear hM hown hb hby
          go_wp2_with fail
          go_roundw
          case rel => exact ⟨k + 1, (e : Int) - 1, _, by omega, by go_num, HEK.out.symm, HSN.out, hM4⟩
          case measure => simp [intOf]
        · have hk8 : k = 8 := by omega
          have hz1 : z = -1 := by omega
          have hzs2 : zs = xs ++ docTo n L (n + 8) := by rw [hzs, hk8]
          subst hz1
          clear hz hzs hlt hk hk8
          have hmod : zs.length % 64 = 0 := by
            have := HN.out
            rw [hzs2]
            simp; omega
          have hn2 : 0 < zs.length := by
            rw [hzs2]
            simp; omega
          have HN2 := Lib.hid hn2; clear hn2
          have hdg := HDG.out
          rw [← hzs2] at hdg
          have HDZ := Lib.hid hdg
          clear hdg hzs2 HDG HYS HL HN
          go_upto_region 9 with (fail)
          refine wp_region_list ?_
          refine wpList_build rfl 86 _ rfl #[(0, .int .u32 1779033703), (1, .int .u32 3144134277), (2, .int .u32 1013904242), (3, .int .u32 2773480762), (4, .int .u32 1359893119), (5, .int .u32 2600822924), (6, .int .u32 528734635), (7, .int .u32 1541459225)] (by kernel_rfl) (.agg (arr32 8 iv)) (fun _ => by kernel_rfl) ?_
          refine wpList_alloc_z rfl 86 rfl (Array.replicate 8 (.int .u32 0)) (fun _ => by kernel_rfl) ?_
          refine wpList_store_row rfl 86 _ _ rfl _ (arr32 8 iv) rfl rfl _ _ (heap_alloc_new _ _) (by kernel_rfl) (by simp) (arr32_one _ _) ?_
          rw [alloc_setRow]
          refine wpList_nil ?_
          simp only [Act.put, List.setIfInBounds_toArray, List.set_cons_zero, List.set_cons_succ]
          have hpos := HN2.out
          obtain ⟨g, o, rfl, hgl, hgc⟩ := SlRead.of_own hM.own (by simpa using hpos)
          have hcv3 := hcv2 hpos
          go_upto_region 10 with (fail)
          generalize hH : wr.heap.size = H at *
          refine wp_world (SumH w B H g o zs (feeds h0 (zs.take 0)).s) ?_ ?_
          · refine ⟨hM.b.alloc (by have := hM.s; omega) _, hM.r.alloc _, ?_, fun i u e => ?_, hgl, by have := hM.s; omega⟩
            · exact rowIs_new wr (arr32 8 iv) 86 H 8 _ hH.symm (arr32_size 8 iv) (fun i hi => arr32_get 8 iv i hi)
            · rw [World.cell?_alloc_lt _ _ _ (by rw [hH]; exact hgl)]
              refine hgc i _ ?_
              rw [bys_ints]
              simp [e]
          clear hM hgl hgc hcv2 hH
          rintro W3 hS
          go_wp2_with fail
          go_loopw [7] (fun i wr => ∃ p k : Nat, p = 64 * k ∧ p ≤ zs.length ∧ i = .int .i64 p ∧ SumH w B H g o zs (feeds h0 (zs.take p)).s wr) (fun i _ => zs.length + 64 - (intOf i).toNat)
          case atStart => exact ⟨0, 0, rfl, by omega, rfl, hS⟩
          clear hS
          case round =>
            obtain ⟨p, k, hp, hpl, rfl, hS⟩ := hrel
            by_cases hlt3 : p < zs.length
            · have hp64 : p + 64 ≤ zs.length := by omega
              obtain ⟨m, hm, hst⟩ := feeds_block zs p (by omega) hp64
              have hsl := slice_sl_lh (P := Tryd.prog) Tryd.underlying25 (show (Tryd.prog.info? 5).map (·.size) = some 1 by kernel_rfl) g o zs.length cv2 p 64 hp64 hcv3 hlt3
              have hgH := hS.l.1
              have hHs := hS.h.lt
              have hrd := round_any (feeds h0 (zs.take p)).s g (o + p) m (cv2 - p) wr.drew (fun i hi => by rw [Nat.add_assoc]; exact hS.c (p + i) _ (hm i hi)) (Nat.lt_trans hgH hHs)
              rw [← hst] at hrd
              have hh : wr.drew.heap[H]? = some (.cells (arr32 8 (feeds h0 (zs.take p)).s) 86 (0, 0)) := rowIs_heap32 hS.h
              have hSd : ∀ w', Below wr.heap.size wr.drew w' → SumH w B H g o zs (feeds h0 (zs.take p)).s w' := fun w' hb => hS.below ((Below.refl _ _).drew.trans hb)
              clear hS hm hst
              generalize feeds h0 (zs.take p) = F at *
              generalize hF2 : feeds h0 (zs.take (p + 64)) = F2 at *
              have HF2 := Lib.hid hF2; clear hF2
              have HP := Lib.hid hp; clear hp
              go_upto_region 13 with (fail)
              refine wp_region_still_tail 6 (by kernel_rfl) (by kernel_rfl) ?_
              simp only [List.take_succ_cons, List.take_zero, List.drop_succ_cons, List.drop_zero]
              refine wpStill_load_row rfl 86 _ rfl _ rfl _ _ _ _ hh Tryd.underlying86 rfl (by kernel_rfl) ?_
              repeat still_step
              refine wpStill_slice rfl 25 5 Tryd.underlying25 _ _ _ rfl (.slice (some ⟨g, o, none⟩) zs.length cv2) (.int .i64 (p : Int)) (.int .i64 ((p : Int) + 64)) _ (by rfl) (by rfl) (by show Value.int .i64 (IntKind.i64.wrap ((p : Int) + 64)) = _; rw [IntWalk.i64_in _ (by omega)]) (hsl _) ?_
              refine wpStill_nil ?_
              change wpList _ _ _ _ _ wr.drew
              go_wp2_with fail
              refine hrd.mono ?_
              rintro e W5 ⟨rfl, hb5⟩
              have hS5 := hSd W5 hb5
              have hh5 := rowIs_heap32 hS5.h
              have hS6 := hS5.set F2.s
              rw [HF2.out.symm] at hS6
              clear hh hS5 hrd hSd hb5 hsl
              go_wp2_with (refine wpList_store_row rfl 86 _ _ rfl _ (arr32 8 F2.s) rfl rfl _ _ hh5 (by kernel_rfl) (by simp) (arr32_one _ _) ?_)
              go_roundw
              case rel => exact ⟨p + 64, k + 1, by have := HP.out; omega, by omega, by go_num, by rw [HF2.out.symm]; exact hS6⟩
              case measure => simp [intOf]; omega
            · have hpz : zs.take p = zs := List.take_of_length_le (by omega)
              rw [hpz] at hS
              have hdk : decide ((p : Int) < (zs.length : Int)) = false := by simp; omega
              clear hpz hp
              have hdz := HDZ.out
              generalize (feeds h0 zs).s = S at *
              have HDG := Lib.hid hdz
              clear hdz HDZ HN2 hmod hcv3 hle2
              have hHs := hS.h.lt
              go_upto_region 15 with (refine wpList_alloc_z rfl 37 rfl (Array.replicate 32 (.int .u8 0)) (fun _ => by kernel_rfl) ?_)
              generalize hD : wr.heap.size = D at *
              refine wp_world (fun W => Below B w W ∧ W.rowIs B 37 32 (fun _ => .int .u8 0) ∧ W.rowIs H 86 8 (fun i => v32 (S i)) ∧ W.rowIs D 37 32 (fun i => v8 (outUp S 0 i))) ?_ ?_
              · have hl := hS.l
                refine ⟨hS.b.alloc (by omega) _, hS.r.alloc _, hS.h.alloc _, ?_⟩
                exact rowIs_new wr (Array.replicate 32 (.int .u8 0)) 37 D 32 _ hD.symm (by simp) (fun i hi => by simp [hi, outUp, n32])
              have hBH := hS.l.2
              clear hS hD
              rintro W6 ⟨hb, hr0, hrh, hrd⟩
              go_wp2_with fail
              go_loopw [9] (fun i wr => ∃ k : Nat, k ≤ 32 ∧ i = .int .i64 k ∧ Below B w wr ∧ wr.rowIs B 37 32 (fun _ => .int .u8 0) ∧ wr.rowIs H 86 8 (fun i => v32 (S i)) ∧ wr.rowIs D 37 32 (fun i => v8 (outUp S k i))) (fun i _ => 32 - (intOf i).toNat)
              case atStart => exact ⟨0, by omega, rfl, hb, hr0, hrh, hrd⟩
              clear hb hr0 hrh hrd
              case round =>
                obtain ⟨k, hk, rfl, hb, hr0, hrh, hrd⟩ := hrel
                by_cases hlt4 : k < 32
                · have htd : Int.tdiv (k : Int) 4 = ((k / 4 : Nat) : Int) := by rw [Int.tdiv_eq_ediv_of_nonneg (by omega)]; omega
                  have htm : Int.tmod (k : Int) 4 = ((k % 4 : Nat) : Int) := by rw [Int.tmod_eq_emod_of_nonneg (by omega)]; omega
                  have hout : outB S k = (S (k / 4) >>> (24 - 8 * (k % 4))).setWidth 8 := rfl
                  have h8 : (8 : Int) * ((k % 4 : Nat) : Int) = ((8 * (k % 4) : Nat) : Int) := by omega
                  have h24 : (24 : Int) - ((8 * (k % 4) : Nat) : Int) = ((24 - 8 * (k % 4) : Nat) : Int) := by omega
                  have hq8 : k / 4 < 8 := by omega
                  have hs24 : 24 - 8 * (k % 4) < 32 := by omega
                  generalize 24 - 8 * (k % 4) = s at *
                  generalize 8 * (k % 4) = r8 at *
                  generalize hr4 : k % 4 = r4 at *
                  have hr44 : r4 < 4 := by omega
                  clear hr4
                  generalize k / 4 = q at *
                  have HO := Lib.hid hout; clear hout
                  have cq := hrh.cell (i := q) hq8
                  have fz := hrd.frozen k
                  have cz := hrd.cell (i := k) hlt4
                  have hq0 : (q : Int) < 8 := by omega
                  have hk0 : (k : Int) < 32 := by omega
                  have hby : n32 (S q) / 2 ^ s % 256 = n8 ((S q >>> s).setWidth 8) := by
                    have := n32_byte (S q) s
                    simpa using this
                  go_wp2_with fail
                  go_roundw
                  case rel =>
                    refine ⟨k + 1, by omega, by go_num, hb.setCell (by simp only; omega) _, hr0.setOther (by simp only; omega) _, hrh.setOther (by simp only; omega) _, ?_⟩
                    refine (hrd.set k _).congr fun j hj => ?_
                    unfold outUp
                    by_cases e : j = k
                    · rw [if_pos e, e, if_pos (by omega), HO.out]
                    · rw [if_neg e]
                      by_cases e2 : j < k
                      · rw [if_pos e2, if_pos (by omega)]
                      · rw [if_neg e2, if_neg (by omega)]
                  case measure => simp [intOf]; omega
                · have hk32 : k = 32 := by omega
                  have hdk : decide ((k : Int) < 32) = false := by simp; omega
                  have hrd2 := hrd.congr (g := fun i => v8 (outB S i)) fun i hi => by unfold outUp; rw [if_pos (by omega)]
                  have hhD := rowIs_heap8 hrd2
                  obtain ⟨old, hro1, hro2, _⟩ := hr0
                  have hbb := below_setRow (g := B) hb (by omega) (arr8 32 (outB S))
                  have hres : (wr.setRow B (arr8 32 (outB S))).heap[B]? = some (.cells (arr8 32 (outB S)) 37 (0, 0)) := setRow_heap _ _ _ _ _ _ hro1
                  clear hk32 hrd hrd2 hrh hb
                  go_wp2_with (first | (refine wpList_load_row rfl 37 _ rfl _ rfl _ _ _ _ hhD Tryd.underlying37 rfl (by kernel_rfl) ?_) | (refine wpList_store_row rfl 37 _ _ rfl _ _ rfl rfl _ _ hro1 (by kernel_rfl) (by simpa using hro2) (arr8_one _ _) ?_))
                  refine bodyPost_ret (results_cell_row rfl _ _ _ _ _ _ _ rfl hres Tryd.underlying37 rfl (by kernel_rfl)) rfl ?_
                  rw [HDG.out, HB.out]
                  exact ⟨rfl, hbb⟩
end Go.Proofs.YtffkjbbhbpaacaaDoor
