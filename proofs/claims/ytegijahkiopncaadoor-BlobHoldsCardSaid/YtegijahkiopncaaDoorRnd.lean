import Derived.Test.YtegijahkiopncaaDoorSl
namespace Go.Proofs.YtegijahkiopncaaDoor
open Go.RowKit

/-- what the document's round keeps while it goes: the state that came in, the result's cell, the numbers, the words -/
structure RdAt (w : World) (B C : Nat) (h : Nat → BitVec 32) (W' : Nat → BitVec 32) (wr : World) : Prop where
  h : wr.rowIs B 75 8 (fun i => v32 (h i))
  r : wr.rowIs (B + 1) 75 8 (fun _ => .int .u32 0)
  k : wr.rowIs C 88 64 (fun i => v32 (kR i))
  ws : wr.rowIs (C + 1) 88 64 (fun i => v32 (W' i))
  b : Below B w wr
  c : B + 1 < C
theorem RdAt.put {w : World} {B C : Nat} {h W' : Nat → BitVec 32} {wr : World} (hh : RdAt w B C h W' wr) (i : Nat) (x : BitVec 32) : RdAt w B C h (updw W' i x) (wr.setCell ⟨C + 1, i, none⟩ (v32 x)) := by
  have hc := hh.c
  refine ⟨hh.h.setOther (a := ⟨C + 1, i, none⟩) (by simp only; omega) _, hh.r.setOther (a := ⟨C + 1, i, none⟩) (by simp only; omega) _, hh.k.setOther (a := ⟨C + 1, i, none⟩) (by simp only; omega) _, ?_, hh.b.setCell (by simp only; omega) _, hc⟩
  refine (hh.ws.set i _).congr fun j _ => ?_
  unfold updw
  split <;> simp [*]
theorem RdAt.drewN {w : World} {B C : Nat} {h W' : Nat → BitVec 32} {wr : World} (hh : RdAt w B C h W' wr) (n : Nat) : RdAt w B C h W' (wr.drewN n) := ⟨hh.h, hh.r, hh.k, hh.ws, hh.b.trans (Below.drewNr n), hh.c⟩
def kParts : Array (Nat × Value) := #[(0, .int .u32 1116352408), (1, .int .u32 1899447441), (2, .int .u32 3049323471), (3, .int .u32 3921009573), (4, .int .u32 961987163), (5, .int .u32 1508970993), (6, .int .u32 2453635748), (7, .int .u32 2870763221), (8, .int .u32 3624381080), (9, .int .u32 310598401), (10, .int .u32 607225278), (11, .int .u32 1426881987), (12, .int .u32 1925078388), (13, .int .u32 2162078206), (14, .int .u32 2614888103), (15, .int .u32 3248222580), (16, .int .u32 3835390401), (17, .int .u32 4022224774), (18, .int .u32 264347078), (19, .int .u32 604807628), (20, .int .u32 770255983), (21, .int .u32 1249150122), (22, .int .u32 1555081692), (23, .int .u32 1996064986), (24, .int .u32 2554220882), (25, .int .u32 2821834349), (26, .int .u32 2952996808), (27, .int .u32 3210313671), (28, .int .u32 3336571891), (29, .int .u32 3584528711), (30, .int .u32 113926993), (31, .int .u32 338241895), (32, .int .u32 666307205), (33, .int .u32 773529912), (34, .int .u32 1294757372), (35, .int .u32 1396182291), (36, .int .u32 1695183700), (37, .int .u32 1986661051), (38, .int .u32 2177026350), (39, .int .u32 2456956037), (40, .int .u32 2730485921), (41, .int .u32 2820302411), (42, .int .u32 3259730800), (43, .int .u32 3345764771), (44, .int .u32 3516065817), (45, .int .u32 3600352804), (46, .int .u32 4094571909), (47, .int .u32 275423344), (48, .int .u32 430227734), (49, .int .u32 506948616), (50, .int .u32 659060556), (51, .int .u32 883997877), (52, .int .u32 958139571), (53, .int .u32 1322822218), (54, .int .u32 1537002063), (55, .int .u32 1747873779), (56, .int .u32 1955562222), (57, .int .u32 2024104815), (58, .int .u32 2227730452), (59, .int .u32 2361852424), (60, .int .u32 2428436474), (61, .int .u32 2756734187), (62, .int .u32 3204031479), (63, .int .u32 3329325298)]
theorem kR_row : ∀ i, i < 64 → (arr32 64 kR)[i]? = some (v32 (kR i)) := fun i hi => arr32_get 64 kR i hi

theorem RdAt.putH {w : World} {B C : Nat} {h W' : Nat → BitVec 32} {wr : World} (hh : RdAt w B C h W' wr) (i : Nat) (x : BitVec 32) : RdAt w B C (updw h i x) W' (wr.setCell ⟨B, i, none⟩ (v32 x)) := by
  have hc := hh.c
  refine ⟨?_, hh.r.setOther (a := ⟨B, i, none⟩) (by simp only; omega) _, hh.k.setOther (a := ⟨B, i, none⟩) (by simp only; omega) _, hh.ws.setOther (a := ⟨B, i, none⟩) (by simp only; omega) _, hh.b.setCell (by simp only; omega) _, hc⟩
  refine (hh.h.set i _).congr fun j _ => ?_
  unfold updw
  split <;> simp [*]
/-- beside that the eight of a round, in their own block -/
structure RvAt (w : World) (B C E : Nat) (h : Nat → BitVec 32) (W' V : Nat → BitVec 32) (wr : World) : Prop where
  at_ : RdAt w B C h W' wr
  v : wr.rowIs E 75 8 (fun i => v32 (V i))
  e : C + 1 < E
theorem RvAt.drewN {w : World} {B C E : Nat} {h W' V : Nat → BitVec 32} {wr : World} (hh : RvAt w B C E h W' V wr) (n : Nat) : RvAt w B C E h W' V (wr.drewN n) := ⟨hh.at_.drewN n, hh.v, hh.e⟩
theorem RvAt.putH {w : World} {B C E : Nat} {h W' V : Nat → BitVec 32} {wr : World} (hh : RvAt w B C E h W' V wr) (i : Nat) (x : BitVec 32) : RvAt w B C E (updw h i x) W' V (wr.setCell ⟨B, i, none⟩ (v32 x)) := by
  have hc := hh.at_.c
  have he := hh.e
  exact ⟨hh.at_.putH i x, hh.v.setOther (a := ⟨B, i, none⟩) (by simp only; omega) _, hh.e⟩
theorem rowIs_setRow_ne {w : World} {b E : Nat} {t : TypeId} {n : Nat} {f : Nat → Value} (h : w.rowIs b t n f) (hne : b ≠ E) (cs : Array Value) : (w.setRow E cs).rowIs b t n f := by
  refine h.of_block ?_
  unfold World.setRow
  simp [Array.getElem?_modify, Ne.symm hne]
theorem RvAt.setV {w : World} {B C E : Nat} {h W' V : Nat → BitVec 32} {wr : World} (hh : RvAt w B C E h W' V wr) (V' : Nat → BitVec 32) : RvAt w B C E h W' V' (wr.setRow E (arr32 8 V')) := by
  have hc := hh.at_.c
  have he := hh.e
  refine ⟨⟨rowIs_setRow_ne hh.at_.h (by omega) _, rowIs_setRow_ne hh.at_.r (by omega) _, rowIs_setRow_ne hh.at_.k (by omega) _, rowIs_setRow_ne hh.at_.ws (by omega) _, below_setRow hh.at_.b (by omega) _, hc⟩, ?_, he⟩
  exact rowIs_arr (setRow_heap _ _ _ _ _ _ (rowIs_heap32 hh.v)) (by simp) (fun i hi => arr32_get 8 V' i hi)
theorem quiet_on {P : Program} {f : Nat} {args : Array Value} {w : World} {v : Value} (q k : Nat) (h : Calls P f args (w.drewN (q + k)) fun e w' => e = .returned v ∧ w' = w.drewN (q + k)) :
    Calls P f args (w.drewN (q + k)) fun e w' => e = .returned v ∧ ∃ n, w' = w.drewN (q + n) := h.mono fun _ _ ⟨h1, h2⟩ => ⟨h1, k, h2⟩
theorem dr_any (x : BitVec 32) (n : Int) (hn : n = 2 ∨ n = 6 ∨ n = 7 ∨ n = 11 ∨ n = 13 ∨ n = 17 ∨ n = 18 ∨ n = 19 ∨ n = 22 ∨ n = 25) (w : World) : Calls Tryd.prog 45 #[v32 x, .int .u64 n] w fun e w' => e = .returned (v32 (x.rotateRight n.toNat)) ∧ w' = w := by
  rcases hn with rfl | rfl | rfl | rfl | rfl | rfl | rfl | rfl | rfl | rfl
  · exact dr_2 x w
  · exact dr_6 x w
  · exact dr_7 x w
  · exact dr_11 x w
  · exact dr_13 x w
  · exact dr_17 x w
  · exact dr_18 x w
  · exact dr_19 x w
  · exact dr_22 x w
  · exact dr_25 x w

set_option maxRecDepth 100000 in
set_option maxHeartbeats 3200000 in
theorem round_any (h : Nat → BitVec 32) (sb so : Nat) (m : Nat → BitVec 8) (cap : Nat) (w : World) (hm : ∀ i, i < 64 → w.cell? ⟨sb, so + i, none⟩ = some (v8 (m i))) (hlt : sb < w.heap.size) :
    Calls Tryd.prog 36 #[.agg (arr32 8 h), .slice (some ⟨sb, so, none⟩) 64 cap] w fun e w' => e = .returned (.agg (arr32 8 (mixed h m))) ∧ Below w.heap.size w w' := by
  go_enter Tryd.func36, Tryd.ntmps36
  go_upto_region 1 with (fail)
  refine wp_world (fun W => Below w.heap.size w W ∧ W.heap.size = w.heap.size + 2 ∧ W.rowIs w.heap.size 75 8 (fun i => v32 (h i)) ∧ W.rowIs (w.heap.size + 1) 75 8 (fun _ => .int .u32 0)) ?_ ?_
  · refine ⟨by go_grown, by simp, ?_, ?_⟩
    · exact (rowIs_new w (arr32 8 h) 75 w.heap.size 8 _ rfl (arr32_size 8 h) (fun i hi => arr32_get 8 h i hi)).alloc _
    · exact rowIs_new (w.alloc _) (Array.replicate 8 (.int .u32 0)) 75 (w.heap.size + 1) 8 (fun _ => .int .u32 0) (by simp) (by simp) (fun i hi => by simp [hi])
  rintro W1 ⟨hb1, hs1, hr1, hr2⟩
  refine wp_region_list ?_
  refine wpList_build rfl 88 _ rfl kParts (by kernel_rfl) (.agg (arr32 64 kR)) (fun _ => by kernel_rfl) ?_
  refine wpList_alloc_z rfl 88 rfl (Array.replicate 64 (.int .u32 0)) (fun _ => by kernel_rfl) ?_
  refine wpList_store_row rfl 88 _ _ rfl _ (arr32 64 kR) rfl rfl _ _ (heap_alloc_new _ _) (by kernel_rfl) (by simp) (arr32_one _ _) ?_
  rw [alloc_setRow]
  refine wpList_nil ?_
  simp only [Act.put, List.setIfInBounds_toArray, List.set_cons_zero, List.set_cons_succ]
  generalize hC : W1.heap.size = C at *
  have HC := Lib.hid hC
  have HS1 := Lib.hid hs1
  clear hC hs1
  go_upto_region 3 with (fail)
  rw [show W1.heap.size = C from HC.out]
  refine wp_world (RdAt w w.heap.size C h (w16 m 0)) ?_ ?_
  · have hC := HC.out
    have hs := HS1.out
    refine ⟨(hr1.alloc _).alloc _, (hr2.alloc _).alloc _, ?_, ?_, (hb1.alloc (by omega) _).alloc (by simp; omega) _, by omega⟩
    · exact (rowIs_new W1 (arr32 64 kR) 88 C 64 _ hC.symm (arr32_size 64 kR) (fun i hi => arr32_get 64 kR i hi)).alloc _
    · exact rowIs_new (W1.alloc _) (Array.replicate 64 (.int .u32 0)) 88 (C + 1) 64 _ (by simp [hC]) (by simp) (fun i hi => by simp [hi, w16, n32])
  have hBC : w.heap.size + 1 < C := by have hC := HC.out; have hs := HS1.out; omega
  clear hb1 hr1 hr2 HC HS1 W1
  rintro W hW
  generalize hB : w.heap.size = B at *
  have HB := Lib.hid hB; clear hB
  go_wp2_with fail
  go_loopw [7] (fun i wr => ∃ k : Nat, k ≤ 16 ∧ i = .int .i64 k ∧ RdAt w B C h (w16 m k) wr) (fun i _ => 16 - (intOf i).toNat)
  case atStart => exact ⟨0, by omega, rfl, hW⟩
  clear hW W
  case round =>
    obtain ⟨k, hk, rfl, hR⟩ := hrel
    by_cases hlt2 : k < 16
    · have cc : ∀ i, i < 64 → wr.cell? ⟨sb, so + i, none⟩ = some (v8 (m i)) := fun i hi => by rw [World.cell?_of_block (hR.b.block sb (HB.out ▸ hlt))]; exact hm i hi
      have c0 := cc (4 * k) (by omega)
      have c1 := cc (4 * k + 1) (by omega)
      have c2 := cc (4 * k + 2) (by omega)
      have c3 := cc (4 * k + 3) (by omega)
      clear cc
      have i0 : 4 * (k : Int) = ((4 * k : Nat) : Int) := by omega
      have i1 : ((4 * k : Nat) : Int) + 1 = ((4 * k + 1 : Nat) : Int) := by omega
      have i2 : ((4 * k : Nat) : Int) + 2 = ((4 * k + 2 : Nat) : Int) := by omega
      have i3 : ((4 * k : Nat) : Int) + 3 = ((4 * k + 3 : Nat) : Int) := by omega
      have hput := hR.put k (wordB (m (4 * k)) (m (4 * k + 1)) (m (4 * k + 2)) (m (4 * k + 3)))
      rw [show updw (w16 m k) k (wordB (m (4 * k)) (m (4 * k + 1)) (m (4 * k + 2)) (m (4 * k + 3))) = w16 m (k + 1) from rfl] at hput
      have cw := hR.ws.cell (i := k) (by omega)
      have fw := hR.ws.frozen k
      have e3 : (4 * k + 3 : Nat) < 64 := by omega
      have k0 : (k : Int) < 64 := by omega
      clear hR
      generalize m (4 * k) = x at *
      generalize m (4 * k + 1) = y at *
      generalize m (4 * k + 2) = z at *
      generalize m (4 * k + 3) = u at *
      generalize hp1 : 4 * k + 1 = p1 at *
      generalize hp2 : 4 * k + 2 = p2 at *
      generalize hp3 : 4 * k + 3 = p3 at *
      generalize hp0 : 4 * k = p0 at *
      have g0 : (p0 : Int) < 64 := by omega
      have g1 : (p1 : Int) < 64 := by omega
      have g2 : (p2 : Int) < 64 := by omega
      have g3 : (p3 : Int) < 64 := by omega
      clear hp1 hp2 hp3 hp0 e3
      have s1 := n8_shl24 x
      have s2 := n8_shl16 y
      have s3 := n8_shl8 z
      have b0 := n8_hi x
      have b1 := n8_hi y
      have b2 := n8_hi z
      have b3 := n8_hi u
      have l0 := n8_lo x
      have l1 := n8_lo y
      have l2 := n8_lo z
      have l3 := n8_lo u
      have o1 := n32_or (x.setWidth 32 <<< 24) (y.setWidth 32 <<< 16)
      have o2 := n32_or (x.setWidth 32 <<< 24 ||| y.setWidth 32 <<< 16) (z.setWidth 32 <<< 8)
      have o3 := n32_or (x.setWidth 32 <<< 24 ||| y.setWidth 32 <<< 16 ||| z.setWidth 32 <<< 8) (u.setWidth 32)
      rw [show x.setWidth 32 <<< 24 ||| y.setWidth 32 <<< 16 ||| z.setWidth 32 <<< 8 ||| u.setWidth 32 = wordB x y z u from rfl] at o3
      go_wp2_with fail
      go_region
      go_wp2_with fail
      go_roundw
      case rel => exact ⟨k + 1, by omega, by go_num, hput.drewN _⟩
      case measure => simp [intOf]; omega
    · have hdk : decide ((k : Int) < 16) = false := by simp; omega
      have hk16 : k = 16 := by omega
      rw [hk16] at hR
      clear hk16
      clear hm hlt
      go_wp2_with fail
      go_loopw [8] (fun i wr => ∃ k : Nat, k ≤ 48 ∧ i = .int .i64 ((16 + k : Nat) : Int) ∧ RdAt w B C h (w64 (w16 m 16) k) wr) (fun i _ => 64 - (intOf i).toNat)
      case atStart => exact ⟨0, by omega, rfl, hR⟩
      clear hR
      case round =>
        obtain ⟨j, hj, rfl, hR⟩ := hrel
        by_cases hlt3 : j < 48
        · have h15 : ((16 + j : Nat) : Int) - 15 = ((j + 1 : Nat) : Int) := by omega
          have h2 : ((16 + j : Nat) : Int) - 2 = ((j + 14 : Nat) : Int) := by omega
          have h16 : ((16 + j : Nat) : Int) - 16 = (j : Int) := by omega
          have h7 : ((16 + j : Nat) : Int) - 7 = ((j + 9 : Nat) : Int) := by omega
          have hput := hR.put (16 + j) (w64 (w16 m 16) j j + sm_s (w64 (w16 m 16) j (j + 1)) + w64 (w16 m 16) j (j + 9) + sm_t (w64 (w16 m 16) j (j + 14)))
          rw [show updw (w64 (w16 m 16) j) (16 + j) (w64 (w16 m 16) j j + sm_s (w64 (w16 m 16) j (j + 1)) + w64 (w16 m 16) j (j + 9) + sm_t (w64 (w16 m 16) j (j + 14))) = w64 (w16 m 16) (j + 1) from rfl] at hput
          generalize hN0 : w64 (w16 m 16) (j + 1) = SN at hput
          have hN := Lib.hid hN0; clear hN0
          generalize w64 (w16 m 16) j = S at *
          have c1 := hR.ws.cell (i := j + 1) (by omega)
          have c14 := hR.ws.cell (i := j + 14) (by omega)
          have c0 := hR.ws.cell (i := j) (by omega)
          have c9 := hR.ws.cell (i := j + 9) (by omega)
          generalize hn : 16 + j = n at *
          have hn0 : (0 : Int) ≤ (n : Int) := by omega
          have hn1 : (n : Int) < 64 := by omega
          have fn := hR.ws.frozen n
          have fo := hR.ws.cell (i := n) (by omega)
          generalize hp1 : j + 1 = p1 at *
          generalize hp14 : j + 14 = p14 at *
          generalize hp9 : j + 9 = p9 at *
          have e1 : (p1 : Int) < 64 := by omega
          have e14 : (p14 : Int) < 64 := by omega
          have e9 : (p9 : Int) < 64 := by omega
          have e0 : (j : Int) < 64 := by omega
          have v1 : IntKind.i64.wrap (p1 : Int) = p1 := IntWalk.i64_in _ (by omega)
          have v14 : IntKind.i64.wrap (p14 : Int) = p14 := IntWalk.i64_in _ (by omega)
          have v9 : IntKind.i64.wrap (p9 : Int) = p9 := IntWalk.i64_in _ (by omega)
          have v0 : IntKind.i64.wrap (j : Int) = j := IntWalk.i64_in _ (by omega)
          have HP1 := Lib.hid hp1; have HP2 := Lib.hid hn
          clear hR hp1 hp14 hp9 hn
          go_wp2_with fail
          have x1 := n32_xor ((S p1).rotateRight 7) ((S p1).rotateRight 18)
          have x2 := n32_xor ((S p1).rotateRight 7 ^^^ (S p1).rotateRight 18) (S p1 >>> 3)
          rw [show (S p1).rotateRight 7 ^^^ (S p1).rotateRight 18 ^^^ S p1 >>> 3 = sm_s (S p1) from rfl] at x2
          have x3 : n32 (S p1) / (8 : Int) = n32 (S p1 >>> 3) := n32_shr (S p1) 3
          go_quiet (first | (go_at_call 45; refine Calls.quiet_of_same (dr_any _ _ (by decide) _)))
          go_wp2_with fail
          clear x1 x2 x3
          have y1 := n32_xor ((S p14).rotateRight 17) ((S p14).rotateRight 19)
          have y2 := n32_xor ((S p14).rotateRight 17 ^^^ (S p14).rotateRight 19) (S p14 >>> 10)
          rw [show (S p14).rotateRight 17 ^^^ (S p14).rotateRight 19 ^^^ S p14 >>> 10 = sm_t (S p14) from rfl] at y2
          have y3 : n32 (S p14) / (1024 : Int) = n32 (S p14 >>> 10) := n32_shr (S p14) 10
          go_quiet (first | (go_at_call 45; refine quiet_on _ _ (dr_any _ _ (by decide) _)))
          clear y1 y2 y3
          have a1 := n32_add (S j) (sm_s (S p1))
          have a2 := n32_add (S j + sm_s (S p1)) (S p9)
          have a3 := n32_add (S j + sm_s (S p1) + S p9) (sm_t (S p14))
          go_wp2_with fail
          go_region
          go_wp2_with fail
          go_roundw
          case rel => exact ⟨p1, by have := HP1.out; omega, by have h1 := HP1.out; have h2 := HP2.out; congr 1; omega, by rw [hN.out]; exact hput.drewN _⟩
          case measure => simp [intOf]; omega
        · have hj48 : j = 48 := by omega
          rw [hj48, show w64 (w16 m 16) 48 = sched m from rfl] at hR
          clear hj48
          generalize hn : 16 + j = n at *
          have hdk2 : decide ((n : Int) < 64) = false := by simp; omega
          clear hn hj hlt3
          have hmx : addTo h (rds h (sched m) 64) 8 = mixed h m := rfl
          generalize sched m = z at *
          have HMX := Lib.hid hmx; clear hmx
          have hh := rowIs_heap32 hR.h
          have hsz : C + 1 < wr.heap.size := World.block_lt_of_cell? wr _ (hR.ws.cell (i := 0) (by omega))
          go_upto_region 13 with (fail)
          refine wp_region_list ?_
          refine wpList_load_row rfl 75 _ rfl _ rfl _ _ _ _ hh Tryd.underlying75 rfl (by kernel_rfl) ?_
          refine wpList_alloc_z rfl 75 rfl (Array.replicate 8 (.int .u32 0)) (fun _ => by kernel_rfl) ?_
          refine wpList_store_row rfl 75 _ _ rfl _ (arr32 8 h) rfl rfl _ _ (heap_alloc_new _ _) (by kernel_rfl) (by simp) (arr32_one _ _) ?_
          rw [alloc_setRow]
          refine wpList_nil ?_
          simp only [Act.put, List.setIfInBounds_toArray, List.set_cons_zero, List.set_cons_succ]
          generalize hE : wr.heap.size = E at *
          have HE := Lib.hid hE
          have HS := Lib.hid hsz
          clear hE hsz
          go_upto_region 14 with (fail)
          refine wp_world (RvAt w B C E h z (rds h z 0)) ?_ ?_
          · have hB := HB.out
            have hE := HE.out
            have hsz := HS.out
            have hbs := hR.b.size
            refine ⟨⟨hR.h.alloc _, hR.r.alloc _, hR.k.alloc _, hR.ws.alloc _, hR.b.alloc (by omega) _, hR.c⟩, ?_, hsz⟩
            exact rowIs_new wr (arr32 8 h) 75 E 8 _ hE.symm (arr32_size 8 h) (fun i hi => arr32_get 8 h i hi)
          clear hR hh HE HS
          rintro W2 hW2
          go_wp2_with fail
          go_loopw [12] (fun i wr => ∃ k : Nat, k ≤ 64 ∧ i = .int .i64 k ∧ RvAt w B C E h z (rds h z k) wr) (fun i _ => 64 - (intOf i).toNat)
          case atStart => exact ⟨0, by omega, rfl, hW2⟩
          clear hW2
          case round =>
            obtain ⟨q, hq, rfl, hR⟩ := hrel
            by_cases hlt4 : q < 64
            · have hset : ∀ n, RvAt w B C E h z (rds h z (q + 1)) ((wr.drewN n).setRow E (arr32 8 (rnd (rds h z q) (kR q) (z q)))) := fun n => (hR.drewN n).setV _
              have g1 := hR.at_.k.cell (i := q) (by omega)
              have g2 := hR.at_.ws.cell (i := q) (by omega)
              have hv := hR.v
              have hh := rowIs_heap32 hR.v
              clear hR
              generalize hRN0 : rds h z (q + 1) = RN at *
              have HRN := Lib.hid hRN0; clear hRN0
              generalize rds h z q = R at *
              generalize kR q = kk at *
              generalize z q = ww at *
              have c0 := hv.cell (i := 0) (by omega)
              have c1 := hv.cell (i := 1) (by omega)
              have c2 := hv.cell (i := 2) (by omega)
              have c3 := hv.cell (i := 3) (by omega)
              have c4 := hv.cell (i := 4) (by omega)
              have c5 := hv.cell (i := 5) (by omega)
              have c6 := hv.cell (i := 6) (by omega)
              have c7 := hv.cell (i := 7) (by omega)
              clear hv
              have x1 := n32_xor ((R 4).rotateRight 6) ((R 4).rotateRight 11)
              have x2 := n32_xor ((R 4).rotateRight 6 ^^^ (R 4).rotateRight 11) ((R 4).rotateRight 25)
              rw [show (R 4).rotateRight 6 ^^^ (R 4).rotateRight 11 ^^^ (R 4).rotateRight 25 = big_e (R 4) from rfl] at x2
              go_wp2_with fail
              go_quiet (first | (go_at_call 45; refine Calls.quiet_of_same (dr_any _ _ (by decide) _)))
              clear x1 x2
              have nt := n32_not (R 4)
              have a0 := n32_and (R 4) (R 5)
              have a1 := n32_and (~~~ R 4) (R 6)
              have a2 := n32_xor (R 4 &&& R 5) (~~~ R 4 &&& R 6)
              go_upto_region 19 with (fail)
              simp only [IntKind.signed, Bool.false_eq_true, ↓reduceIte, nt, a1, a2]
              clear nt a0 a1 a2
              have b0 := n32_add (R 7) (big_e (R 4))
              have b1 := n32_add (R 7 + big_e (R 4)) ((R 4 &&& R 5) ^^^ (~~~ R 4 &&& R 6))
              have b2 := n32_add (R 7 + big_e (R 4) + ((R 4 &&& R 5) ^^^ (~~~ R 4 &&& R 6))) kk
              have b3 := n32_add (R 7 + big_e (R 4) + ((R 4 &&& R 5) ^^^ (~~~ R 4 &&& R 6)) + kk) ww
              have b4 : (n32 (R 7 + big_e (R 4)) + n32 ((R 4 &&& R 5) ^^^ (~~~ R 4 &&& R 6)) + n32 kk + n32 ww) % 4294967296 = n32 (rnT R kk ww) := by
                rw [show rnT R kk ww = R 7 + big_e (R 4) + ((R 4 &&& R 5) ^^^ (~~~ R 4 &&& R 6)) + kk + ww from rfl, ← b3, ← b2, ← b1]
                omega
              clear b1 b2 b3
              have k0 : (q : Int) < 64 := by omega
              go_quiet (fail)
              simp only [Int.emod_add_emod, b4]
              clear b0 b4 g1 g2 k0
              go_wp2_with fail
              have x1 := n32_xor ((R 0).rotateRight 2) ((R 0).rotateRight 13)
              have x2 := n32_xor ((R 0).rotateRight 2 ^^^ (R 0).rotateRight 13) ((R 0).rotateRight 22)
              rw [show (R 0).rotateRight 2 ^^^ (R 0).rotateRight 13 ^^^ (R 0).rotateRight 22 = big_a (R 0) from rfl] at x2
              go_quiet (first | (go_at_call 45; refine quiet_on _ _ (dr_any _ _ (by decide) _)))
              clear x1 x2
              have a0 := n32_and (R 0) (R 1)
              have a1 := n32_and (R 0) (R 2)
              have a2 := n32_and (R 1) (R 2)
              have a3 := n32_xor (R 0 &&& R 1) (R 0 &&& R 2)
              have a4 := n32_xor (R 0 &&& R 1 ^^^ R 0 &&& R 2) (R 1 &&& R 2)
              go_upto_region 22 with (fail)
              clear a0 a1 a2 a3 a4
              have d0 := n32_add (R 3) (rnT R kk ww)
              have d1 := n32_add (rnT R kk ww) (big_a (R 0))
              have d2 := n32_add (rnT R kk ww + big_a (R 0)) ((R 0 &&& R 1) ^^^ (R 0 &&& R 2) ^^^ (R 1 &&& R 2))
              rw [BitVec.add_assoc (rnT R kk ww) (big_a (R 0)), show big_a (R 0) + ((R 0 &&& R 1) ^^^ (R 0 &&& R 2) ^^^ (R 1 &&& R 2)) = rnU R from rfl] at d2
              refine wp_region_list ?_
              iterate 62 go_step
              simp only [d0, d2]
              refine wpList_build rfl 75 _ rfl #[(0, v32 (rnT R kk ww + rnU R)), (1, v32 (R 0)), (2, v32 (R 1)), (3, v32 (R 2)), (4, v32 (R 3 + rnT R kk ww)), (5, v32 (R 4)), (6, v32 (R 5)), (7, v32 (R 6))] (by kernel_rfl) (.agg (arr32 8 (rnd R kk ww))) (fun _ => by kernel_rfl) ?_
              refine wpList_store_row rfl 75 _ _ rfl _ (arr32 8 (rnd R kk ww)) rfl rfl _ _ hh (by kernel_rfl) (by simp) (arr32_one _ _) ?_
              refine wpList_nil ?_
              simp only [Act.put, List.setIfInBounds_toArray, List.set_cons_zero, List.set_cons_succ]
              clear d0 d1 d2 c0 c1 c2 c3 c4 c5 c6 c7 hh
              go_wp2_with fail
              go_roundw
              case rel => exact ⟨q + 1, by omega, by go_num, by rw [HRN.out]; exact hset _⟩
              case measure => simp [intOf]; omega
            · have hdk3 : decide ((q : Int) < 64) = false := by simp; omega
              have hq64 : q = 64 := by omega
              rw [hq64] at hR
              clear hq64
              have hmx2 : addTo h (rds h z 64) 0 = h := by funext j; simp [addTo]
              have hR0 : RvAt w B C E (addTo h (rds h z 64) 0) z (rds h z 64) wr := by rw [hmx2]; exact hR
              clear hR hmx2
              generalize rds h z 64 = R at *
              go_wp2_with fail
              go_loopw [18] (fun i wr => ∃ k : Nat, k ≤ 8 ∧ i = .int .i64 k ∧ RvAt w B C E (addTo h R k) z R wr) (fun i _ => 8 - (intOf i).toNat)
              case atStart => exact ⟨0, by omega, rfl, hR0⟩
              clear hR0
              case round =>
                obtain ⟨k, hk1, rfl, hR⟩ := hrel
                by_cases hlt5 : k < 8
                · have hk0 : (k : Int) < 8 := by omega
                  have c1 := hR.at_.h.cell (i := k) (by omega)
                  rw [show addTo h R k k = h k by simp [addTo]] at c1
                  have c2 := hR.v.cell (i := k) (by omega)
                  have fz := hR.at_.h.frozen k
                  have a1 := n32_add (h k) (R k)
                  have hu : updw (addTo h R k) k (h k + R k) = addTo h R (k + 1) := by
                    funext j
                    unfold updw addTo
                    split
                    · subst_vars; simp
                    · by_cases e : j < k
                      · simp [e]; omega
                      · simp [e]; omega
                  have hput := hR.putH k (h k + R k)
                  rw [hu] at hput
                  clear hR hu
                  go_wp2_with fail
                  go_region
                  go_wp2_with fail
                  go_roundw
                  case rel => exact ⟨k + 1, by omega, by go_num, hput.drewN _⟩
                  case measure => simp [intOf]; omega
                · have hdk4 : decide ((k : Int) < 8) = false := by simp; omega
                  have hk8 : k = 8 := by omega
                  rw [hk8, HMX.out] at hR
                  clear hk8
                  generalize hM : mixed h m = M at *
                  have HM := Lib.hid hM; clear hM
                  have hh := rowIs_heap32 hR.at_.h
                  obtain ⟨old, hr1, hr2, _⟩ := hR.at_.r
                  have hbb := below_setRow (g := B + 1) hR.at_.b (by omega) (arr32 8 M)
                  have hres : (wr.setRow (B + 1) (arr32 8 M)).heap[B + 1]? = some (.cells (arr32 8 M) 75 (0, 0)) := setRow_heap _ _ _ _ _ _ hr1
                  clear hR
                  go_wp2_with (first | (refine wpList_load_row rfl 75 _ rfl _ rfl _ _ _ _ hh Tryd.underlying75 rfl (by kernel_rfl) ?_) | (refine wpList_store_row rfl 75 _ _ rfl _ _ rfl rfl _ _ hr1 (by kernel_rfl) (by simpa using hr2) (arr32_one _ _) ?_))
                  refine bodyPost_ret (results_cell_row rfl _ _ _ _ _ _ _ rfl hres Tryd.underlying75 rfl (by kernel_rfl)) rfl ?_
                  rw [HB.out, HM.out]
                  exact ⟨rfl, hbb⟩
end Go.Proofs.YtegijahkiopncaaDoor
