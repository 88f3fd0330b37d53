import Derived.Test.YtpegihfocnchnaaDoorKe
import Derived.StillTailTactics
namespace Go.Proofs.YtpegihfocnchnaaDoor
open Go.RowKit

set_option maxHeartbeats 400000 in
theorem rrot_16 (x : BitVec 32) (w : World) : Calls Tryd.prog 67 #[v32 x, .int .u64 16] w fun e w' => e = .returned (v32 (x.rotateLeft 16)) ∧ w' = w := by
  have h2 := n32_or
  have h3 : ∀ x : BitVec 32, (n32 x * (65536 : Int)) % (4294967296 : Int) = n32 (x <<< 16) := fun x => n32_shl x 16
  have h4 : ∀ x : BitVec 32, n32 x / (65536 : Int) = n32 (x >>> 16) := fun x => n32_shr x 16
  have h5 : x >>> 16 ||| x <<< 16 = x.rotateLeft 16 := by rw [BitVec.rotateLeft_def, BitVec.or_comm]
  go_enter Tryd.func67, Tryd.ntmps67
  go_wp2
  go_ret
  exact ⟨rfl, rfl⟩

set_option maxHeartbeats 400000 in
theorem rrot_20 (x : BitVec 32) (w : World) : Calls Tryd.prog 67 #[v32 x, .int .u64 20] w fun e w' => e = .returned (v32 (x.rotateLeft 12)) ∧ w' = w := by
  have h2 := n32_or
  have h3 : ∀ x : BitVec 32, (n32 x * (4096 : Int)) % (4294967296 : Int) = n32 (x <<< 12) := fun x => n32_shl x 12
  have h4 : ∀ x : BitVec 32, n32 x / (1048576 : Int) = n32 (x >>> 20) := fun x => n32_shr x 20
  have h5 : x >>> 20 ||| x <<< 12 = x.rotateLeft 12 := by rw [BitVec.rotateLeft_def, BitVec.or_comm]
  go_enter Tryd.func67, Tryd.ntmps67
  go_wp2
  go_ret
  exact ⟨rfl, rfl⟩

set_option maxHeartbeats 400000 in
theorem rrot_24 (x : BitVec 32) (w : World) : Calls Tryd.prog 67 #[v32 x, .int .u64 24] w fun e w' => e = .returned (v32 (x.rotateLeft 8)) ∧ w' = w := by
  have h2 := n32_or
  have h3 : ∀ x : BitVec 32, (n32 x * (256 : Int)) % (4294967296 : Int) = n32 (x <<< 8) := fun x => n32_shl x 8
  have h4 : ∀ x : BitVec 32, n32 x / (16777216 : Int) = n32 (x >>> 24) := fun x => n32_shr x 24
  have h5 : x >>> 24 ||| x <<< 8 = x.rotateLeft 8 := by rw [BitVec.rotateLeft_def, BitVec.or_comm]
  go_enter Tryd.func67, Tryd.ntmps67
  go_wp2
  go_ret
  exact ⟨rfl, rfl⟩

set_option maxHeartbeats 400000 in
theorem rrot_25 (x : BitVec 32) (w : World) : Calls Tryd.prog 67 #[v32 x, .int .u64 25] w fun e w' => e = .returned (v32 (x.rotateLeft 7)) ∧ w' = w := by
  have h2 := n32_or
  have h3 : ∀ x : BitVec 32, (n32 x * (128 : Int)) % (4294967296 : Int) = n32 (x <<< 7) := fun x => n32_shl x 7
  have h4 : ∀ x : BitVec 32, n32 x / (33554432 : Int) = n32 (x >>> 25) := fun x => n32_shr x 25
  have h5 : x >>> 25 ||| x <<< 7 = x.rotateLeft 7 := by rw [BitVec.rotateLeft_def, BitVec.or_comm]
  go_enter Tryd.func67, Tryd.ntmps67
  go_wp2
  go_ret
  exact ⟨rfl, rfl⟩

/- the document's quarter round, a step each -/
def rq0 (s : Nat → BitVec 32) (_ _ _ _ : Nat) : Nat → BitVec 32 := s
def rq1 (s : Nat → BitVec 32) (a b c d : Nat) : Nat → BitVec 32 := updW (rq0 s a b c d) a ((rq0 s a b c d) a + (rq0 s a b c d) b)
def rq2 (s : Nat → BitVec 32) (a b c d : Nat) : Nat → BitVec 32 := updW (rq1 s a b c d) d (((rq1 s a b c d) d ^^^ (rq1 s a b c d) a).rotateLeft 16)
def rq3 (s : Nat → BitVec 32) (a b c d : Nat) : Nat → BitVec 32 := updW (rq2 s a b c d) c ((rq2 s a b c d) c + (rq2 s a b c d) d)
def rq4 (s : Nat → BitVec 32) (a b c d : Nat) : Nat → BitVec 32 := updW (rq3 s a b c d) b (((rq3 s a b c d) b ^^^ (rq3 s a b c d) c).rotateLeft 12)
def rq5 (s : Nat → BitVec 32) (a b c d : Nat) : Nat → BitVec 32 := updW (rq4 s a b c d) a ((rq4 s a b c d) a + (rq4 s a b c d) b)
def rq6 (s : Nat → BitVec 32) (a b c d : Nat) : Nat → BitVec 32 := updW (rq5 s a b c d) d (((rq5 s a b c d) d ^^^ (rq5 s a b c d) a).rotateLeft 8)
def rq7 (s : Nat → BitVec 32) (a b c d : Nat) : Nat → BitVec 32 := updW (rq6 s a b c d) c ((rq6 s a b c d) c + (rq6 s a b c d) d)
def rq8 (s : Nat → BitVec 32) (a b c d : Nat) : Nat → BitVec 32 := updW (rq7 s a b c d) b (((rq7 s a b c d) b ^^^ (rq7 s a b c d) c).rotateLeft 7)

theorem rq_eq (s : Nat → BitVec 32) (a b c d : Nat) (hab : a ≠ b) (hac : a ≠ c) (had : a ≠ d) (hbc : b ≠ c) (hbd : b ≠ d) (hcd : c ≠ d) : rq8 s a b c d = qs s a b c d := by
  have h21 := hab.symm
  have h31 := hac.symm
  have h41 := had.symm
  have h32 := hbc.symm
  have h42 := hbd.symm
  have h43 := hcd.symm
  funext i
  simp only [rq8, rq7, rq6, rq5, rq4, rq3, rq2, rq1, rq0, qs, qr, updW]
  by_cases h1 : i = a
  · subst h1; simp [*]
  by_cases h2 : i = b
  · subst h2; simp [*]
  by_cases h3 : i = c
  · subst h3; simp [*]
  by_cases h4 : i = d
  · subst h4; simp [*]
  · simp [h1, h2, h3, h4]

/-- the box of the words, the result's cell, and the rest -/
structure RqAt (w : World) (B : Nat) (s : Nat → BitVec 32) (W : World) : Prop where
  s : St W B s
  r : W.rowIs (B + 1) 75 16 (fun _ => .int .u32 0)
  b : Below B w W
theorem RqAt.put {w : World} {B : Nat} {s : Nat → BitVec 32} {W : World} (h : RqAt w B s W) (i : Nat) (x : BitVec 32) : RqAt w B (updW s i x) (W.setCell ⟨B, i, none⟩ (v32 x)) :=
  ⟨St.put h.s i x, h.r.setOther (a := ⟨B, i, none⟩) (by simp only; omega) _, h.b.setCell (by simp only; omega) _⟩
theorem RqAt.drew {w : World} {B : Nat} {s : Nat → BitVec 32} {W : World} (h : RqAt w B s W) : RqAt w B s W.drew := ⟨h.s, h.r, h.b.drew⟩

set_option maxRecDepth 100000 in
set_option maxHeartbeats 1600000 in
theorem rquarter_nat (a b c d : Nat) (s : Nat → BitVec 32) (w : World) (ha : a < 16) (hb : b < 16) (hc : c < 16) (hd : d < 16)
   (hab : a ≠ b) (hac : a ≠ c) (had : a ≠ d) (hbc : b ≠ c) (hbd : b ≠ d) (hcd : c ≠ d) :
  Calls Tryd.prog 58 #[.agg (arr32 16 s), .int .i64 a, .int .i64 b, .int .i64 c, .int .i64 d] w fun e w' => e = .returned (.agg (arr32 16 (qs s a b c d))) ∧ Below w.heap.size w w' := by
  have HQ := Lib.hid (rq_eq s a b c d hab hac had hbc hbd hcd)
  clear hab hac had hbc hbd hcd
  have ia : (a : Int) < 16 := by omega
  have ib : (b : Int) < 16 := by omega
  have ic : (c : Int) < 16 := by omega
  have id' : (d : Int) < 16 := by omega
  go_enter Tryd.func58, Tryd.ntmps58
  go_upto_region 1 with (fail)
  refine wp_world (RqAt w w.heap.size (rq0 s a b c d)) ?_ ?_
  · refine ⟨?_, ?_, ?_⟩
    · exact (rowIs_new _ _ _ _ _ _ (by first | rfl | simp) (by first | rfl | simp) (fun i hi => arr32_get 16 s i hi)).alloc _
    · exact rowIs_new _ _ _ _ _ _ (by first | rfl | simp) (by rfl) (zero_row 16)
    · go_grown
  intro W0 H0
  generalize hB : w.heap.size = B at H0 ⊢
  have HB := Lib.hid hB; clear hB
  generalize hs0 : rq0 s a b c d = s0 at H0
  have cx := H0.s.cell ha
  have cy := H0.s.cell hb
  have fx := H0.s.frozen a
  have hadd := n32_add (s0 a) (s0 b)
  have hput := H0.put a (s0 a + s0 b)
  have e1 : updW s0 a (s0 a + s0 b) = rq1 s a b c d := by rw [← hs0]; rfl
  have E1 := Lib.hid e1; have HS0 := Lib.hid hs0; clear e1 hs0
  go_upto_region 1 with (fail)
  go_region
  go_upto_region 2 with (fail)
  refine wp_world (RqAt w B (rq1 s a b c d)) (by rw [← E1.out]; first | exact hput | exact hput.drew) ?_
  intro W1 H1
  clear cx cy fx hput hadd H0
  generalize hs1 : rq1 s a b c d = s1 at H1
  have cx := H1.s.cell hd
  have cy := H1.s.cell ha
  have fx := H1.s.frozen d
  have hxor := n32_xor (s1 d) (s1 a)
  have hput := H1.put d ((s1 d ^^^ s1 a).rotateLeft 16)
  have e2 : updW s1 d ((s1 d ^^^ s1 a).rotateLeft 16) = rq2 s a b c d := by rw [← hs1]; rfl
  have E2 := Lib.hid e2; have HS1 := Lib.hid hs1; clear e2 hs1
  go_upto_region 2 with (fail)
  refine wp_region_still_tail 10 (by kernel_rfl) (by kernel_rfl) ?_
  simp only [List.take_succ_cons, List.take_zero, List.drop_succ_cons, List.drop_zero]
  repeat still_step
  still_call (rrot_16 _ _)
  repeat still_step
  refine wpStill_nil ?_
  go_upto_region 3 with (fail)
  refine wp_world (RqAt w B (rq2 s a b c d)) (by rw [← E2.out]; first | exact hput | exact hput.drew) ?_
  intro W2 H2
  clear cx cy fx hput hxor H1
  generalize hs2 : rq2 s a b c d = s2 at H2
  have cx := H2.s.cell hc
  have cy := H2.s.cell hd
  have fx := H2.s.frozen c
  have hadd := n32_add (s2 c) (s2 d)
  have hput := H2.put c (s2 c + s2 d)
  have e3 : updW s2 c (s2 c + s2 d) = rq3 s a b c d := by rw [← hs2]; rfl
  have E3 := Lib.hid e3; have HS2 := Lib.hid hs2; clear e3 hs2
  go_upto_region 3 with (fail)
  go_region
  go_upto_region 4 with (fail)
  refine wp_world (RqAt w B (rq3 s a b c d)) (by rw [← E3.out]; first | exact hput | exact hput.drew) ?_
  intro W3 H3
  clear cx cy fx hput hadd H2
  generalize hs3 : rq3 s a b c d = s3 at H3
  have cx := H3.s.cell hb
  have cy := H3.s.cell hc
  have fx := H3.s.frozen b
  have hxor := n32_xor (s3 b) (s3 c)
  have hput := H3.put b ((s3 b ^^^ s3 c).rotateLeft 12)
  have e4 : updW s3 b ((s3 b ^^^ s3 c).rotateLeft 12) = rq4 s a b c d := by rw [← hs3]; rfl
  have E4 := Lib.hid e4; have HS3 := Lib.hid hs3; clear e4 hs3
  go_upto_region 4 with (fail)
  refine wp_region_still_tail 10 (by kernel_rfl) (by kernel_rfl) ?_
  simp only [List.take_succ_cons, List.take_zero, List.drop_succ_cons, List.drop_zero]
  repeat still_step
  still_call (rrot_20 _ _)
  repeat still_step
  refine wpStill_nil ?_
  go_upto_region 5 with (fail)
  refine wp_world (RqAt w B (rq4 s a b c d)) (by rw [← E4.out]; first | exact hput | exact hput.drew) ?_
  intro W4 H4
  clear cx cy fx hput hxor H3
  generalize hs4 : rq4 s a b c d = s4 at H4
  have cx := H4.s.cell ha
  have cy := H4.s.cell hb
  have fx := H4.s.frozen a
  have hadd := n32_add (s4 a) (s4 b)
  have hput := H4.put a (s4 a + s4 b)
  have e5 : updW s4 a (s4 a + s4 b) = rq5 s a b c d := by rw [← hs4]; rfl
  have E5 := Lib.hid e5; have HS4 := Lib.hid hs4; clear e5 hs4
  go_upto_region 5 with (fail)
  go_region
  go_upto_region 6 with (fail)
  refine wp_world (RqAt w B (rq5 s a b c d)) (by rw [← E5.out]; first | exact hput | exact hput.drew) ?_
  intro W5 H5
  clear cx cy fx hput hadd H4
  generalize hs5 : rq5 s a b c d = s5 at H5
  have cx := H5.s.cell hd
  have cy := H5.s.cell ha
  have fx := H5.s.frozen d
  have hxor := n32_xor (s5 d) (s5 a)
  have hput := H5.put d ((s5 d ^^^ s5 a).rotateLeft 8)
  have e6 : updW s5 d ((s5 d ^^^ s5 a).rotateLeft 8) = rq6 s a b c d := by rw [← hs5]; rfl
  have E6 := Lib.hid e6; have HS5 := Lib.hid hs5; clear e6 hs5
  go_upto_region 6 with (fail)
  refine wp_region_still_tail 10 (by kernel_rfl) (by kernel_rfl) ?_
  simp only [List.take_succ_cons, List.take_zero, List.drop_succ_cons, List.drop_zero]
  repeat still_step
  still_call (rrot_24 _ _)
  repeat still_step
  refine wpStill_nil ?_
  go_upto_region 7 with (fail)
  refine wp_world (RqAt w B (rq6 s a b c d)) (by rw [← E6.out]; first | exact hput | exact hput.drew) ?_
  intro W6 H6
  clear cx cy fx hput hxor H5
  generalize hs6 : rq6 s a b c d = s6 at H6
  have cx := H6.s.cell hc
  have cy := H6.s.cell hd
  have fx := H6.s.frozen c
  have hadd := n32_add (s6 c) (s6 d)
  have hput := H6.put c (s6 c + s6 d)
  have e7 : updW s6 c (s6 c + s6 d) = rq7 s a b c d := by rw [← hs6]; rfl
  have E7 := Lib.hid e7; have HS6 := Lib.hid hs6; clear e7 hs6
  go_upto_region 7 with (fail)
  go_region
  go_upto_region 8 with (fail)
  refine wp_world (RqAt w B (rq7 s a b c d)) (by rw [← E7.out]; first | exact hput | exact hput.drew) ?_
  intro W7 H7
  clear cx cy fx hput hadd H6
  generalize hs7 : rq7 s a b c d = s7 at H7
  have cx := H7.s.cell hb
  have cy := H7.s.cell hc
  have fx := H7.s.frozen b
  have hxor := n32_xor (s7 b) (s7 c)
  have hput := H7.put b ((s7 b ^^^ s7 c).rotateLeft 7)
  have e8 : updW s7 b ((s7 b ^^^ s7 c).rotateLeft 7) = rq8 s a b c d := by rw [← hs7]; rfl
  have E8 := Lib.hid e8; have HS7 := Lib.hid hs7; clear e8 hs7
  go_upto_region 8 with (fail)
  refine wp_region_still_tail 10 (by kernel_rfl) (by kernel_rfl) ?_
  simp only [List.take_succ_cons, List.take_zero, List.drop_succ_cons, List.drop_zero]
  repeat still_step
  still_call (rrot_25 _ _)
  repeat still_step
  refine wpStill_nil ?_
  go_upto_region 9 with (fail)
  refine wp_world (RqAt w B (rq8 s a b c d)) (by rw [← E8.out]; first | exact hput | exact hput.drew) ?_
  intro W8 H8
  clear cx cy fx hput hxor H7
  rw [HQ.out] at H8
  have hh := rowIs_heap32 H8.s
  obtain ⟨old, hr1, hr2, _⟩ := H8.r
  generalize hz : qs s a b c d = z at *
  have HZ := Lib.hid hz; clear hz
  have hbb := below_setRow (g := B + 1) H8.b (by omega) (arr32 16 z)
  have hres : (W8.setRow (B + 1) (arr32 16 z)).heap[B + 1]? = some (.cells (arr32 16 z) 75 (0, 0)) := setRow_heap _ _ _ _ _ _ hr1
  go_wp2_with (first | (refine wpList_load_row rfl 75 _ rfl _ rfl _ _ _ _ hh Tryd.underlying75 rfl (by kernel_rfl) ?_) | (refine wpList_store_row rfl 75 _ _ rfl _ _ rfl rfl _ _ hr1 (by kernel_rfl) (by simpa using hr2) (arr32_one _ _) ?_))
  refine bodyPost_ret (results_cell_row rfl _ _ _ _ _ _ _ rfl hres Tryd.underlying75 rfl (by kernel_rfl)) rfl ?_
  rw [HZ.out, HB.out]
  exact ⟨rfl, hbb⟩
end Go.Proofs.YtpegihfocnchnaaDoor
