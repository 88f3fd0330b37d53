import Derived.Test.YtpegihfocnchnaaKc
namespace Go.Proofs.Ytpegihfocnchnaa
open Go.RowKit

def dbls (s : Nat → BitVec 32) : Nat → Nat → BitVec 32
  | 0 => s
  | n + 1 => dbl (dbls s n)
/-- words as bytes, the least first -/
def bytesOf (z : Nat → BitVec 32) : Nat → BitVec 8 := fun i => (z (i / 4) >>> (8 * (i % 4))).setWidth 8
def mixed (s : Nat → BitVec 32) : Nat → BitVec 32 := fun i => dbls s 10 i + s i
/-- the block of the stream -/
def ckB (key : Nat → BitVec 8) (ct : BitVec 32) (non : Nat → BitVec 8) : Nat → BitVec 8 := bytesOf (mixed (start key ct non))

theorem n32_byte (x : BitVec 32) : n32 x % 256 = n8 (x.setWidth 8) := by
  unfold n8 n32
  simp only [BitVec.toNat_setWidth]
  omega

/-- a word's k-th byte as a number; closed to simp -/
def byt (x : BitVec 32) (k : Nat) : Int := n8 ((x >>> (8 * k)).setWidth 8)
theorem byt0 (x : BitVec 32) : n32 x % 256 = byt x 0 := by
  rw [n32_byte]; unfold byt; simp
theorem byt1 (x : BitVec 32) : n32 x / 256 % 256 = byt x 1 := by
  rw [show n32 x / (256 : Int) = n32 (x >>> 8) from n32_shr x 8, n32_byte]; rfl
theorem byt2 (x : BitVec 32) : n32 x / 65536 % 256 = byt x 2 := by
  rw [show n32 x / (65536 : Int) = n32 (x >>> 16) from n32_shr x 16, n32_byte]; rfl
theorem byt3 (x : BitVec 32) : n32 x / 16777216 % 256 = byt x 3 := by
  rw [show n32 x / (16777216 : Int) = n32 (x >>> 24) from n32_shr x 24, n32_byte]; rfl

def outTo (z : Nat → BitVec 32) (k : Nat) : Nat → Value := fun i => if i < 4 * k then v8 (bytesOf z i) else .int .u8 0

structure BkAt (w : World) (B : Nat) (key non : Nat → BitVec 8) (W : World) : Prop where
  k : W.rowIs B 31 32 (fun i => v8 (key i))
  n : W.rowIs (B + 1) 36 12 (fun i => v8 (non i))
  r : W.rowIs (B + 1 + 1) 42 64 (fun _ => .int .u8 0)
  b : Below B w W
theorem BkAt.below {w : World} {B : Nat} {key non : Nat → BitVec 8} {W W' : World} (h : BkAt w B key non W) (hb : Below W.heap.size W W') : BkAt w B key non W' :=
  ⟨h.k.of_block (hb.block _ h.k.lt), h.n.of_block (hb.block _ h.n.lt), h.r.of_block (hb.block _ h.r.lt), h.b.trans (hb.mono (Nat.le_of_lt h.k.lt))⟩
theorem BkAt.only {w : World} {B : Nat} {key non : Nat → BitVec 8} {W W' : World} {g : Nat} (h : BkAt w B key non W) (ho : Only g W W') (hg : B + 1 + 1 < g) : BkAt w B key non W' :=
  ⟨ho.row h.k (by omega), ho.row h.n (by omega), ho.row h.r (by omega), h.b.trans (ho.below (by omega) (Nat.le_of_lt h.k.lt))⟩
theorem BkAt.alloc {w : World} {B : Nat} {key non : Nat → BitVec 8} {W : World} (h : BkAt w B key non W) (o : Obj) : BkAt w B key non (W.alloc o) :=
  h.below ((Below.refl _ _).alloc (Nat.le_refl _) o)

theorem put4 {w : World} {o : Nat} {z : Nat → BitVec 32} {k : Nat} (_hk : k < 16) (h : w.rowIs o 42 64 (outTo z k)) :
    ((((w.setCell ⟨o, 4 * k, none⟩ (.int .u8 (byt (z k) 0))).setCell ⟨o, 4 * k + 1, none⟩ (.int .u8 (byt (z k) 1))).setCell ⟨o, 4 * k + 2, none⟩ (.int .u8 (byt (z k) 2))).setCell ⟨o, 4 * k + 3, none⟩ (.int .u8 (byt (z k) 3))).rowIs o 42 64 (outTo z (k + 1)) := by
  refine ((((h.set _ _).set _ _).set _ _).set _ _).congr fun i hi => ?_
  unfold outTo bytesOf byt
  by_cases h3 : i = 4 * k + 3
  · subst h3
    simp [show (4 * k + 3) / 4 = k by omega, show (4 * k + 3) % 4 = 3 by omega, show 4 * k + 3 < 4 * (k + 1) by omega]
  by_cases h2 : i = 4 * k + 2
  · subst h2
    simp [show (4 * k + 2) / 4 = k by omega, show (4 * k + 2) % 4 = 2 by omega, show 4 * k + 2 < 4 * (k + 1) by omega]
  by_cases h1 : i = 4 * k + 1
  · subst h1
    simp [show (4 * k + 1) / 4 = k by omega, show (4 * k + 1) % 4 = 1 by omega, show 4 * k + 1 < 4 * (k + 1) by omega]
  by_cases h0 : i = 4 * k
  · subst h0
    simp [show 4 * k / 4 = k by omega, show 4 * k % 4 = 0 by omega, show 4 * k < 4 * (k + 1) by omega]
  · rw [if_neg h3, if_neg h2, if_neg h1, if_neg h0]
    by_cases hlt : i < 4 * k
    · rw [if_pos hlt, if_pos (by omega)]
    · rw [if_neg hlt, if_neg (by omega)]

theorem zero_row8 (n : Nat) : ∀ i, i < n → (Array.replicate n (Value.int IntKind.u8 0))[i]? = some (.int .u8 0) := by
  intro i hi; simp [hi]

set_option maxRecDepth 100000 in
set_option maxHeartbeats 800000 in
theorem ckb_any (key non : Nat → BitVec 8) (ct : BitVec 32) (w : World) :
    Calls Try.prog 16 #[.agg (arr8 32 key), v32 ct, .agg (arr8 12 non)] w fun e w' => e = .returned (.agg (arr8 64 (ckB key ct non))) ∧ Below w.heap.size w w' := by
  go_enter Try.func16, Try.ntmps16
  go_upto_region 1 with (fail)
  refine wp_world (BkAt w w.heap.size key non) ?_ ?_
  · refine ⟨?_, ?_, ?_, ?_⟩
    · exact ((rowIs_new _ _ _ _ _ _ (by simp) (by simp) (fun i hi => arr8_get 32 key i hi)).alloc _).alloc _
    · exact (rowIs_new _ _ _ _ _ _ (by simp) (by simp) (fun i hi => arr8_get 12 non i hi)).alloc _
    · exact rowIs_new _ _ _ _ _ _ (by simp) (by rfl) (zero_row8 64)
    · go_grown
  intro W hW
  generalize hB : w.heap.size = B at hW ⊢
  have HB := Lib.hid hB; clear hB
  have hk := rowIs_heap8 hW.k
  have hn := rowIs_heap8 hW.n
  go_wp2_with (first | (refine wpList_load_row rfl 31 _ rfl _ rfl _ _ _ _ hk Try.underlying31 rfl (by kernel_rfl) ?_) | (refine wpList_load_row rfl 36 _ rfl _ rfl _ _ _ _ hn Try.underlying36 rfl (by kernel_rfl) ?_))
  refine (state_any key non ct W).mono ?_
  rintro e W1 ⟨rfl, hb1⟩
  have hW1 := hW.below hb1
  clear hk hn hW hb1
  generalize hS : start key ct non = S
  have HS := Lib.hid hS; clear hS
  go_upto_region 2 with (refine wpList_store_row rfl 47 _ _ rfl _ _ rfl rfl _ _ (heap_alloc_new _ _) (by kernel_rfl) (by simp) (arr32_one _ _) ?_; rw [alloc_setRow])
  refine wp_world (fun W => BkAt w B key non W ∧ St W W1.heap.size S ∧ B + 1 + 1 < W1.heap.size) ⟨hW1.alloc _, rowIs_new _ _ _ _ _ _ rfl (by simp) (fun i hi => arr32_get 16 S i hi), hW1.r.lt⟩ ?_
  rintro W2 ⟨hW2, hS2, hg⟩
  generalize W1.heap.size = g at hS2 hg ⊢
  clear hW1
  have hh := rowIs_heap32 hS2
  go_upto_region 3 with (first | (refine wpList_store_row rfl 47 _ _ rfl _ _ rfl rfl _ _ (heap_alloc_new _ _) (by kernel_rfl) (by simp) (arr32_one _ _) ?_; rw [alloc_setRow]) | (refine wpList_load_row rfl 47 _ rfl _ rfl _ _ _ _ hh Try.underlying47 rfl (by kernel_rfl) ?_))
  refine wp_world (fun W => BkAt w B key non W ∧ St W g S ∧ St W W2.heap.size S ∧ g < W2.heap.size) ⟨hW2.alloc _, hS2.alloc _, rowIs_new _ _ _ _ _ _ rfl (by simp) (fun i hi => arr32_get 16 S i hi), hS2.lt⟩ ?_
  rintro W3 ⟨hW3, hS3, hT3, hgh⟩
  generalize W2.heap.size = h at hT3 hgh ⊢
  clear hW2 hS2 hh
  go_wp2_with fail
  go_loopw [17] (fun i wr => ∃ k : Nat, k ≤ 10 ∧ i = .int .i64 k ∧ BkAt w B key non wr ∧ St wr g S ∧ St wr h (dbls S k)) (fun i _ => 10 - (intOf i).toNat)
  case atStart => exact ⟨0, by omega, rfl, hW3, hS3, hT3⟩
  clear hW3 hS3 hT3
  case round =>
    obtain ⟨k, hk, rfl, hb, hs, ht⟩ := hrel
    by_cases hlt : k < 10
    · go_wp2_with fail
      refine (dbl_any h _ _ ht).mono ?_
      rintro e w1 ⟨rfl, ht1, ho⟩
      have hb1 := hb.only ho (by omega)
      have hs1 : St w1 g S := ho.row hs (by omega)
      clear hb hs ht ho
      go_wp2_with fail
      go_roundw
      case rel => exact ⟨k + 1, by omega, by go_num, hb1, hs1, ht1⟩
      case measure => simp [intOf]; omega
    · have hk10 : k = 10 := by omega
      rw [hk10] at ht
      clear hk10
      have hhT := rowIs_heap32 ht
      go_upto_region 8 with (fail)
      refine wp_world (fun W => BkAt w B key non W ∧ St W g S ∧ St W h (dbls S 10) ∧ W.rowIs wr.heap.size 42 64 (outTo (mixed S) 0) ∧ h < wr.heap.size) ⟨hb.alloc _, hs.alloc _, ht.alloc _, rowIs_new _ _ _ _ _ _ rfl (by rfl) (fun i hi => by rw [show outTo (mixed S) 0 i = .int .u8 0 by simp [outTo]]; exact zero_row8 64 i hi), ht.lt⟩ ?_
      rintro W4 ⟨hb4, hs4, ht4, ho4, hho⟩
      generalize wr.heap.size = o at ho4 hho ⊢
      have hh4 := rowIs_heap32 ht4
      clear hb hs ht hhT
      go_wp2_with (refine wpList_load_row rfl 47 _ rfl _ rfl _ _ _ _ hh4 Try.underlying47 rfl (by kernel_rfl) ?_)
      clear hh4
      go_loopw [22] (fun i wr => ∃ k : Nat, k ≤ 16 ∧ i = .int .i64 k ∧ BkAt w B key non wr ∧ St wr g S ∧ wr.rowIs o 42 64 (outTo (mixed S) k)) (fun i _ => 16 - (intOf i).toNat)
      case atStart => exact ⟨0, by omega, rfl, hb4, hs4, ho4⟩
      clear hb4 hs4 ho4 ht4
      case round =>
        obtain ⟨j, hj, rfl, hb, hs, ho⟩ := hrel
        by_cases hlt2 : j < 16
        · have hix := index_arr (P := Try.prog) Try.underlying47 Try.underlying34 (by kernel_rfl) (arr32 16 (dbls S 10)) j hlt2 _ (arr32_get 16 (dbls S 10) j hlt2)
          have cg := hs.cell hlt2
          have d0 := ho.cell (i := 4 * j) (by omega)
          have d1 := ho.cell (i := 4 * j + 1) (by omega)
          have d2 := ho.cell (i := 4 * j + 2) (by omega)
          have d3 := ho.cell (i := 4 * j + 3) (by omega)
          have f0 := ho.frozen (4 * j)
          have f1 := ho.frozen (4 * j + 1)
          have f2 := ho.frozen (4 * j + 2)
          have f3 := ho.frozen (4 * j + 3)
          have ho1 := put4 hlt2 ho
          have hO : Only o wr (((((wr.setCell ⟨o, 4 * j, none⟩ (.int .u8 (byt (mixed S j) 0))).setCell ⟨o, 4 * j + 1, none⟩ (.int .u8 (byt (mixed S j) 1))).setCell ⟨o, 4 * j + 2, none⟩ (.int .u8 (byt (mixed S j) 2))).setCell ⟨o, 4 * j + 3, none⟩ (.int .u8 (byt (mixed S j) 3)))) :=
            ((((Only.refl _ _).setCell _ _).setCell _ _).setCell _ _).setCell _ _
          have hb1 := hb.only hO (by omega)
          have hs1 : St _ g S := hO.row hs (by omega)
          rw [show mixed S j = dbls S 10 j + S j from rfl] at ho1 hb1 hs1
          clear hO hb hs ho
          generalize dbls S 10 = D at *
          have hadd := n32_add (D j) (S j)
          generalize hX : D j + S j = X at *
          have HX := Lib.hid hX; clear hX
          have y0 := byt0 X
          have y1 := byt1 X
          have y2 := byt2 X
          have y3 : n32 X / 16777216 = byt X 3 := by rw [← byt3]; have := n32_hi X; have := n32_lo X; exact (Int.emod_eq_of_lt (by omega) (by omega)).symm
          go_wp2_with fail
          go_roundw
          case rel => exact ⟨j + 1, by omega, by go_num, hb1, hs1, ho1⟩
          case measure => simp [intOf]; omega
        · have hj16 : j = 16 := by omega
          rw [hj16] at ho
          clear hj16
          have ho64 : wr.rowIs o 42 64 (fun i => v8 (ckB key ct non i)) := ho.congr (g := fun i => v8 (ckB key ct non i)) (fun i hi => by unfold ckB; rw [HS.out]; simp [outTo, show i < 64 by omega])
          have hho := rowIs_heap8 ho64
          obtain ⟨old, hr1, hr2, _⟩ := hb.r
          generalize hz : ckB key ct non = z at *
          have HZ := Lib.hid hz; clear hz
          have hbb := below_setRow (g := B + 1 + 1) hb.b (by omega) (arr8 64 z)
          have hres : (wr.setRow (B + 1 + 1) (arr8 64 z)).heap[B + 1 + 1]? = some (.cells (arr8 64 z) 42 (0, 0)) := setRow_heap _ _ _ _ _ _ hr1
          clear ho ho64 hs hb
          go_wp2_with (first | (refine wpList_load_row rfl 42 _ rfl _ rfl _ _ _ _ hho Try.underlying42 rfl (by kernel_rfl) ?_) | (refine wpList_store_row rfl 42 _ _ rfl _ _ rfl rfl _ _ hr1 (by kernel_rfl) (by simpa using hr2) (arr8_one _ _) ?_))
          refine bodyPost_ret (results_cell_row rfl _ _ _ _ _ _ _ rfl hres Try.underlying42 rfl (by kernel_rfl)) rfl ?_
          rw [HZ.out, HB.out]
          exact ⟨rfl, hbb⟩
end Go.Proofs.Ytpegihfocnchnaa
