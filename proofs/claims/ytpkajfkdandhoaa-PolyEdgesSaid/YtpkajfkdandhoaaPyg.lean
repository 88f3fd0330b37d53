import Derived.Test.YtpkajfkdandhoaaPyf
/-
  poly.tag: the least number and the key's second half, digit by digit.
-/
namespace Go.Proofs.Ytpkajfkdandhoaa
open Go.RowKit

/-- what is added at place t -/
def tagF (N : Nat) (key : Nat → BitVec 8) (t : Nat) : Nat := dg N t + (key (16 + t)).toNat
def tagB (N : Nat) (key : Nat → BitVec 8) (t : Nat) : BitVec 8 := BitVec.ofNat 8 (dg (num (tagF N key) 16) t)
theorem dg_later (f : Nat → Nat) (i : Nat) : ∀ m, i + 1 ≤ m → dg (num f m) i = dg (num f (i + 1)) i
  | 0, h => by omega
  | m + 1, h => by
    by_cases e : m = i
    · rw [e]
    · rw [carry_keep f m i (by omega)]; exact dg_later f i m (by omega)
/-- how many limbs have been taken ahead of byte i -/
def took (i : Nat) : Nat := if i = 0 then 0 else if i ≤ 3 then 1 else if i ≤ 6 then 2 else if i ≤ 9 then 3 else if i ≤ 13 then 4 else 5
theorem took_le (i : Nat) : took i ≤ 5 := by unfold took; (repeat' split) <;> omega
def haveN (N i : Nat) : Nat := N % 67108864 ^ took i / 256 ^ i
theorem have_load (N i : Nat) (h : i = 0 ∨ i = 3 ∨ i = 6 ∨ i = 9 ∨ i = 13) :
    haveN N i < 2 ^ (26 * took i - 8 * i) ∧ took (i + 1) = took i + 1 ∧ 26 * took i - 8 * i < 8 ∧ 8 * i ≤ 26 * took i ∧ took i < 5 ∧
    haveN N i + limb N (took i) * 2 ^ (26 * took i - 8 * i) = N % 67108864 ^ took (i + 1) / 256 ^ i := by
  rcases h with rfl | rfl | rfl | rfl | rfl <;> simp [haveN, took, limb] <;> omega
theorem have_keep (i : Nat) (hi : i < 16) (h : ¬ (i = 0 ∨ i = 3 ∨ i = 6 ∨ i = 9 ∨ i = 13)) :
    took (i + 1) = took i ∧ 8 ≤ 26 * took i - 8 * i ∧ 8 * i ≤ 26 * took i := by
  have : i = 1 ∨ i = 2 ∨ i = 4 ∨ i = 5 ∨ i = 7 ∨ i = 8 ∨ i = 10 ∨ i = 11 ∨ i = 12 ∨ i = 14 ∨ i = 15 := by omega
  rcases this with rfl | rfl | rfl | rfl | rfl | rfl | rfl | rfl | rfl | rfl | rfl <;> simp [took]
theorem have_digit (N i : Nat) (hi : i < 16) : N % 67108864 ^ took (i + 1) / 256 ^ i % 256 = dg N i ∧ N % 67108864 ^ took (i + 1) / 256 ^ i / 256 = haveN N (i + 1) ∧ N % 67108864 ^ took (i + 1) / 256 ^ i < 18014398509481984 := by
  refine ⟨?_, ?_, ?_⟩
  · unfold dg
    have : i = 0 ∨ i = 1 ∨ i = 2 ∨ i = 3 ∨ i = 4 ∨ i = 5 ∨ i = 6 ∨ i = 7 ∨ i = 8 ∨ i = 9 ∨ i = 10 ∨ i = 11 ∨ i = 12 ∨ i = 13 ∨ i = 14 ∨ i = 15 := by omega
    rcases this with rfl | rfl | rfl | rfl | rfl | rfl | rfl | rfl | rfl | rfl | rfl | rfl | rfl | rfl | rfl | rfl <;> simp [took] <;> omega
  · unfold haveN
    rw [Nat.div_div_eq_div_mul, ← Nat.pow_succ]
  · have : i = 0 ∨ i = 1 ∨ i = 2 ∨ i = 3 ∨ i = 4 ∨ i = 5 ∨ i = 6 ∨ i = 7 ∨ i = 8 ∨ i = 9 ∨ i = 10 ∨ i = 11 ∨ i = 12 ∨ i = 13 ∨ i = 14 ∨ i = 15 := by omega
    rcases this with rfl | rfl | rfl | rfl | rfl | rfl | rfl | rfl | rfl | rfl | rfl | rfl | rfl | rfl | rfl | rfl <;> simp [took] <;> omega
theorem n64_mask8 (x : Nat) (h : x < 18446744073709551616) : bits .and .u64 (n64 x) 255 = n64 (x % 256) := by
  have := u64_and_nat x 255 h (by omega)
  rw [show ((255 : Nat) : Int) = 255 from rfl] at this
  unfold n64
  rw [this]
  exact congrArg _ (Nat.and_two_pow_sub_one_eq_mod x 8)
theorem n64_shr8 (x : Nat) : n64 x / 256 = n64 (x / 256) := by unfold n64; omega
theorem wrap8 (x : Nat) : IntKind.u8.wrap (n64 x) = n8 (BitVec.ofNat 8 x) := by
  rw [n8_64]
  unfold n64
  simp [IntKind.wrap, IntKind.signed, IntKind.bits]
/-- the boxes, the result's cell, the bytes -/
structure PT (w : World) (B : Nat) (n : Nat → Nat) (key o : Nat → BitVec 8) (W : World) : Prop where
  n : L5 W B n
  k : W.rowIs (B + 1) 23 32 (fun i => v8 (key i))
  r : W.rowIs (B + 1 + 1) 26 16 (fun i => v8 ((fun _ => 0#8 : Nat → BitVec 8) i))
  o : W.rowIs (B + 1 + 1 + 1) 26 16 (fun i => v8 (o i))
  b : Below B w W
def outB (N : Nat) (key : Nat → BitVec 8) (k t : Nat) : BitVec 8 := if t < k then tagB N key t else 0#8

set_option maxRecDepth 100000 in
set_option maxHeartbeats 3200000 in
theorem tag_any (n : Nat → Nat) (key : Nat → BitVec 8) (w : World) (hn : ∀ i, i < 5 → n i < 67108864) :
    Calls Try.prog 18 #[.agg (arrN .u64 5 n), .agg (arr8 32 key)] w fun e w' => e = .returned (.agg (arr8 16 (tagB (val5 n) key))) ∧ Below w.heap.size w w' := by
  have HL := Lib.hid (limb_val5 n hn); have HN := Lib.hid hn; clear hn
  obtain ⟨N, hN⟩ : ∃ N, N = val5 n := ⟨_, rfl⟩
  rw [← hN] at HL ⊢
  clear hN
  go_enter Try.func18, Try.ntmps18
  go_wp2_with fail
  go_loopw [6, 7, 8, 9, 11] (fun h c l r i wr => ∃ k : Nat, k ≤ 16 ∧ i = .int .i64 k ∧ h = .int .u64 (n64 (haveN N k)) ∧ c = .int .u64 (n64 (num (tagF N key) k / 256 ^ k)) ∧ l = .int .i64 (took k) ∧ r = .int .i64 ((26 * took k : Int) - 8 * k) ∧ PT w w.heap.size n key (outB N key k) wr) (fun _ _ _ _ i _ => 16 - (intOf i).toNat)
  case atStart =>
    refine ⟨0, by omega, rfl, ?_, by simp [num, sm]; rfl, rfl, rfl, ?_, ?_, ?_, ?_, ?_⟩
    · simp [haveN, took, Nat.mod_one]; rfl
    · exact (((rowIs_new _ _ _ _ _ _ (by simp) (by simp) (fun i hi => arrN_get .u64 5 n i hi)).alloc _).alloc _).alloc _
    · exact ((rowIs_new _ _ _ _ _ _ (by simp) (by simp) (fun i hi => arr8_get 32 key i hi)).alloc _).alloc _
    · exact (rowIs_new _ _ _ _ _ _ (by simp) (by rfl) zero16).alloc _
    · exact (rowIs_new _ _ _ _ _ _ (by simp) (by rfl) zero16).congr (fun i _ => by simp [outB])
    · go_grown
  case round =>
    obtain ⟨k, hk, rfl, rfl, rfl, rfl, rfl, hs⟩ := hrel
    generalize hB : w.heap.size = B at hs ⊢
    have HB := Lib.hid hB; clear hB
    by_cases hlt : k < 16
    · obtain ⟨hd1, hd2, hd3⟩ := have_digit N k hlt
      obtain ⟨cs1, cs2⟩ := carry_step (tagF N key) k
      have hcb : num (tagF N key) k / 256 ^ k ≤ 510 / 255 := num_le (tagF N key) 510 k (fun i _ => by have := dg_lt N i; have := (key (16 + i)).isLt; unfold tagF; omega)
      have ckey := hs.k.cell (i := 16 + k) (by omega)
      have fo := hs.o.frozen k
      have hkey := n8_wrap (key (16 + k))
      have hkl := (key (16 + k)).isLt
      have hfk : tagF N key k = dg N k + (key (16 + k)).toNat := rfl
      have hdl := dg_lt N k
      have co := hs.o.cell (i := k) hlt
      obtain ⟨C, hC⟩ : ∃ C, C = num (tagF N key) k / 256 ^ k := ⟨_, rfl⟩
      obtain ⟨M, hM⟩ : ∃ M, M = N % 67108864 ^ took (k + 1) / 256 ^ k := ⟨_, rfl⟩
      obtain ⟨y, hy⟩ : ∃ y, y = (key (16 + k)).toNat := ⟨_, rfl⟩
      rw [← hC] at hcb cs1 cs2 ⊢
      rw [← hM] at hd1 hd2 hd3
      rw [← hy] at hkey hkl hfk
      have m8 := n64_mask8 M (by omega)
      have a1 := w64_add (M % 256) y (by omega)
      have a2 := w64_add C (M % 256 + y) (by omega)
      have wb := wrap8 (C + (M % 256 + y))
      have s1 := n64_shr8 (C + (M % 256 + y))
      have s2 := n64_shr8 M
      have hbyte : BitVec.ofNat 8 (C + (M % 256 + y)) = tagB N key k := by
        unfold tagB
        rw [dg_later (tagF N key) k 16 (by omega), ← cs2, hfk, ← hd1]
        apply BitVec.eq_of_toNat_eq
        simp
      rw [hbyte] at wb
      have HC1 : Hid ((C + (M % 256 + y)) / 256 = num (tagF N key) (k + 1) / 256 ^ (k + 1)) := Lib.hid (by rw [← cs1, hfk, ← hd1])
      have HM1 := Lib.hid hd2
      have HS : Hid (PT w B n key (outB N key (k + 1)) (wr.setCell ⟨B + 1 + 1 + 1, k, none⟩ (v8 (tagB N key k)))) := Lib.hid ⟨hs.n.setOther (a := ⟨B + 1 + 1 + 1, k, none⟩) (by simp only; omega) _, hs.k.setOther (a := ⟨B + 1 + 1 + 1, k, none⟩) (by simp only; omega) _, hs.r.setOther (a := ⟨B + 1 + 1 + 1, k, none⟩) (by simp only; omega) _, (hs.o.set k _).congr fun i hi => by
        unfold outB
        by_cases e : i = k
        · rw [if_pos e, if_pos (by omega), e]
        · rw [if_neg e]
          by_cases e2 : i < k
          · rw [if_pos e2, if_pos (by omega)]
          · rw [if_neg e2, if_neg (by omega)], hs.b.setCell (by simp only; omega) _⟩
      by_cases hld : k = 0 ∨ k = 3 ∨ k = 6 ∨ k = 9 ∨ k = 13
      · obtain ⟨l1, l2, l3, l4, l5, l6⟩ := have_load N k hld
        have cn := hs.n.cell (i := took k) l5
        have hlim := HL.out (took k) l5
        have hnl := HN.out (took k) l5
        have l2' := l2
        obtain ⟨L, hL⟩ : ∃ L, L = took k := ⟨_, rfl⟩
        obtain ⟨r, hr⟩ : ∃ r, r = 26 * took k - 8 * k := ⟨_, rfl⟩
        rw [← hL] at cn hlim hnl l1 l2 l3 l4 l5 l6 hr
        rw [← hr] at l1 l3
        have hrI : (26 * (took k : Int) - 8 * (k : Int)) = (r : Int) := by rw [← hL, hr]; omega
        rw [hrI, ← hL]
        have l7 : haveN N k ||| n L * 2 ^ r = M := by
          rw [or_add _ _ r l1 (Nat.mul_mod_left _ _), hM, ← l6, ← hr, hlim]
        obtain ⟨H, hH⟩ : ∃ H, H = haveN N k := ⟨_, rfl⟩
        rw [← hH] at l1 l7 ⊢
        have hp : n L * 2 ^ r ≤ 67108864 * 256 := Nat.mul_le_mul (by omega) (by rw [show (256 : Nat) = 2 ^ 8 from rfl]; exact Nat.pow_le_pow_right (by omega) (by omega))
        have hp2 : 2 ^ r ≤ 256 := by rw [show (256 : Nat) = 2 ^ 8 from rfl]; exact Nat.pow_le_pow_right (by omega) (by omega)
        have hsh := w64_shl (n L) r (by omega)
        have hor := n64_or H (n L * 2 ^ r) (by omega) (by omega)
        rw [l7] at hor
        have d1 : decide ((r : Int) < 8) = true := by simp; omega
        have d2 : decide ((L : Int) < 5) = true := by simp; omega
        have HR : Hid (((r : Int) + 26 - 8) = 26 * (took (k + 1) : Int) - 8 * ((k + 1 : Nat) : Int)) := Lib.hid (by rw [l2', ← hL]; omega)
        have HT : Hid (((L : Int) + 1) = (took (k + 1) : Int)) := Lib.hid (by rw [l2', ← hL]; omega)
        have hr8 : r < 8 := l3
        clear hs hC hM hy hbyte hd1 hd2 hd3 cs1 cs2 hfk hcb hdl l1 l2 l2' l3 l4 l6 l7 hL hr hrI hH hp hp2 hlim hnl hkl hld
        go_wp2_with fail
        go_roundw
        case rel => exact ⟨k + 1, by omega, by go_num, by rw [HM1.out], by rw [HC1.out], by rw [HT.out], by rw [HR.out], HS.out⟩
        case measure => simp [intOf]; omega
      · obtain ⟨l2, l3, l4⟩ := have_keep k hlt hld
        have l7 : haveN N k = M := by rw [hM, l2]; rfl
        rw [l7]
        obtain ⟨L, hL⟩ : ∃ L, L = took k := ⟨_, rfl⟩
        obtain ⟨r, hr⟩ : ∃ r, r = 26 * took k - 8 * k := ⟨_, rfl⟩
        rw [← hr] at l3
        have hrI : (26 * (took k : Int) - 8 * (k : Int)) = (r : Int) := by omega
        rw [hrI, ← hL]
        have d1 : decide ((r : Int) < 8) = false := by simp; omega
        have HR : Hid (((r : Int) - 8) = 26 * (took (k + 1) : Int) - 8 * ((k + 1 : Nat) : Int)) := Lib.hid (by rw [l2]; omega)
        have HT : Hid ((L : Int) = (took (k + 1) : Int)) := Lib.hid (by rw [l2, hL])
        have hra : 8 ≤ r := l3
        have hrb : r < 200 := by have : took k ≤ 5 := took_le k; omega
        clear hs hC hM hy hbyte hd1 hd2 hd3 cs1 cs2 hfk hcb hdl l2 l3 l4 l7 hL hr hrI hkl hld
        go_wp2_with fail
        go_roundw
        case rel => exact ⟨k + 1, by omega, by go_num, by rw [HM1.out], by rw [HC1.out], by rw [HT.out], by rw [HR.out], HS.out⟩
        case measure => simp [intOf]; omega
    · have hk8 : k = 16 := by omega
      rw [hk8] at hs ⊢
      clear hk8 hlt hk
      have hh := rowIs_heap8 hs.o
      obtain ⟨old, hr1, hr2, _⟩ := hs.r
      have hz : arr8 16 (outB N key 16) = arr8 16 (tagB N key) := by
        have : (List.range 16).map (fun i => v8 (outB N key 16 i)) = (List.range 16).map (fun i => v8 (tagB N key i)) := List.map_congr_left fun i hi => by unfold outB; rw [if_pos (by simpa using hi)]
        unfold arr8
        rw [this]
      rw [hz] at hh
      have hb := below_setRow (g := B + 1 + 1) hs.b (by omega) (arr8 16 (tagB N key))
      have hres : (wr.setRow (B + 1 + 1) (arr8 16 (tagB N key))).heap[B + 1 + 1]? = some (.cells (arr8 16 (tagB N key)) 26 (0, 0)) := setRow_heap _ _ _ _ _ _ hr1
      clear hs hz
      go_wp2_with (first | (refine wpList_load_row rfl 26 _ rfl _ rfl _ _ _ _ hh Try.underlying26 rfl (by kernel_rfl) ?_) | (refine wpList_store_row rfl 26 _ _ rfl _ _ rfl rfl _ _ hr1 (by kernel_rfl) (by simpa using hr2) (arr8_one _ _) ?_))
      refine bodyPost_ret (results_cell_row rfl _ _ _ _ _ _ _ rfl hres Try.underlying26 rfl (by kernel_rfl)) rfl ?_
      rw [HB.out]
      exact ⟨rfl, hb⟩
end Go.Proofs.Ytpkajfkdandhoaa
