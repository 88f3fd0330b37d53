import Derived.Test.YtpegihfocnchnaaKn
/-
  aead: bytes padded, a length, at the end of a row of one's own.
-/
namespace Go.Proofs.Ytpegihfocnchnaa
open Go.RowKit

/-- a row of one's own, and what was there stays -/
structure OwnB (w : World) (B : Nat) (zs : List (BitVec 8)) (v : Value) (W : World) : Prop where
  own : W.ownsRow B 5 1 v zs.length (ints .u8 (bys zs))
  b : Below B w W
  s : B ≤ W.heap.size
theorem OwnB.push {w : World} {B : Nat} {zs zs' : List (BitVec 8)} {v v' : Value} {W W' : World} (h : OwnB w B zs v W) (h1 : W'.ownsRow B 5 1 v' zs'.length (ints .u8 (bys zs'))) (hb : Below B W W') : OwnB w B zs' v' W' :=
  ⟨h1, h.b.trans hb, Nat.le_trans h.s hb.size⟩
/-- how many zeros fill up a block of sixteen -/
def padN (n : Nat) : Nat := (16 - n % 16) % 16
def padded (zs : List (BitVec 8)) : List (BitVec 8) := zs ++ List.replicate (padN zs.length) 0#8

set_option maxRecDepth 100000 in
theorem apad_any (B : Nat) (v : Value) (xs : List (BitVec 8)) (A : Option Addr) (ys : List (BitVec 8)) (c : Nat) (w : World) (hown : w.ownsRow B 5 1 v xs.length (ints .u8 (bys xs))) (hB : B ≤ w.heap.size) (hA : SlRead w A (ints .u8 (bys ys))) (hl : xs.length + ys.length ≤ 100000000) :
    Calls Try.prog 17 #[v, .slice A ys.length c] w fun e w' => ∃ v', e = .returned v' ∧ OwnB w B (padded (xs ++ ys)) v' w' := by
  have h0 : OwnB w B xs v w := ⟨hown, Below.refl _ _, hB⟩
  obtain ⟨Av, cv, rfl, hcv⟩ := ownsRow_form hown
  go_enter Try.func17, Try.ntmps17
  go_wp2_with (at_builtin; refine push_many rfl _ _ rfl w B (.slice Av xs.length cv) xs A ys c rfl rfl hown hA hB (by omega) ?_; intro v' W1 hown1 hb1 hg1 hg2; clear hg1 hg2)
  have h1 := h0.push hown1 hb1
  clear h0 hown hown1 hb1 hA hB hcv
  have hlz : (xs ++ ys).length ≤ 100000000 := by simpa using hl
  obtain ⟨zs, hzs⟩ : ∃ zs, zs = xs ++ ys := ⟨_, rfl⟩
  rw [← hzs] at h1 hlz
  have HZ := Lib.hid hzs
  clear hzs
  refine wp_world (OwnB w B zs v') h1 ?_
  clear h1
  rintro W1 h1
  go_loopw [0] (fun v wr => ∃ t : Nat, t ≤ padN zs.length ∧ OwnB w B (zs ++ List.replicate t 0#8) v wr) (fun v _ => match v with | .slice _ len _ => zs.length + 16 - len | _ => 0)
  case atStart => exact ⟨0, by omega, by simpa using h1⟩
  clear h1
  case round =>
    obtain ⟨t, ht, hx⟩ := hrel
    obtain ⟨Av, cv, rfl, hcv⟩ := ownsRow_form hx.own
    have hn : (zs ++ List.replicate t 0#8).length = zs.length + t := by simp
    have hp : padN zs.length = (16 - zs.length % 16) % 16 := rfl
    obtain ⟨us, hus⟩ : ∃ us, us = zs ++ List.replicate t 0#8 := ⟨_, rfl⟩
    rw [← hus] at hx hn hcv ⊢
    obtain ⟨r, hr⟩ : ∃ r, r = us.length % 16 := ⟨_, rfl⟩
    have htm : Int.tmod (us.length : Int) 16 = (r : Int) := by rw [Int.tmod_eq_emod_of_nonneg (by omega), hr]; omega
    by_cases hlt : t < padN zs.length
    · have hrb : ((r : Int) != 0) = true := by simp; omega
      have hus1 : us ++ [0#8] = zs ++ List.replicate (t + 1) 0#8 := by rw [hus, List.append_assoc, List.replicate_succ']
      have hle : us.length ≤ 140737488351900 := by omega
      have HU := Lib.hid hus1
      have HN := Lib.hid hn
      have HP := Lib.hid hp
      clear hus hus1 hr hn hp
      go_wp2_with (at_builtin; refine push_one rfl _ _ rfl wr B (.slice Av us.length cv) us 0#8 rfl rfl hx.own hx.s hle ?_; intro v' W4 hown hb hg1 hg2; clear hg1 hg2)
      have h4 := hx.push hown hb
      rw [HU.out] at h4
      clear hx hown hb
      go_wp2_with fail
      go_roundw
      case rel => exact ⟨t + 1, by omega, h4⟩
      case measure =>
        obtain ⟨Av2, cv2, rfl, _⟩ := ownsRow_form h4.own
        have := HN.out
        have := HP.out
        simp
        omega
    · have hrb : ((r : Int) != 0) = false := by simp; omega
      have hte : t = padN zs.length := by omega
      rw [hte] at hus
      have HU := Lib.hid hus
      clear hus hr hn hp hte
      go_wp2_with fail
      go_ret
      have e : us = padded zs := HU.out
      have hx2 : OwnB w B (padded zs) (.slice Av us.length cv) wr := by rw [← e]; exact hx
      rw [← HZ.out]
      exact ⟨_, rfl, hx2⟩

/-- eight bytes of a number, least first -/
def len8 (n k : Nat) : List (BitVec 8) := (List.range k).map fun j => ((BitVec.ofNat 64 n) >>> (8 * j)).setWidth 8
theorem len8_succ (n k : Nat) : len8 n (k + 1) = len8 n k ++ [((BitVec.ofNat 64 n) >>> (8 * k)).setWidth 8] := by simp [len8, List.range_succ]
theorem len8_val (n k : Nat) (hn : n < 2 ^ 64) : (n : Int) / 2 ^ (8 * k) % 256 = n8 (((BitVec.ofNat 64 n) >>> (8 * k)).setWidth 8) := by
  rw [n8_nat, BitVec.toNat_setWidth, BitVec.toNat_ushiftRight, BitVec.toNat_ofNat, Nat.mod_eq_of_lt hn, Nat.shiftRight_eq_div_pow]
  clear hn
  generalize 8 * k = m
  have h2 : ((2 : Int) ^ m) = ((2 ^ m : Nat) : Int) := by simp
  rw [h2]
  generalize 2 ^ m = p
  show (n : Int) / (p : Int) % 256 = ((n / p % 256 : Nat) : Int)
  rw [Int.natCast_emod, Int.natCast_ediv]
  rfl
set_option maxRecDepth 100000 in
theorem alen_any (B : Nat) (v : Value) (xs : List (BitVec 8)) (n : Nat) (w : World) (hown : w.ownsRow B 5 1 v xs.length (ints .u8 (bys xs))) (hB : B ≤ w.heap.size) (hl : xs.length ≤ 100000000) (hn : n ≤ 100000000) :
    Calls Try.prog 18 #[v, .int .i64 (n : Int)] w fun e w' => ∃ v', e = .returned v' ∧ OwnB w B (xs ++ len8 n 8) v' w' := by
  have h0 : OwnB w B xs v w := ⟨hown, Below.refl _ _, hB⟩
  clear hown
  go_enter Try.func18, Try.ntmps18
  go_wp2_with fail
  go_loopw [0, 6] (fun v i wr => ∃ k : Nat, k ≤ 8 ∧ i = .int .i64 (k : Int) ∧ OwnB w B (xs ++ len8 n k) v wr) (fun _ i _ => 8 - (intOf i).toNat)
  case atStart => exact ⟨0, by omega, rfl, by simpa [len8] using h0⟩
  clear h0
  case round =>
    obtain ⟨k, hk, rfl, hx⟩ := hrel
    obtain ⟨Av, cv, rfl, hcv⟩ := ownsRow_form hx.own
    obtain ⟨us, hus⟩ : ∃ us, us = xs ++ len8 n k := ⟨_, rfl⟩
    have hul : us.length = xs.length + k := by rw [hus]; simp [len8]
    rw [← hus] at hx hcv ⊢
    by_cases hlt : k < 8
    · have hus1 : us ++ [((BitVec.ofNat 64 n) >>> (8 * k)).setWidth 8] = xs ++ len8 n (k + 1) := by rw [hus, List.append_assoc, len8_succ]
      have hle : us.length ≤ 140737488351900 := by omega
      have HU := Lib.hid hus1
      clear hus hus1 hul
      have HV := Lib.hid (len8_val n k (by omega))
      go_wp2_with (at_builtin; rw [HV.out]; refine push_one rfl _ _ rfl wr B (.slice Av us.length cv) us _ rfl rfl hx.own hx.s hle ?_; intro v' W4 hown hb hg1 hg2; clear hg1 hg2)
      have h4 := hx.push hown hb
      rw [HU.out] at h4
      clear hx hown hb
      go_wp2_with fail
      go_roundw
      case rel => exact ⟨k + 1, by omega, by go_num, h4⟩
      case measure => simp [intOf]; omega
    · obtain rfl : k = 8 := by omega
      have HU := Lib.hid hus
      clear hus hul
      go_wp2_with fail
      go_ret
      have e : us = xs ++ len8 n 8 := HU.out
      rw [← e]
      exact ⟨_, rfl, hx⟩
end Go.Proofs.Ytpegihfocnchnaa
