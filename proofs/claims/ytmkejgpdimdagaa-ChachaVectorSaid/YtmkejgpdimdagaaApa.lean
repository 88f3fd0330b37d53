import Derived.Test.YtmkejgpdimdagaaChf
import Derived.Test.YtmkejgpdimdagaaArr
namespace Go.Proofs.Ytmkejgpdimdagaa
open Go.RowKit

/-- the law's own boxes of key and nonce -/
structure KN (w : World) (B : Nat) (key non : Nat → BitVec 8) (W : World) : Prop where
  k : W.rowIs B 23 32 (fun i => v8 (key i))
  nn : W.rowIs (B + 1) 25 12 (fun i => v8 (non i))
  b : Below B w W
theorem KN.below {w : World} {B : Nat} {key non : Nat → BitVec 8} {W W' : World} (h : KN w B key non W) (hb : Below W.heap.size W W') : KN w B key non W' :=
  ⟨h.k.of_block (hb.block _ h.k.lt), h.nn.of_block (hb.block _ h.nn.lt), h.b.trans (hb.mono (Nat.le_of_lt h.k.lt))⟩
theorem KN.only {w : World} {B : Nat} {key non : Nat → BitVec 8} {W W' : World} {g : Nat} (h : KN w B key non W) (ho : Only g W W') (hg : B + 1 < g) : KN w B key non W' :=
  ⟨ho.row h.k (by omega), ho.row h.nn (by omega), h.b.trans (ho.below (by omega) (Nat.le_of_lt h.k.lt))⟩

theorem xor8_swap (a b c : Int) (ha : 0 ≤ a ∧ a < 256) (hb : 0 ≤ b ∧ b < 256) (hc : 0 ≤ c ∧ c < 256) : bits .xor .u8 (bits .xor .u8 a b) c = bits .xor .u8 (bits .xor .u8 a c) b := by
  have e : ∀ x y : Int, 0 ≤ x ∧ x < 256 → 0 ≤ y ∧ y < 256 → 0 ≤ bits .xor .u8 x y ∧ bits .xor .u8 x y < 256 ∧ (bits .xor .u8 x y).toNat = x.toNat ^^^ y.toNat := by
    intro x y hx hy
    rw [u8_xor x y hx.1 hx.2 hy.1 hy.2]
    have : x.toNat ^^^ y.toNat < 2 ^ 8 := Nat.xor_lt_two_pow (by omega) (by omega)
    refine ⟨by omega, by omega, by omega⟩
  have h1 := e a b ha hb
  have h2 := e a c ha hc
  rw [u8_xor _ _ h1.1 h1.2.1 hc.1 hc.2, u8_xor _ _ h2.1 h2.2.1 hb.1 hb.2, h1.2.2, h2.2.2, Nat.xor_assoc, Nat.xor_assoc, Nat.xor_comm b.toNat]

theorem xr_set (key : Nat → BitVec 8) (ct : BitVec 32) (non : Nat → BitVec 8) (xs : List Int) (k : Nat) (by_ : Int) (hk : k < xs.length) (hx : ∀ x ∈ xs, 0 ≤ x ∧ x < 256) (hb : 0 ≤ by_ ∧ by_ < 256) (i : Nat) (_hi : i < xs.length) :
    xr key ct non (xs.set k (bits .xor .u8 (xs.getD k 0) by_)) i = if i = k then bits .xor .u8 (xr key ct non xs i) by_ else xr key ct non xs i := by
  unfold xr
  by_cases e : i = k
  · subst e
    have hxk : 0 ≤ xs.getD i 0 ∧ xs.getD i 0 < 256 := by
      have : xs.getD i 0 = xs[i] := by simp [hk]
      rw [this]; exact hx _ (List.getElem_mem _)
    rw [if_pos rfl]
    have : (xs.set i (bits .xor .u8 (xs.getD i 0) by_)).getD i 0 = bits .xor .u8 (xs.getD i 0) by_ := by simp [hk]
    rw [this]
    exact xor8_swap _ _ _ hxk hb ⟨n8_lo _, n8_hi _⟩
  · rw [if_neg e]
    have : (xs.set k (bits .xor .u8 (xs.getD k 0) by_)).getD i 0 = xs.getD i 0 := by simp [Ne.symm e]
    rw [this]

set_option maxRecDepth 100000 in
set_option maxHeartbeats 1600000 in
theorem apart_walk (key non : Nat → BitVec 8) (ct : BitVec 32) (A : Option Addr) (xs : List Int) (cap : Nat) (at_ by_ : Int) (w : World) (hA : SlRead w A (ints .u8 xs)) (hx : ∀ x ∈ xs, 0 ≤ x ∧ x < 256) (hb : 0 ≤ by_ ∧ by_ < 256) (hmax : xs.length ≤ 9223372036854775807) :
    Calls Try.prog 7 #[.agg (arr8 32 key), v32 ct, .agg (arr8 12 non), .slice A xs.length cap, .int .i64 at_, .int .u8 by_] w fun e w' => e = .returned (.bool true) ∧ Below w.heap.size w w' := by
  go_enter Try.func7, Try.ntmps7
  go_upto_region 1 with (fail)
  refine wp_world (KN w w.heap.size key non) ?_ ?_
  · refine ⟨?_, ?_, ?_⟩
    · exact (rowIs_new _ _ _ _ _ _ (by simp) (by simp) (fun i hi => arr8_get 32 key i hi)).alloc _
    · exact rowIs_new _ _ _ _ _ _ (by simp) (by simp) (fun i hi => arr8_get 12 non i hi)
    · go_grown
  intro W hW
  generalize hB : w.heap.size = B at hW ⊢
  have HB := Lib.hid hB; clear hB
  have hmod : 0 < xs.length → ∃ k : Nat, at_ % (xs.length : Int) = k ∧ k < xs.length := fun h => by
    obtain ⟨k, h1, h2⟩ := exists_mod at_ xs.length (by omega)
    exact ⟨k, h1, by omega⟩
  by_cases hlen : xs.length = 0
  · go_wp2_with fail
    refine (first_any _).mono ?_
    rintro e W1 ⟨rfl, hb1⟩
    have hfin := (hW.below hb1).b
    have hl0 : ((xs.length : Int) == 0) = true := by simp [hlen]
    clear hmod hlen
    go_wp2_with fail
    go_ret
    exact ⟨rfl, by rw [HB.out]; exact hfin⟩
  have hl0 : ((xs.length : Int) == 0) = false := by simp; intro e; rw [e] at hlen; simp at hlen
  by_cases hbig : 200 < xs.length
  · go_wp2_with fail
    refine (first_any _).mono ?_
    rintro e W1 ⟨rfl, hb1⟩
    have hfin := (hW.below hb1).b
    clear hmod
    go_wp2_with fail
    go_ret
    exact ⟨rfl, by rw [HB.out]; exact hfin⟩
  have hd : decide ((200 : Int) < (xs.length : Int)) = false := by simp; omega
  obtain ⟨k, hk, hkl⟩ := hmod (by omega)
  have HK := Lib.hid hk; clear hk hmod
  go_wp2_with fail
  refine (first_any _).mono ?_
  rintro e W1 ⟨rfl, hb1⟩
  have hW1 := hW.below hb1
  clear hW hb1
  go_wp2_with fail
  refine (number_nat _ _ k _ (by omega) HK.out).mono ?_
  rintro e W2 ⟨rfl, m, rfl⟩
  have hW2 := hW1.below (Below.drewNr m)
  have hAW := hA.below (by rw [HB.out]; exact hW2.b)
  clear hW1
  go_wp2_with fail
  refine (bytes_any A xs _ _ hAW (by omega)).mono ?_
  rintro e W3 ⟨v, rfl, hown, hb3⟩
  have hW3 := hW2.below hb3
  have hBlt : B + 1 < (W1.drewN m).heap.size := hW2.nn.lt
  obtain ⟨g, cap2, rfl, hgB, hgW⟩ := hown.form (by omega)
  obtain ⟨x, hxk⟩ : ∃ x, xs[k]? = some x := ⟨xs[k], by simp [hkl]⟩
  have cc : W3.cell? ⟨g, k, none⟩ = some (.int .u8 x) := by rw [hown.cellAt k (by omega)]; exact ints_get .u8 xs k x hxk
  have fc := hown.frozenAt k
  have hst := (hown.stored k (.int .u8 (bits .xor .u8 x by_))).1
  have hset : (ints .u8 xs).set k (.int .u8 (bits .xor .u8 x by_)) = ints .u8 (xs.set k (bits .xor .u8 (xs.getD k 0) by_)) := by
    unfold ints; rw [List.map_set]; simp [hxk]
  rw [hset] at hst
  have hW4 := hW3.only ((Only.refl g W3).setCell k (.int .u8 (bits .xor .u8 x by_))) (by omega)
  have hlys : (xs.set k (bits .xor .u8 (xs.getD k 0) by_)).length = xs.length := by simp
  have hys := xr_set key ct non xs k by_ hkl hx hb
  generalize xs.set k (bits .xor .u8 (xs.getD k 0) by_) = ys at hst hlys hys
  have HY := Lib.hid (And.intro hlys hys); clear hlys hys hset hxk hown hW3 hAW hW2 hb3
  go_upto_region 9 with (fail)
  refine wp_world (fun W => KN w B key non W ∧ W.ownsRow (W1.drewN m).heap.size 5 1 (.slice (some ⟨g, 0, none⟩) xs.length cap2) xs.length (ints .u8 ys)) ⟨by first | exact hW4 | exact ⟨hW4.k, hW4.nn, hW4.b.drew⟩, hst⟩ ?_
  rintro W5 ⟨hW5, hown⟩
  clear hW4 hst cc fc
  have hk5 := rowIs_heap8 hW5.k
  have hn5 := rowIs_heap8 hW5.nn
  have hA5 := hA.below (by rw [HB.out]; exact hW5.b)
  go_upto_region 10 with (first | (refine wpList_load_row rfl 23 _ rfl _ rfl _ _ _ _ hk5 Try.underlying23 rfl (by kernel_rfl) ?_) | (refine wpList_load_row rfl 25 _ rfl _ rfl _ _ _ _ hn5 Try.underlying25 rfl (by kernel_rfl) ?_) | (go_at_call 12; refine (xor_any key non ct A xs cap _ hA5 (by omega)).mono ?_; rintro e W6 ⟨O1, rfl, ho1, hO1, hb6⟩))
  have hW6 := hW5.below hb6
  have hown6 : SlRead W6 (some ⟨g, 0, none⟩) (ints .u8 ys) := (SlRead.of_own hown).below hb6
  have hB5 := hW5.nn.lt
  have hk6 := rowIs_heap8 hW6.k
  have hn6 := rowIs_heap8 hW6.nn
  have hx2 := xor_any key non ct (some ⟨g, 0, none⟩) ys cap2 W6 hown6 (by rw [HY.out.1]; omega)
  rw [HY.out.1] at hx2
  clear hk5 hn5 hA5 hown
  go_upto_region 11 with (first | (refine wpList_load_row rfl 23 _ rfl _ rfl _ _ _ _ hk6 Try.underlying23 rfl (by kernel_rfl) ?_) | (refine wpList_load_row rfl 25 _ rfl _ rfl _ _ _ _ hn6 Try.underlying25 rfl (by kernel_rfl) ?_) | (go_at_call 12; refine hx2.mono ?_; rintro e W7 ⟨O2, rfl, ho2, hO2, hb7⟩))
  have hW7 := hW6.below hb7
  have ho17 := ho1.of_block (hb7.block _ ho1.lt)
  have hbb := hW7.b
  clear hk6 hn6 hx2 hown6 hW6 hW5 ho1 hW7 hb6 hb7
  go_wp2_with fail
  go_loop [18] (fun i => ∃ j : Nat, j ≤ xs.length ∧ i = .int .i64 j) (fun i => xs.length - (intOf i).toNat)
  case atStart => exact ⟨0, by omega, rfl⟩
  case round =>
    obtain ⟨j, hj, rfl⟩ := hrel
    by_cases hlt : j < xs.length
    · have c1 := ho17.cell hlt
      have c2 := ho2.cell hlt
      have hv := HY.out.2 j hlt
      generalize xr key ct non xs j = p at c1 hv
      generalize xr key ct non ys j = q at c2 hv
      by_cases hjk : j = k
      · rw [if_pos hjk] at hv
        rw [hv] at c2
        have hjb : ((j : Int) == (k : Int)) = true := by simp [hjk]
        clear hv hjk
        go_wp2
        go_round
        case rel => exact ⟨j + 1, by omega, by go_num⟩
        case measure => simp [intOf]; omega
      · rw [if_neg hjk] at hv
        rw [hv] at c2
        have hjb : ((j : Int) == (k : Int)) = false := by simp; omega
        clear hv hjk
        go_wp2
        go_round
        case rel => exact ⟨j + 1, by omega, by go_num⟩
        case measure => simp [intOf]; omega
    · go_wp2
      go_ret
      exact ⟨rfl, by rw [HB.out]; exact hbb⟩
end Go.Proofs.Ytmkejgpdimdagaa
