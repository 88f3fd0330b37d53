import Derived.Test.YtplmliomhpgfpaaDoorMpre
namespace Go.Proofs.YtplmliomhpgfpaaDoor
open Go.RowKit

/-- one bit turned -/
def flip (ys : List (BitVec 8)) (k : Nat) (x : BitVec 8) : List (BitVec 8) := ys.set k x
theorem flip_ne (ys : List (BitVec 8)) (k : Nat) (j : Nat) (hk : k < ys.length) (hj : j < 8) : ys ≠ ys.set k (ys[k] ^^^ (1#8 <<< j)) := by
  intro e
  have := congrArg (·[k]?) e
  simp [hk] at this
  have h2 : (1#8 <<< j) = 0#8 := by
    have h3 := congrArg (fun z => ys[k] ^^^ z) this
    simp only [← BitVec.xor_assoc, BitVec.xor_self, BitVec.zero_xor] at h3
    exact h3.symm
  have : ∀ j, j < 8 → (1#8 <<< j) ≠ 0#8 := by decide
  exact this j hj h2
theorem n8_bit (x : BitVec 8) (j : Nat) (hj : j < 8) : bits .xor .u8 (n8 x) ((2 : Int) ^ (min j 8) % 256) = n8 (x ^^^ (1#8 <<< j)) := by
  have h : (2 : Int) ^ (min j 8) % 256 = n8 (1#8 <<< j) := by
    have : ∀ j, j < 8 → (2 : Int) ^ (min j 8) % 256 = n8 (1#8 <<< j) := by decide
    exact this j hj
  rw [h, n8_xor]

theorem meq_b (A B : Option Addr) (xs ys : List (BitVec 8)) (ca cb : Nat) (b : Bool) (w : World) (hA : SlRead w A (ints .u8 (bys xs))) (hB : SlRead w B (ints .u8 (bys ys))) (hx : xs.length ≤ 9223372036854775807) (hy : ys.length ≤ 9223372036854775807) (hb : decide (xs = ys) = b) :
    Calls Tryd.prog 18 #[.slice A xs.length ca, .slice B ys.length cb] w fun e w' => e = .returned (.bool b) ∧ Below w.heap.size w w' := by
  refine (meq_any A B xs ys ca cb w hA hB hx hy).mono ?_
  rintro e w' ⟨rfl, m, rfl⟩
  exact ⟨by rw [hb], Below.drewNr m⟩

theorem number_same (x n : Int) (N : Nat) (w : World) (hn : 0 < n ∧ n ≤ 4611686018427387904) (hN : x % n = N) :
    Calls Tryd.prog 10 #[.int .i64 x, .int .i64 n] w fun e w' => e = .returned (.int .i64 N) ∧ w' = w := by
  have hb := Int.lt_tmod_of_pos x hn.1
  have hb2 := Int.tmod_lt_of_pos x hn.1
  by_cases hneg : x.tmod n < 0
  · have e := mod_neg x n hn.1 hneg
    have E := Lib.hid e; clear e
    go_enter Tryd.func10, Tryd.ntmps10
    go_wp2
    go_ret
    exact ⟨by rw [← hN]; simp [E.out], rfl⟩
  · have e := mod_pos x n hn.1 hneg
    have E := Lib.hid e; clear e
    go_enter Tryd.func10, Tryd.ntmps10
    go_wp2
    go_ret
    exact ⟨by rw [← hN]; simp [E.out], rfl⟩

set_option maxRecDepth 100000 in
set_option maxHeartbeats 1600000 in
theorem equal_walk (A : Option Addr) (ys : List (BitVec 8)) (ca : Nat) (z1 z2 : Int) (w : World) (hA : SlRead w A (ints .u8 (bys ys))) (hca : ys.length ≤ ca) (hla : ys.length ≤ 9223372036854775807) (hk : KAt w) :
    Calls Tryd.prog 8 #[.slice A ys.length ca, .int .i64 z1, .int .i64 z2] w fun e w' => e = .returned (.bool true) ∧ Below w.heap.size w w' := by
  go_enter Tryd.func8, Tryd.ntmps8
  go_wp2_with fail
  refine (first_any _ hk).mono ?_
  rintro e W ⟨rfl, hb⟩
  by_cases hz0 : ys.length = 0
  · have hb0 : ((ys.length : Int) == 0) = true := by simp [hz0]
    go_wp2_with fail
    go_ret
    exact ⟨rfl, hb⟩
  have hb0 : ((ys.length : Int) == 0) = false := by simpa using hz0
  by_cases h1 : 100 < ys.length
  · have hb1 : decide ((100 : Int) < (ys.length : Int)) = true := by simp; omega
    go_wp2_with fail
    go_ret
    exact ⟨rfl, hb⟩
  have hb1 : decide ((100 : Int) < (ys.length : Int)) = false := by simp; omega
  have hby := bytes_any A (bys ys) ca W (hA.below hb) (by simp; omega)
  rw [bys_length] at hby
  go_wp2_with fail
  refine hby.mono ?_
  rintro e W1 ⟨v, rfl, hown, hb1'⟩
  have hbb1 := hb.trans (hb1'.mono hb.size)
  have hwW : w.heap.size ≤ W.heap.size := hb.size
  generalize hW0 : W.heap.size = W0 at *
  clear hby
  rcases hown.2 with ⟨e1, e2⟩ | ⟨g, capd, curd, rfl, hg, e3, hcap2, _⟩
  · exact absurd e2 hz0
  have hgA : OffB A g := (hA.below hb).offB (by simp; omega) (by rw [hW0]; exact hg)
  have hA1 := hA.below hbb1
  clear hb hb1' e3
  obtain ⟨k, hkz, hkl⟩ := exists_mod z1 (ys.length : Int) (by omega)
  obtain ⟨j, hjz, hjl⟩ := exists_mod z2 8 (by omega)
  go_wp2_with fail
  refine (number_nat z1 (ys.length : Int) k W1 (by omega) hkz).mono ?_
  rintro e W2 ⟨rfl, m2, rfl⟩
  have hk0 : (k : Int) < (ys.length : Int) := by omega
  have hj0 : (j : Int) < 64 := by omega
  have hkn : k < ys.length := by omega
  go_upto_region 8 with (fail)
  refine wp_world (fun W => Below w.heap.size w W ∧ W.ownsRow W0 5 1 (.slice (some ⟨g, 0, none⟩) ys.length capd) ys.length (ints .u8 (bys ys)) ∧ SlRead W A (ints .u8 (bys ys))) ⟨hbb1.trans ((Below.drewNr (w := W1) m2).mono hbb1.size), hown, hA1⟩ ?_
  clear hbb1 hA1 hown
  rintro W3 ⟨hb3, hown, hA3⟩
  have ck := hown.cellAt k (by omega)
  have fk := hown.frozenAt k
  rw [show (ints IntKind.u8 (bys ys))[k]? = some (v8 (ys[k]'(by omega))) by rw [bys_ints]; simp [hkn]] at ck
  have hst := hown.stored k (v8 (ys[k]'(by omega) ^^^ (1#8 <<< j)))
  have hbit := n8_bit (ys[k]'(by omega)) j (by omega)
  refine wp_region_still_tail 12 (by kernel_rfl) (by kernel_rfl) ?_
  simp only [List.take_succ_cons, List.take_zero, List.drop_succ_cons, List.drop_zero]
  repeat still_step
  still_call (number_same z2 8 j _ (by omega) hjz)
  repeat still_step
  refine wpStill_nil ?_
  go_upto_region 9 with (fail)
  have hset : (ints .u8 (bys ys)).set k (v8 (ys[k]'(by omega) ^^^ (1#8 <<< j))) = ints .u8 (bys (ys.set k (ys[k]'(by omega) ^^^ (1#8 <<< j)))) := by rw [bys_ints, bys_ints, List.map_set]
  refine wp_world (fun W => Below w.heap.size w W ∧ SlRead W A (ints .u8 (bys ys)) ∧ SlRead W (some ⟨g, 0, none⟩) (ints .u8 (bys (ys.set k (ys[k]'(by omega) ^^^ (1#8 <<< j)))))) ?_ ?_
  · have hon : Only g W3 (W3.setCell ⟨g, k, none⟩ (v8 (ys[k]'(by omega) ^^^ (1#8 <<< j)))).drew := ((Only.refl g W3).setCell k _).trans (Only.drewN 1)
    rw [hbit]
    refine ⟨?_, ?_, ?_⟩
    · exact hb3.trans (hon.below (Nat.le_trans hwW hg) hb3.size)
    · exact hA3.only hgA hon
    · rw [← hset]
      exact SlRead.of_own (ownsRow_via hst.1 (fun _ _ _ => rfl))
  clear hb3 hown hA3 ck fk hst hbit hset
  have hne := flip_ne ys k j hkn (by omega)
  have hsl0 : (ys.set k (ys[k]'(by omega) ^^^ (1#8 <<< j))).length = ys.length := by simp
  generalize ys.set k (ys[k]'(by omega) ^^^ (1#8 <<< j)) = zs at *
  have HNE := Lib.hid hne
  have HL := Lib.hid hsl0
  clear hne hsl0
  rintro W4 ⟨hb4, hA4, hz4⟩
  have hby := bytes_any A (bys ys) ca W4 hA4 (by simp; omega)
  rw [bys_length] at hby
  go_wp2_with fail
  refine hby.mono ?_
  rintro e W5 ⟨v, rfl, hown5, hb5'⟩
  obtain ⟨A5, c5, rfl, _⟩ := ownsRow_form hown5
  have hb5 := hb4.trans (hb5'.mono hb4.size)
  have hA5 := hA4.below hb5'
  have hz5 := hz4.below hb5'
  have hc5 := SlRead.of_own hown5
  clear hby hb4 hA4 hz4 hb5' hown5
  go_wp2_with fail
  refine (meq_b A A5 ys ys ca c5 true W5 hA5 hc5 hla hla (by simp)).mono ?_
  rintro e W6 ⟨rfl, hb6'⟩
  have hb6 := hb5.trans (hb6'.mono hb5.size)
  have hA6 := hA5.below hb6'
  have hz6 := hz5.below hb6'
  clear hb5 hA5 hz5 hc5 hb6'
  have hq6 := meq_b A (some ⟨g, 0, none⟩) ys zs ca capd false W6 hA6 hz6 hla (by rw [HL.out]; exact hla) (by simpa using HNE.out)
  rw [HL.out] at hq6
  go_wp2_with fail
  refine hq6.mono ?_
  rintro e W7 ⟨rfl, hb7'⟩
  have hb7 := hb6.trans (hb7'.mono hb6.size)
  have hA7 := hA6.below hb7'
  clear hb6 hA6 hz6 hb7' hq6
  have hl1 : (ys.length : Int) - 1 = ((ys.length - 1 : Nat) : Int) := by omega
  have hslh := slice_h0 (P := Tryd.prog) Tryd.underlying22 (show (Tryd.prog.info? 5).map (·.size) = some 1 by kernel_rfl) A ys.length ca (ys.length - 1) (by omega)
  have htk := hA7.take (ys.length - 1)
  rw [bys_take] at htk
  have hq7 := meq_b A A ys (ys.take (ys.length - 1)) ca ca false W7 hA7 htk hla (by simp; omega) (by
    simp only [decide_eq_false_iff_not]
    intro e
    have := congrArg List.length e
    simp at this
    omega)
  rw [show (ys.take (ys.length - 1)).length = ys.length - 1 by simp] at hq7
  go_wp2_with fail
  refine hq7.mono ?_
  rintro e W8 ⟨rfl, hb8'⟩
  have hb8 := hb7.trans (hb8'.mono hb7.size)
  have hA8 := hA7.below hb8'
  clear hb7 hA7 hb8' hq7 htk hslh hl1
  have hsld := slice_sl_l (P := Tryd.prog) Tryd.underlying22 (show (Tryd.prog.info? 5).map (·.size) = some 1 by kernel_rfl) A ys.length ca 1 1 rfl (by omega)
  have hdr : SlRead W8 (cutA A 1 ca) (ints .u8 (bys (ys.drop 1))) := by
    rw [← bys_drop]
    refine SlRead.cut hA8 1 _ fun hc b' o' e => ?_
    subst e
    exact cutA_some (by simpa using hc) hca
  have hq8 := meq_b (cutA A 1 ca) A (ys.drop 1) ys (ca - 1) ca false W8 hdr hA8 (by simp; omega) hla (by
    simp only [decide_eq_false_iff_not]
    intro e
    have := congrArg List.length e
    simp at this
    omega)
  rw [show (ys.drop 1).length = ys.length - 1 by simp] at hq8
  go_wp2_with fail
  refine hq8.mono ?_
  rintro e W9 ⟨rfl, hb9'⟩
  have hb9 := hb8.trans (hb9'.mono hb8.size)
  clear hb8 hA8 hb9' hq8 hdr hsld
  have hsl9 := slice_h0 (P := Tryd.prog) Tryd.underlying22 (show (Tryd.prog.info? 5).map (·.size) = some 1 by kernel_rfl) A ys.length ca 0 (by omega)
  rw [show ((0 : Nat) : Int) = 0 from rfl] at hsl9
  have hq9 := meq_b A none [] [] ca 0 true W9 (by intro h; simp at h) (by intro h; simp at h) (by simp) (by simp) (by simp)
  go_wp2_with fail
  refine hq9.mono ?_
  rintro e W10 ⟨rfl, hb10⟩
  have hbe := hb9.trans (hb10.mono hb9.size)
  clear hq9 hsl9
  go_wp2_with fail
  go_ret
  exact ⟨rfl, hbe⟩
end Go.Proofs.YtplmliomhpgfpaaDoor
