import Derived.Test.YtplmliomhpgfpaaDoorMfst
namespace Go.Proofs.YtplmliomhpgfpaaDoor
open Go.RowKit

theorem slice_h0 {P : Program} {t e : TypeId} (hu : P.underlying t = some (.slice e)) (hs : (P.info? e).map (·.size) = some 1) (A : Option Addr) (len cap n : Nat) (hn : n ≤ cap) (w : World) :
    (Instr.slice t (.slice A len cap) none (some (.int .i64 (n : Int))) none).run P w = .ok (.slice A n cap) w := by
  have e2 : P.elem t = e := by simp [Program.elem, hu]
  rw [run_slice_h (P := P) w t A len cap (by rw [e2]; exact hu) .i64 (n : Int) (by omega) (by omega), e2]
  obtain ⟨i, hi, hz⟩ := Option.map_eq_some_iff.1 hs
  simp [sizeOf, typeInfo, hi, hz, Result.andThen, sliced]
  intro _
  cases A with
  | none => rfl
  | some a => obtain ⟨b, o, r⟩ := a; cases r <;> simp [Addr.add]

set_option maxRecDepth 100000 in
set_option maxHeartbeats 1600000 in
theorem prefix_walk (A : Option Addr) (salt : List (BitVec 8)) (ca : Nat) (B : Option Addr) (key : List (BitVec 8)) (cb : Nat) (C : Option Addr) (info : List (BitVec 8)) (cc : Nat) (z1 z2 : Int) (w : World)
    (hA : SlRead w A (ints .u8 (bys salt))) (hca : salt.length ≤ ca) (hla : salt.length ≤ 9223372036854775807) (hB : SlRead w B (ints .u8 (bys key))) (hcb : key.length ≤ cb) (hlb : key.length ≤ 9223372036854775807)
    (hC : SlRead w C (ints .u8 (bys info))) (hcc : info.length ≤ cc) (hlc : info.length ≤ 9223372036854775807) (hk : KAt w) :
    Calls Tryd.prog 6 #[.slice A salt.length ca, .slice B key.length cb, .slice C info.length cc, .int .i64 z1, .int .i64 z2] w fun e w' => e = .returned (.bool true) ∧ Below w.heap.size w w' := by
  go_enter Tryd.func6, Tryd.ntmps6
  go_wp2_with fail
  refine (first_any _ hk).mono ?_
  rintro e W ⟨rfl, hb⟩
  by_cases h1 : 100 < salt.length
  · have hb1 : decide ((100 : Int) < (salt.length : Int)) = true := by simp; omega
    go_wp2_with fail
    go_ret
    exact ⟨rfl, hb⟩
  have hb1 : decide ((100 : Int) < (salt.length : Int)) = false := by simp; omega
  by_cases h2 : 100 < key.length
  · have hb2 : decide ((100 : Int) < (key.length : Int)) = true := by simp; omega
    go_wp2_with fail
    go_ret
    exact ⟨rfl, hb⟩
  have hb2 : decide ((100 : Int) < (key.length : Int)) = false := by simp; omega
  by_cases h3 : 100 < info.length
  · have hb3 : decide ((100 : Int) < (info.length : Int)) = true := by simp; omega
    go_wp2_with fail
    go_ret
    exact ⟨rfl, hb⟩
  have hb3 : decide ((100 : Int) < (info.length : Int)) = false := by simp; omega
  obtain ⟨n, hn, hn1⟩ := exists_mod z1 200 (by omega)
  obtain ⟨j, hj, hj1⟩ := exists_mod z2 100 (by omega)
  go_wp2_with fail
  refine (number_nat z1 200 n W (by omega) hn).mono ?_
  rintro e W1 ⟨rfl, m1, rfl⟩
  go_wp2_with fail
  refine (number_nat z2 100 j _ (by omega) hj).mono ?_
  rintro e W2 ⟨rfl, m2, rfl⟩
  have hnm : (n : Int) + (j : Int) = ((n + j : Nat) : Int) := by omega
  have hbW : Below w.heap.size w (W.drewN (m1 + m2)) := hb.trans ((Below.drewNr (m1 + m2)).mono hb.size)
  have hql : n ≤ n + j ∧ n + j < 300 := by omega
  generalize n + j = q at *
  go_upto_region 8 with (fail)
  refine wp_world (fun W => Below w.heap.size w W) hbW ?_
  clear hb hbW hnm
  rintro W3 hb
  go_wp2_with fail
  refine (derive_any A salt ca B key cb C info cc n W3 (hA.below hb) hca (by omega) (hB.below hb) hcb (by omega) (hC.below hb) hcc (by omega) (by omega) (hk.below hb)).mono ?_
  rintro e W4 ⟨O1, rfl, ho1, hb4⟩
  have hbb4 := hb.trans (hb4.mono hb.size)
  clear hb hb4
  go_wp2_with fail
  refine (derive_any A salt ca B key cb C info cc q W4 (hA.below hbb4) hca (by omega) (hB.below hbb4) hcb (by omega) (hC.below hbb4) hcc (by omega) (by omega) (hk.below hbb4)).mono ?_
  rintro e W5 ⟨O2, rfl, ho2, hb5⟩
  have ho3 := ho1.below hb5
  have hbb5 := hbb4.trans (hb5.mono hbb4.size)
  clear hbb4 hb5 ho1
  have hsl := slice_h0 (P := Tryd.prog) Tryd.underlying22 (show (Tryd.prog.info? 5).map (·.size) = some 1 by kernel_rfl) O2 q q n hql.1
  have hS2 : SlRead W5 O2 (ints .u8 (bys (hkdf salt key info n))) := by
    have := ho2.take n
    rw [bys_take, hkdf_less salt key info n q hql.1] at this
    exact this
  have hsb := sameBytes_any O1 O2 (bys (hkdf salt key info n)) (bys (hkdf salt key info n)) n q W5 ho3 hS2 (by simp only [bys_length, hkdf_len]; omega) (by simp only [bys_length, hkdf_len]; omega)
  rw [bys_length, hkdf_len, show decide (bys (hkdf salt key info n) = bys (hkdf salt key info n)) = true by simp] at hsb
  go_wp2_with fail
  refine hsb.mono ?_
  rintro e W6 ⟨rfl, m6, rfl⟩
  have hb6 := hbb5.trans ((Below.drewNr (w := W5) m6).mono hbb5.size)
  clear hsb hsl ho2 ho3 hS2 hbb5
  go_wp2_with fail
  go_ret
  exact ⟨rfl, hb6⟩
end Go.Proofs.YtplmliomhpgfpaaDoor
