import Derived.Test.YtplmliomhpgfpaaDoorMeql
namespace Go.Proofs.YtplmliomhpgfpaaDoor
open Go.RowKit

/-- zeros from f on, n of them -/
def wiped (ys : List (BitVec 8)) (f n : Nat) : List (BitVec 8) := (List.range ys.length).map fun i => if f ≤ i ∧ i < f + n then 0#8 else ys.getD i 0#8
@[simp] theorem wiped_length (ys : List (BitVec 8)) (f n : Nat) : (wiped ys f n).length = ys.length := by simp [wiped]
theorem wiped_get (ys : List (BitVec 8)) (f n i : Nat) (hi : i < ys.length) : (wiped ys f n)[i]? = some (if f ≤ i ∧ i < f + n then 0#8 else ys[i]) := by
  simp [wiped, hi]
theorem wiped_none (ys : List (BitVec 8)) (f : Nat) : wiped ys f 0 = ys := by
  apply List.ext_getElem?
  intro i
  by_cases hi : i < ys.length
  · rw [wiped_get ys f 0 i hi, if_neg (by omega)]; simp [hi]
  · rw [List.getElem?_eq_none (by simp; omega), List.getElem?_eq_none (by omega)]
theorem zero_u8 (w : World) : (zeroValue 5).run Tryd.prog w = .ok (.int .u8 0) w := by kernel_rfl
theorem rowIs_setRep {g : Nat} {t : TypeId} {L : Nat} (v : Value) : ∀ (n : Nat) {w : World} {F : Nat → Value} (o : Nat), w.rowIs g t L F → (w.setCells g o (List.replicate n v)).rowIs g t L (fun i => if o ≤ i ∧ i < o + n then v else F i)
  | 0, w, F, o, h => h.congr fun i _ => by rw [if_neg (by omega)]
  | n + 1, w, F, o, h => by
    refine (rowIs_setRep v n (o + 1) (h.set o v)).congr fun i _ => ?_
    by_cases e : i = o
    · subst e
      have e1 : ¬ (i + 1 ≤ i ∧ i < i + 1 + n) := by omega
      have e2 : i ≤ i ∧ i < i + (n + 1) := by omega
      rw [if_neg e1, if_pos rfl, if_pos e2]
    · by_cases e2 : o + 1 ≤ i ∧ i < o + 1 + n
      · have e3 : o ≤ i ∧ i < o + (n + 1) := by omega
        rw [if_pos e2, if_pos e3]
      · have e3 : ¬ (o ≤ i ∧ i < o + (n + 1)) := by omega
        rw [if_neg e2, if_neg e3, if_neg e]

/-- Wipe of a part of a slice that is its caller's own -/
theorem wipe_own (Ac : Option Addr) (cc base f n : Nat) (ys : List (BitVec 8)) (w : World) (h : w.ownsRow base 5 1 (.slice Ac ys.length cc) ys.length (ints .u8 (bys ys))) (hf : f + n ≤ ys.length) :
    Calls Tryd.prog 19 #[.slice (cutA Ac f cc) n (cc - f)] w fun e w' => e = .returned (.tuple #[]) ∧ SlRead w' Ac (ints .u8 (bys (wiped ys f n))) ∧ ∃ g, base ≤ g ∧ Only g w w' := by
  by_cases hn : n = 0
  · subst hn
    have hs := SlRead.of_own h
    generalize cutA Ac f cc = B
    have hc : ∀ w, (Builtin.clear_ #[22] 0 #[.slice B 0 (cc - f)]).run Tryd.prog w = .ok (.tuple #[]) w := fun w => by
      cases B <;> simp [Builtin.clear_, run_underlying Tryd.underlying22]
    go_enter Tryd.func19, Tryd.ntmps19
    go_wp2_with fail
    go_end0
    exact ⟨rfl, by rw [wiped_none]; exact hs, base, Nat.le_refl _, Only.refl _ _⟩
  · rcases h.2 with ⟨e1, e2⟩ | ⟨g, cap, cur, e1, hg, e3, hcap, _, hsz, htk⟩
    · omega
    simp only [Value.slice.injEq, true_and] at e1
    obtain ⟨rfl, rfl⟩ := e1
    have hrow : w.rowIs g 5 cc (fun i => cur.toList.getD i undef) := ⟨cur, e3, by omega, fun i hi => by
      have : i < cur.toList.length := by simp; omega
      simp [List.getD, List.getElem?_eq_getElem this]⟩
    have hval : ∀ i, i < ys.length → cur.toList.getD i undef = v8 (ys.getD i 0#8) := fun i hi => by
      have h1 := congrArg (·[i]?) htk
      simp only [Nat.mul_one] at h1
      rw [List.getElem?_take, if_pos hi, bys_ints] at h1
      simp [List.getD, h1, hi]
    rw [cutA_some (by omega) hcap, Nat.zero_add]
    have hc := Lib.run_clear_slice (P := Tryd.prog) w 22 5 0 (.int .u8 0) Tryd.underlying22 zero_u8 rfl rfl g f n (cc - f) (by omega) (fun j hj => Option.isSome_of_eq_some (hrow.cell (i := f + j) (by omega))) (fun j _ => hrow.frozen _)
    have hrow2 := rowIs_setRep (.int .u8 0) n f hrow
    have hon : Only g w (w.setCells g f (List.replicate n (.int .u8 0))) := Only.setCells _ _ (Only.refl _ _)
    go_enter Tryd.func19, Tryd.ntmps19
    go_wp2_with fail
    go_end0
    refine ⟨rfl, ?_, g, hg, hon⟩
    intro _
    refine ⟨g, 0, rfl, hrow2.lt, fun j u hj => ?_⟩
    rw [bys_ints] at hj
    have hjl : j < ys.length := by
      have := (List.getElem?_eq_some_iff.1 hj).1
      simpa using this
    rw [Nat.zero_add, hrow2.cell (by omega), ← hj, List.getElem?_map, wiped_get ys f n j hjl]
    simp only [Option.map_some]
    congr 1
    by_cases hin : f ≤ j ∧ j < f + n
    · rw [if_pos hin, if_pos hin]; rfl
    · rw [if_neg hin, if_neg hin, hval j hjl]
      simp [hjl]

theorem slice_lh {P : Program} {t e : TypeId} (hu : P.underlying t = some (.slice e)) (hs : (P.info? e).map (·.size) = some 1) (A : Option Addr) (n cap l h : Nat) (hl : l ≤ h) (hh : h ≤ cap) (w : World) :
    (Instr.slice t (.slice A n cap) (some (.int .i64 (l : Int))) (some (.int .i64 (h : Int))) none).run P w = .ok (.slice (cutA A l cap) (h - l) (cap - l)) w := by
  have e2 : P.elem t = e := by simp [Program.elem, hu]
  rw [run_slice_lh (P := P) w t A n cap (by rw [e2]; exact hu) .i64 .i64 (l : Int) (h : Int) (by omega) (by omega) (by omega), e2]
  obtain ⟨i, hi, hz⟩ := Option.map_eq_some_iff.1 hs
  simp [sizeOf, typeInfo, hi, hz, Result.andThen, sliced, cutA]

set_option maxRecDepth 100000 in
set_option maxHeartbeats 1600000 in
theorem wipes_walk (A : Option Addr) (ys : List (BitVec 8)) (ca : Nat) (z1 z2 : Int) (w : World) (hA : SlRead w A (ints .u8 (bys ys))) (hla : ys.length ≤ 9223372036854775807) (hk : KAt w) :
    Calls Tryd.prog 5 #[.slice A ys.length ca, .int .i64 z1, .int .i64 z2] w fun e w' => e = .returned (.bool true) ∧ Below w.heap.size w w' := by
  go_enter Tryd.func5, Tryd.ntmps5
  go_wp2_with fail
  refine (first_any _ hk).mono ?_
  rintro e W ⟨rfl, hb⟩
  by_cases h1 : 100 < ys.length
  · have hb1 : decide ((100 : Int) < (ys.length : Int)) = true := by simp; omega
    go_wp2_with fail
    go_ret
    exact ⟨rfl, hb⟩
  have hb1 : decide ((100 : Int) < (ys.length : Int)) = false := by simp; omega
  have hby := bytes_any A (bys ys) ca W (hA.below hb) (by simp; omega)
  rw [bys_length] at hby
  go_wp2_with fail
  refine hby.mono ?_
  rintro e W1 ⟨v, rfl, hown, hb1'⟩
  obtain ⟨Ac, cc, rfl, hcc⟩ := ownsRow_form hown
  have hbb1 := hb.trans (hb1'.mono hb.size)
  have hwW : w.heap.size ≤ W.heap.size := hb.size
  generalize hW0 : W.heap.size = W0 at *
  have hoff : ∀ g, W0 ≤ g → 0 < ys.length → OffB A g := fun g hg hp => (hA.below hb).offB (by simp; omega) (by rw [hW0]; exact hg)
  have hA1 := hA.below hbb1
  clear hby hb hb1' hW0
  obtain ⟨f, hfz, hfl⟩ := exists_mod z1 ((ys.length : Int) + 1) (by omega)
  have hfl2 : f ≤ ys.length := by omega
  obtain ⟨n, hnz, hnl⟩ := exists_mod z2 ((ys.length : Int) - (f : Int) + 1) (by omega)
  have hnl2 : f + n ≤ ys.length := by omega
  go_wp2_with fail
  refine (number_same z1 ((ys.length : Int) + 1) f _ (by omega) hfz).mono ?_
  rintro e W2 ⟨rfl, rfl⟩
  go_wp2_with fail
  refine (number_same z2 ((ys.length : Int) - (f : Int) + 1) n _ (by omega) hnz).mono ?_
  rintro e W2 ⟨rfl, rfl⟩
  obtain ⟨q, hq⟩ : ∃ q, q = f + n := ⟨_, rfl⟩
  have hfn : (f : Int) + (n : Int) = (q : Int) := by omega
  have hsl := slice_lh (P := Tryd.prog) Tryd.underlying22 (show (Tryd.prog.info? 5).map (·.size) = some 1 by kernel_rfl) Ac ys.length cc f q (by omega) (by
    by_cases h0 : ys.length = 0
    · omega
    · have := hcc (by omega); omega)
  rw [show q - f = n by omega] at hsl
  have HQ := Lib.hid hq; clear hq
  have hf0 : (f : Int) ≤ 100 := by omega
  have hn0 : (n : Int) ≤ 100 := by omega
  go_wp2_with fail
  refine (wipe_own Ac cc W0 f n ys _ hown hnl2).mono ?_
  rintro e W3 ⟨rfl, hc3, g, hg, hon⟩
  have hA3 : SlRead W3 A (ints .u8 (bys ys)) := by
    intro hp
    exact hA1.only (hoff g hg (by simpa using hp)) hon hp
  have hb3 := hbb1.trans (hon.below (Nat.le_trans hwW hg) hbb1.size)
  clear hsl hown hbb1 hA1 hon
  go_wp2_with fail
  go_loopw [9] (fun i wr => ∃ k : Nat, k ≤ ys.length ∧ i = .int .i64 k ∧ Below w.heap.size w wr ∧ SlRead wr A (ints .u8 (bys ys)) ∧ SlRead wr Ac (ints .u8 (bys (wiped ys f n)))) (fun i _ => ys.length - (intOf i).toNat)
  case atStart => exact ⟨0, by omega, rfl, hb3, hA3, hc3⟩
  clear hb3 hA3 hc3
  case round =>
    obtain ⟨k, hk1, rfl, hb, hA3, hc3⟩ := hrel
    by_cases hlt : k < ys.length
    · obtain ⟨ba, oa, rfl, ca1⟩ := hA3.byte hlt
      obtain ⟨bc, oc, rfl, cc1⟩ := hc3.byte (j := k) (by simpa using hlt)
      have hwg := wiped_get ys f n k hlt
      have hwe : (wiped ys f n)[k]'(by simpa using hlt) = if f ≤ k ∧ k < f + n then 0#8 else ys[k] := by
        rw [List.getElem?_eq_getElem (by simpa using hlt)] at hwg
        exact Option.some.inj hwg
      rw [hwe] at cc1
      clear hwg hwe
      have hk0 : (k : Int) < (ys.length : Int) := by omega
      by_cases h2 : f ≤ k
      · have d1 : decide ((f : Int) ≤ (k : Int)) = true := by simp; omega
        by_cases h3 : k < q
        · have d2 : decide ((k : Int) < (q : Int)) = true := by simp; omega
          rw [if_pos ⟨h2, by have := HQ.out; omega⟩] at cc1
          change wr.cell? _ = some (.int .u8 0) at cc1
          go_wp2_with fail
          go_quiet (fail)
          go_wp2_with fail
          go_roundw
          case rel => exact ⟨k + 1, by omega, by go_num, hb.trans ((Below.drewNr _).mono hb.size), hA3.drewN _, hc3.drewN _⟩
          case measure => simp [intOf]; omega
        · have d2 : decide ((k : Int) < (q : Int)) = false := by simp; omega
          rw [if_neg (by have := HQ.out; omega)] at cc1
          generalize ys[k] = y at *
          go_wp2_with fail
          go_quiet (fail)
          go_wp2_with fail
          go_roundw
          case rel => exact ⟨k + 1, by omega, by go_num, hb.trans ((Below.drewNr _).mono hb.size), hA3.drewN _, hc3.drewN _⟩
          case measure => simp [intOf]; omega
      · have d1 : decide ((f : Int) ≤ (k : Int)) = false := by simp; omega
        rw [if_neg (by omega)] at cc1
        generalize ys[k] = y at *
        go_wp2_with fail
        go_quiet (fail)
        go_wp2_with fail
        go_roundw
        case rel => exact ⟨k + 1, by omega, by go_num, hb.trans ((Below.drewNr _).mono hb.size), hA3.drewN _, hc3.drewN _⟩
        case measure => simp [intOf]; omega
    · have hdk : decide ((k : Int) < (ys.length : Int)) = false := by simp; omega
      go_wp2_with fail
      go_ret
      exact ⟨rfl, hb⟩
end Go.Proofs.YtplmliomhpgfpaaDoor
