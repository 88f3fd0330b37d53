import Derived.Test.YtegijahkiopncaaDoorWri
namespace Go.Proofs.YtegijahkiopncaaDoor
open Go.RowKit

theorem wpList_alloc_z {P : Program} {w : World} {ops : Array Oper} {rest : List Oper} {o : Oper} {a : Act} {Q : Exit → Act → World → Prop} (hgd : o.guard = none) (t : TypeId) (ho : o.op = .alloc t) (z : Array Value)
    (hz : ∀ w, (zeroValue t).run P w = .ok (.agg z) w) (h : wpList P ops Q rest (a.put o.dst (.pointer (some ⟨w.heap.size, 0, none⟩))) (w.alloc (.cells z t))) : wpList P ops Q (o :: rest) a w := by
  refine wpList_plain hgd fun K hK => ?_
  unfold Oper.wp execOp
  simp [ho, Instr.alloc, hz, newVar, newRow, Value.cells, Result.andThen]
  exact hK _ _ h

theorem n8_byte (L : BitVec 64) (s : Nat) : (L.toNat : Int) / 2 ^ s % 256 = n8 ((L >>> s).setWidth 8) := by
  unfold n8 n32
  simp only [BitVec.toNat_setWidth, BitVec.toNat_ushiftRight, Nat.shiftRight_eq_div_pow]
  have : (2 ^ s : Int) = ((2 ^ s : Nat) : Int) := by simp
  rw [this]
  have h1 : L.toNat / 2 ^ s % 2 ^ 8 % 2 ^ 32 = L.toNat / 2 ^ s % 256 := by omega
  rw [h1]
  simp

section
variable {P : Program} {t e : TypeId} {n : Nat}
theorem slice_arr_hi (hu : P.underlying t = some (.array n e)) (hs : (P.info? e).map (·.size) = some 1) (b : Nat) (kh : IntKind) (h : Int) (h0 : 0 ≤ h) (h2 : h ≤ n) (w : World) :
    (Instr.sliceAt t (.pointer (some ⟨b, 0, none⟩)) none (some (.int kh h)) none).run P w = .ok (.slice (some ⟨b, 0, none⟩) h.toNat n) w := by
  have e1 : P.arrayLen t = n := by simp [Program.arrayLen, hu]
  have e2 : P.elem t = e := by simp [Program.elem, hu]
  have := run_sliceAt_array_h (P := P) w t ⟨b, 0, none⟩ (by rw [e1, e2]; exact hu) kh h h0 (by rw [e1]; exact h2)
  rw [this, e1, e2]
  obtain ⟨i, hi, hz⟩ := Option.map_eq_some_iff.1 hs
  simp [sizeOf, typeInfo, hi, hz, Result.andThen, slicedAt, Addr.add]
end

/-- how many bytes of the padding stand ahead of the length -/
def padN (u : Nat) : Nat := 1 + (119 - u) % 64
/-- the padding's byte i: L is the length in bits -/
def padF (n : Nat) (L : BitVec 64) (k : Nat) (i : Nat) : BitVec 8 := if n ≤ i ∧ i < n + k then (L >>> (56 - 8 * (i - n))).setWidth 8 else if i = 0 then 128#8 else 0#8
def padL (u : Nat) (L : BitVec 64) : List (BitVec 8) := (List.range (padN u + 8)).map (padF (padN u) L 8)

set_option maxRecDepth 100000 in
set_option maxHeartbeats 1600000 in
theorem pad_any (hb : Nat) (h : HSt) (L : BitVec 64) (tt : Int) (w : World) (hh : HashR w hb h.s h.m h.u tt) (hu : h.u < 64) (htt : IntKind.u64.wrap (tt * 8) = (L.toNat : Int))
    (hk : KAt w) (hne : hb ≠ 7) :
    Calls Tryd.prog 50 #[.pointer (some ⟨hb, 0, none⟩)] w fun e w' => e = .returned (.tuple #[]) ∧ (∃ T, HashR w' hb (feeds h (padL h.u L)).s (feeds h (padL h.u L)).m (feeds h (padL h.u L)).u T) ∧ Only hb w w' := by
  have c3 := hh.t_
  have c2 := hh.u_
  have hn : (Int.tmod (119 - (h.u : Int)) 64) = ((padN h.u - 1 : Nat) : Int) := by
    unfold padN
    rw [Int.tmod_eq_emod_of_nonneg (by omega)]
    omega
  have hn2 : 1 ≤ padN h.u ∧ padN h.u ≤ 64 := by unfold padN; omega
  have hwr : 1 + ((padN h.u - 1 : Nat) : Int) = (padN h.u : Int) := by omega
  go_enter Tryd.func50, Tryd.ntmps50
  go_wp2_with (refine wpList_alloc_z rfl 103 rfl (Array.replicate 72 (.int .u8 0)) (fun _ => by kernel_rfl) ?_)
  refine wp_world (fun W => Below w.heap.size w W ∧ W.rowIs w.heap.size 103 72 (fun i => v8 (padF (padN h.u) L 0 i))) ?_ ?_
  · refine ⟨(Below.refl _ _).alloc (Nat.le_refl _) _, rowIs_new _ _ _ _ _ _ rfl (by simp) (fun i hi => ?_)⟩
    rw [Array.getElem?_setIfInBounds]
    by_cases e : i = 0
    · subst e
      rw [if_pos rfl, if_pos (by simp)]
      simp only [padF]
      rw [if_neg (by omega)]
      rfl
    · rw [if_neg (fun h => e h.symm)]
      simp only [padF, e, if_false]
      rw [if_neg (by omega)]
      simp [hi, n32]
  rintro W ⟨hbl, hr⟩
  clear c2 c3 hn hwr
  generalize hNN : padN h.u = n at *
  have HNN := Lib.hid hNN; clear hNN
  generalize hB : w.heap.size = B at *
  have HB := Lib.hid hB; clear hB
  have hL1 := L.isLt
  go_loopw [19] (fun i wr => ∃ k : Nat, k ≤ 8 ∧ i = .int .i64 k ∧ Below B w wr ∧ wr.rowIs B 103 72 (fun i => v8 (padF n L k i))) (fun i _ => 8 - (intOf i).toNat)
  case atStart => exact ⟨0, by omega, rfl, hbl, hr⟩
  clear hbl hr
  case round =>
    obtain ⟨k, hk1, rfl, hbl, hr⟩ := hrel
    by_cases hlt : k < 8
    · have hi0 : (0 : Int) ≤ (n : Int) + (k : Int) := by omega
      have hi1 : (n : Int) + (k : Int) < 72 := by omega
      have fz := hr.frozen (n + k)
      have cz := hr.cell (i := n + k) (by omega)
      go_wp2_with fail
      go_roundw
      case rel =>
        refine ⟨k + 1, by omega, by go_num, hbl.setCell (by simp only; omega) _, ?_⟩
        refine (hr.set (n + k) _).congr fun j hj => ?_
        rw [n8_byte]
        by_cases e : j = n + k
        · subst e
          rw [if_pos rfl]
          simp only [padF]
          rw [if_pos (by omega), show 56 - 8 * (n + k - n) = 56 - 8 * k by omega]
        · rw [if_neg e]
          simp only [padF]
          by_cases e2 : n ≤ j ∧ j < n + k
          · rw [if_pos e2, if_pos (by omega)]
          · have e3 : ¬ (n ≤ j ∧ j < n + (k + 1)) := by omega
            rw [if_neg e2, if_neg e3]
      case measure => simp [intOf]; omega
    · have hk8 : k = 8 := by omega
      subst hk8
      have hdk : decide (((8 : Nat) : Int) < 8) = false := by decide
      have hsl := slice_arr_hi (P := Tryd.prog) Tryd.underlying103 (show (Tryd.prog.info? 5).map (·.size) = some 1 by kernel_rfl) B .i64 ((n : Int) + 8) (by omega) (by omega)
      rw [show ((n : Int) + 8).toNat = n + 8 by omega] at hsl
      have hnl : (padL h.u L).length = n + 8 := by rw [← HNN.out]; simp [padL]
      have hA : SlRead wr (some ⟨B, 0, none⟩) (ints .u8 (bys (padL h.u L))) := by
        intro _
        refine ⟨B, 0, rfl, hr.lt, fun j u hj => ?_⟩
        rw [bys_ints] at hj
        have hjl : j < n + 8 := by
          have := (List.getElem?_eq_some_iff.1 hj).1
          rw [List.length_map, hnl] at this
          exact this
        have hc := hr.cell (i := j) (by omega)
        rw [Nat.zero_add, hc, ← hj]
        unfold padL
        rw [HNN.out]
        simp [hjl]
      go_wp2_with fail
      have hbB : hb < B := by have := hh.lt; have := HB.out; omega
      have h0B : 7 < B := by have := hk.lt; have := HB.out; omega
      have hw := write_any hb h tt (some ⟨B, 0, none⟩) (padL h.u L) 72 wr (hh.of_block (hbl.block hb hbB)) hu (hk.of_block (hbl.block 7 h0B)) hne hA
        (fun _ b o e => by simp at e; omega) (by omega) (by omega)
      rw [hnl] at hw
      have hon := Only.of_below (g := hb) (HB.out ▸ hbl)
      go_wp2_with fail
      refine hw.mono ?_
      rintro e W3 ⟨rfl, hW3, hon3⟩
      go_wp2_with fail
      go_end0
      exact ⟨rfl, ⟨_, hW3⟩, hon.trans hon3⟩
end Go.Proofs.YtegijahkiopncaaDoor
