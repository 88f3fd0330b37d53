import Derived.Test.YtmbfjnbanlhjpaaDoorFst
import Derived.Test.YtmbfjnbanlhjpaaDoorSl
namespace Go.Proofs.YtmbfjnbanlhjpaaDoor
open Go.RowKit

def ramp (x : BitVec 8) (n : Nat) : List (BitVec 8) := (List.range n).map fun i => x + BitVec.ofNat 8 i
theorem ramp_get (x : BitVec 8) (n i : Nat) (h : i < n) : (ramp x n)[i]? = some (x + BitVec.ofNat 8 i) := by simp [ramp, h]
@[simp] theorem ramp_length (x : BitVec 8) (n : Nat) : (ramp x n).length = n := by simp [ramp]
theorem n8_addk (x : BitVec 8) (k : Nat) : (n8 x + (k : Int)) % 256 = n8 (x + BitVec.ofNat 8 k) := by
  unfold n8 n32
  simp only [BitVec.toNat_setWidth, BitVec.toNat_add, BitVec.toNat_ofNat]
  have := x.isLt
  omega
def rampTo (x : BitVec 8) (k : Nat) (i : Nat) : Value := if i < k then v8 (x + BitVec.ofNat 8 i) else .int .u8 0

/-- the ramp, byte by byte, as slices of one row -/
def rampSl (O : Nat) (x : BitVec 8) (n : Nat) : List BSl := (List.range n).map fun i => (some ⟨O, i, none⟩, [x + BitVec.ofNat 8 i], n - i)
theorem rampSl_get (O : Nat) (x : BitVec 8) (n i : Nat) (h : i < n) : (rampSl O x n)[i]? = some (some ⟨O, i, none⟩, [x + BitVec.ofNat 8 i], n - i) := by simp [rampSl, h]
@[simp] theorem rampSl_length (O : Nat) (x : BitVec 8) (n : Nat) : (rampSl O x n).length = n := by simp [rampSl]
theorem rampSl_flat (O : Nat) (x : BitVec 8) (n : Nat) : flat (rampSl O x n) = ramp x n := by
  unfold flat rampSl ramp
  rw [List.flatMap_map]
  induction List.range n with
  | nil => rfl
  | cons a l ih => simp [ih]

theorem rampSl_ok {w : World} {O n : Nat} {x : BitVec 8} (h : SlRead w (some ⟨O, 0, none⟩) (ints .u8 (bys (ramp x n)))) : ∀ a ∈ rampSl O x n, SlOk w a := by
  intro a ha
  obtain ⟨i, hi, rfl⟩ := List.mem_map.1 ha
  have hin : i < n := by simpa using hi
  refine ⟨?_, by simp; omega, by simp⟩
  intro _
  obtain ⟨b', o', e, hbl, hcell⟩ := h (by simp; omega)
  obtain ⟨rfl, rfl⟩ : O = b' ∧ 0 = o' := by simpa using e
  refine ⟨O, i, rfl, hbl, fun j u hj => ?_⟩
  have hj0 : j = 0 := by
    have := (List.getElem?_eq_some_iff.1 hj).1
    simp at this
    omega
  subst hj0
  have := hcell i u (by rw [← hj, bys_ints, bys_ints]; simp [ramp_get x n i hin])
  rwa [Nat.zero_add] at this

set_option maxRecDepth 100000 in
set_option maxHeartbeats 1600000 in
theorem lens_walk (z : Int) (x : BitVec 8) (w : World) (hk : KAt w) :
    Calls Tryd.prog 6 #[.int .i64 z, v8 x] w fun e w' => e = .returned (.bool true) ∧ Below w.heap.size w w' := by
  obtain ⟨i0, hi, hz0, hz1, hz2⟩ := info_parts Tryd.info5
  obtain ⟨n, hn, hn1⟩ := exists_mod z 200 (by omega)
  go_enter Tryd.func6, Tryd.ntmps6
  go_wp2_with fail
  refine (first_any _ hk).mono ?_
  rintro e W ⟨rfl, hb⟩
  go_wp2_with fail
  refine (number_nat z 200 n W (by omega) hn).mono ?_
  rintro e W1 ⟨rfl, m, rfl⟩
  go_upto_region 6 with (at_make; refine wpList_make_row _ rfl _ _ 22 rfl 5 i0 (.int .u8 0) Tryd.underlying22 hi hz0 hz1 rfl .i64 .i64 n rfl rfl (by rw [hz2]; omega) (by omega) ?_)
  generalize hO : W.heap.size = O at *
  have hwO : w.heap.size ≤ O := by rw [← hO]; exact hb.size
  refine wp_world (fun W => Below w.heap.size w W ∧ O < W.heap.size ∧ W.rowIs O 5 n (rampTo x 0)) ?_ ?_
  · refine ⟨(hb.trans (Below.drewNr _)).alloc (by simpa [World.drewN] using hb.size) _, by simp [World.drewN, hO], ?_⟩
    have := (World.rowIs_made (W.drewN m) (.int .u8 0) n 5).congr (g := rampTo x 0) (fun i hi => by simp [rampTo])
    simpa [hO, World.drewN] using this
  clear hb hO
  rintro W2 ⟨hb, hOs, hr⟩
  go_wp2_with fail
  go_loopw [7] (fun i wr => ∃ k : Nat, k ≤ n ∧ i = .int .i64 k ∧ Below w.heap.size w wr ∧ O < wr.heap.size ∧ wr.rowIs O 5 n (rampTo x k)) (fun i _ => n - (intOf i).toNat)
  case atStart => exact ⟨0, by omega, rfl, hb, hOs, hr⟩
  clear hb hOs hr
  case round =>
    obtain ⟨k, hk1, rfl, hb, hOs, hr⟩ := hrel
    by_cases hlt : k < n
    · have fz := hr.frozen k
      have cz := hr.cell (i := k) hlt
      have hadd := n8_addk x k
      have hk0 : (k : Int) < (n : Int) := by omega
      go_wp2_with fail
      go_roundw
      case rel =>
        refine ⟨k + 1, by omega, by go_num, hb.setCell hwO _, by simpa [World.setCell] using hOs, ?_⟩
        refine (hr.set k _).congr fun j hj => ?_
        unfold rampTo
        by_cases e : j = k
        · subst e; simp
        · by_cases e2 : j < k
          · rw [if_neg e, if_pos e2, if_pos (by omega)]
          · rw [if_neg e, if_neg e2, if_neg (by omega)]
      case measure => simp [intOf]; omega
    · have hkn : k = n := by omega
      subst hkn
      have hdk : decide ((k : Int) < (k : Int)) = false := by simp
      have hrd : SlRead wr (some ⟨O, 0, none⟩) (ints .u8 (bys (ramp x k))) := by
        intro hp
        refine ⟨O, 0, rfl, hOs, fun j u hj => ?_⟩
        have hjk : j < k := by
          have := (List.getElem?_eq_some_iff.1 hj).1
          simpa using this
        have hc := hr.cell (i := j) hjk
        rw [Nat.zero_add, hc, ← hj, bys_ints]
        simp [rampTo, ramp, hjk]
      have hk2 : KAt wr := hk.of_block (hb.block 0 hk.lt)
      clear hr
      go_wp2_with fail
      refine (new_any _).mono ?_
      rintro e W3 ⟨C, rfl, hC, hx, hb3⟩
      have hrd3 := hrd.below hb3
      have hk3 : KAt W3 := hk2.of_block (hb3.block 0 hk2.lt)
      have hOC : O < C := by omega
      have hb3' : Below w.heap.size w W3 := hb.trans (hb3.mono hb.size)
      have hCs := hx.lt
      clear hb hrd hk2 hb3
      generalize hB2 : W3.heap.size = B2 at *
      have HB2 := Lib.hid hB2
      obtain ⟨i1, hi1, hy0, hy1, hy2⟩ := info_parts Tryd.info22
      go_wp2_with fail
      go_loopw [9, 10] (fun v i wr => ∃ j : Nat, j ≤ k ∧ i = .int .i64 j ∧ wr.ownsRow B2 22 1 v j (((rampSl O x k).map slv).take j) ∧ HashX wr C ((ramp x k).take j) ∧ Below w.heap.size w wr ∧ (∀ g, g < B2 → g ≠ C → wr.heap[g]? = W3.heap[g]?) ∧ B2 ≤ wr.heap.size) (fun _ i _ => k - (intOf i).toNat)
      case atStart => exact ⟨0, by omega, rfl, World.ownsRow_nil _ _ _ _, by simpa using hx, hb3', fun _ _ _ => rfl, by omega⟩
      clear hx hb3'
      case round =>
        obtain ⟨j, hj1, rfl, hown, hx, hb, hsame, hBs⟩ := hrel
        by_cases hlt : j < k
        · have hsl := slice_sl_one (P := Tryd.prog) Tryd.underlying22 (show (Tryd.prog.info? 5).map (·.size) = some 1 by kernel_rfl) O 0 k k j hlt (by omega)
          rw [Nat.zero_add] at hsl
          have hkw : KAt wr := hk3.of_block (hsame 0 (by have := hk3.lt; have := HB2.out; omega) (by omega))
          have hrb : SlRead wr (some ⟨O, j, none⟩) (ints .u8 (bys [x + BitVec.ofNat 8 j])) := by
            intro _
            refine ⟨O, j, rfl, by omega, fun i u hi => ?_⟩
            have hi0 : i = 0 := by
              have := (List.getElem?_eq_some_iff.1 hi).1
              simp at this
              omega
            subst hi0
            obtain ⟨b', o', e, _, hcell⟩ := hrd3 (by simp; omega)
            obtain ⟨rfl, rfl⟩ : O = b' ∧ 0 = o' := by simpa using e
            have := hcell j u (by rw [← hi, bys_ints, bys_ints]; simp [ramp_get x k j hlt])
            rw [Nat.zero_add] at this
            rw [← this]
            exact World.cell?_of_block (hsame O (by omega) (by omega))
          go_wp2_with fail
          refine (write_x C _ [x + BitVec.ofNat 8 j] _ (k - j) wr hx hkw (by omega) hrb (fun _ b' o' e => by simp at e; omega) (by simp; omega) (by simp)).mono ?_
          rintro e W4 ⟨rfl, hx4, hon⟩
          have hb4 : Below w.heap.size w W4 := hb.trans (hon.below (by omega) hb.size)
          have own4 := ownsRow_via hown (fun g hg hl => hon.block g hl (by omega))
          have hB4 : B2 ≤ W4.heap.size := Nat.le_trans hBs hon.size
          have hsame4 : ∀ g, g < B2 → g ≠ C → W4.heap[g]? = W3.heap[g]? := fun g h1 h2 => (hon.block g (by omega) h2).trans (hsame g h1 h2)
          have hxl : (ramp x k).take j ++ [x + BitVec.ofNat 8 j] = (ramp x k).take (j + 1) := by
            rw [List.take_add_one, ramp_get x k j hlt]; rfl
          rw [hxl] at hx4
          have hsl4 : ((rampSl O x k).map slv).take j ++ [slv (some ⟨O, j, none⟩, [x + BitVec.ofNat 8 j], k - j)] = ((rampSl O x k).map slv).take (j + 1) := by
            rw [List.take_add_one, List.getElem?_map, rampSl_get O x k j hlt]; rfl
          have HS4 := Lib.hid hsl4
          have hxC := hx4.lt
          clear hx hb hsame hBs hown hrb hkw hon hxl hsl4
          go_wp2_with (at_builtin; refine wpList_append_own _ rfl _ _ 30 rfl B2 22 i1 (.slice none 0 0) 1 24 Tryd.underlying30 hi1 hy0 hy1 hy2 rfl (by decide) _ _ _ rfl (own4.alloc _) ⟨W4.heap.size, 0, none⟩ 1 1 [slv (some ⟨O, j, none⟩, [x + BitVec.ofNat 8 j], k - j)] rfl rfl ?c1 ?c2 ?c3 ?c4 ?c5 ?_)
          case c1 => exact cell_one_new _ _ _
          case c2 => intro u hu; simp at hu; subst hu; rfl
          case c3 => unfold maxLen; omega
          case c4 => omega
          case c5 => simp; omega
          intro v' w2 hown2 hgrow2 _
          rw [HS4.out] at hown2
          have hblk : ∀ g, g < B2 → w2.heap[g]? = W4.heap[g]? := fun g hg => (hgrow2.block g (by simp; omega) (fun e => by have := own4.lt g e.symm; omega)).trans (heap_alloc_old W4 _ (by omega))
          have hb2 : Below w.heap.size w w2 := (hb4.alloc hb4.size _).grown hgrow2 (by have := hb4.size; simp; omega) (fun j hj => by have := (own4.lt j hj).1; have := hb4.size; have := HB2.out; omega)
          have hs2 : ∀ g, g < B2 → g ≠ C → w2.heap[g]? = W3.heap[g]? := fun g h1 h2 => (hblk g h1).trans (hsame4 g h1 h2)
          have hx2 : HashX w2 C ((ramp x k).take (j + 1)) := hx4.of_block (hblk C hCs)
          have hB22 : B2 ≤ w2.heap.size := by have := hgrow2.size; simp at this; omega
          clear hx4 hblk hsame4 hb4 own4 hgrow2
          go_wp2_with fail
          go_roundw
          case rel => exact ⟨j + 1, by omega, by go_num, hown2, hx2, hb2, hs2, hB22⟩
          case measure => simp [intOf]; omega
        · have hjk : j = k := by omega
          subst hjk
          have hdk : decide ((j : Int) < (j : Int)) = false := by simp
          rw [List.take_of_length_le (by simp)] at hown hx
          have hrd2 : SlRead wr (some ⟨O, 0, none⟩) (ints .u8 (bys (ramp x j))) := by
            intro hp
            obtain ⟨b', o', e, hbl, hcell⟩ := hrd3 hp
            obtain ⟨rfl, rfl⟩ : O = b' ∧ 0 = o' := by simpa using e
            exact ⟨O, 0, rfl, by omega, fun i u hi => (World.cell?_of_block (hsame O (by omega) (by omega))).trans (hcell i u hi)⟩
          have hkw : KAt wr := hk3.of_block (hsame 0 (by have := hk3.lt; have := HB2.out; omega) (by omega))
          go_wp2_with fail
          refine (write_x C _ [] none 0 wr hx hkw (by omega) (by intro h; simp [bys] at h) (by simp) (by simp) (by simp)).mono ?_
          rintro e W5 ⟨rfl, hx5, hon⟩
          rw [List.append_nil] at hx5
          have own5 := ownsRow_via hown (fun g hg hl => hon.block g hl (by omega))
          have hb5 : Below w.heap.size w W5 := hb.trans (hon.below (by omega) hb.size)
          have hrd5 := hrd2.only (g := C) (by intro b' o' e; simp at e; omega) hon
          have hk5 := hon.kat hkw (by omega)
          clear hx hown hb hrd2 hkw hon hsame hrd3 hk3
          go_wp2_with fail
          refine (sum_x C _ W5 hx5 hk5).mono ?_
          rintro e W6 ⟨rfl, hb6⟩
          have own6 := ownsRow_via own5 (fun g hg hl => hb6.block g hl)
          have hb6' := hb5.trans (hb6.mono hb5.size)
          have hrd6 := hrd5.below hb6
          have hk6 : KAt W6 := hk5.of_block (hb6.block 0 hk5.lt)
          clear own5 hb5 hrd5 hk5 hx5 hb6
          go_wp2_with fail
          have hs6 := suml_one (some ⟨O, 0, none⟩) (ramp x j) j W6 hrd6 (by simp) (by simp; omega) hk6
          rw [ramp_length] at hs6
          refine hs6.mono ?_
          rintro e W7 ⟨rfl, hb7⟩
          have own7 := ownsRow_via own6 (fun g hg hl => hb7.block g hl)
          have hb7' := hb6'.trans (hb7.mono hb6'.size)
          have hrd7 := hrd6.below hb7
          have hk7 : KAt W7 := hk6.of_block (hb7.block 0 hk6.lt)
          clear own6 hb6' hrd6 hk6 hb7
          obtain ⟨Al, cl, rfl, hcl⟩ := ownsRow_form own7
          have hs7 := suml_any Al (rampSl O x j) cl W7 (SlRead.of_own own7) (rampSl_ok hrd7) (by simp; omega) hk7
          rw [rampSl_length, rampSl_flat] at hs7
          go_wp2_with (refine wpList_eql_row rfl 26 _ _ _ rfl _ _ rfl rfl true (by kernel_rfl) (equal32 _) ?_)
          refine hs7.mono ?_
          rintro e W8 ⟨rfl, hb8⟩
          have hb8' := hb7'.trans (hb8.mono hb7'.size)
          have hrd8 := hrd7.below hb8
          have hk8 : KAt W8 := hk7.of_block (hb8.block 0 hk7.lt)
          clear own7 hb7' hrd7 hk7 hb8
          go_wp2_with fail
          have hs8 := suml_one (some ⟨O, 0, none⟩) (ramp x j) j W8 hrd8 (by simp) (by simp; omega) hk8
          rw [ramp_length] at hs8
          refine hs8.mono ?_
          rintro e W9 ⟨rfl, hb9⟩
          have hb9' := hb8'.trans (hb9.mono hb8'.size)
          go_wp2_with (refine wpList_eql_row rfl 26 _ _ _ rfl _ _ rfl rfl true (by kernel_rfl) (equal32 _) ?_)
          go_ret
          exact ⟨rfl, hb9'⟩
end Go.Proofs.YtmbfjnbanlhjpaaDoor
