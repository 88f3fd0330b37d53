import Derived.Test.YtpegihfocnchnaaAea
import Derived.Test.YtpegihfocnchnaaPys
import Derived.Test.YtpegihfocnchnaaKm
/-
  aead: the tag.
-/
namespace Go.Proofs.Ytpegihfocnchnaa
open Go.RowKit

/-- a copy that fills its target -/
theorem wpList_copy_fill {P : Program} {w : World} {ops : Array Oper} {rest : List Oper} {o : Oper} {a : Act} {Q : Exit → Act → World → Prop} (hgd : o.guard = none) (d s : Operand) (dT sT : TypeId)
    (ho : o.op = .call { callee := .builtin .copy, args := #[d, s], argTypes := #[dT, sT] }) (elem : TypeId) (hu : P.underlying dT = some (.slice elem)) (hsz : (P.info? elem).map (·.size) = some 1)
    (g n b m : Nat) (sCap : Nat) (hd : a.eval d = .slice (some ⟨g, 0, none⟩) n n) (hs : a.eval s = .slice (some ⟨b, 0, none⟩) m sCap) (t t2 : TypeId) (f z : Nat → BitVec 8) (hr : w.rowIs g t n (fun i => v8 (f i)))
    (hz : w.rowIs b t2 m (fun i => v8 (z i))) (hn : n ≤ m)
    (h : ∀ W', W'.rowIs g t n (fun i => v8 (z i)) → Only g w W' → wpList P ops Q rest (a.put o.dst (goInt n)) W') : wpList P ops Q (o :: rest) a w := by
  have hl : ((lst n z).map fun y => v8 y).length = n := by simp
  have h2 := h (w.setCells g 0 ((lst n z).map fun y => v8 y)) ((rowIs_setCells (lst n z) 0 hr).congr fun i hi => by rw [if_pos ⟨by omega, by simpa using hi⟩]; simp [lst, hi]) (Only.setCells _ _ (Only.refl _ _))
  refine wpList_copy_cells hgd d s dT sT ho elem hu hsz g 0 n n ⟨b, 0, none⟩ m sCap hd hs ((lst n z).map fun y => v8 y) (by rw [hl]; exact (Nat.min_eq_right hn).symm) ?_ ?_ ?_ ?_ (by rw [hl]; exact h2)
  · intro j v hv
    have hj : j < n := by
      have := (List.getElem?_eq_some_iff.1 hv).1
      simpa using this
    rw [add_eq, Nat.zero_add, hz.cell (by omega), ← hv]
    simp [lst, hj]
  · intro j hj
    rw [hl] at hj
    rw [Nat.zero_add]
    exact Option.isSome_of_eq_some (hr.cell (i := j) (by omega))
  · intro j _
    exact hr.frozen _
  · intro v hv
    obtain ⟨x, _, rfl⟩ := List.mem_map.1 hv
    rfl

/-- what a tag is reckoned of -/
def tagData (ad tx : List (BitVec 8)) : List (BitVec 8) := padded (padded ad ++ tx) ++ len8 ad.length 8 ++ len8 tx.length 8
theorem padN_lt (n : Nat) : padN n < 16 := by unfold padN; omega
theorem padded_len (zs : List (BitVec 8)) : (padded zs).length = zs.length + padN zs.length := by simp [padded]
theorem len8_len (n k : Nat) : (len8 n k).length = k := by simp [len8]
theorem zeroK : ∀ i, i < 32 → (Array.replicate 32 (Value.int IntKind.u8 0))[i]? = some (v8 ((fun _ => 0#8 : Nat → BitVec 8) i)) := by
  intro i hi; simp [hi]; rfl

/-- the result's cell, the block, the key made of it -/
structure TagAt (w : World) (B g : Nat) (z f : Nat → BitVec 8) (W : World) : Prop where
  r : W.rowIs (B + 2) 39 16 (fun i => v8 ((fun _ => 0#8 : Nat → BitVec 8) i))
  k : W.rowIs g 42 64 (fun i => v8 (z i))
  o : W.rowIs (g + 1) 31 32 (fun i => v8 (f i))
  b : Below B w W
  lt : B + 2 < g

theorem TagAt.later {w : World} {B g : Nat} {z f : Nat → BitVec 8} {W W' : World} {C : Nat} (h : TagAt w B g z f W) (hb : Below C W W') (hg : g + 1 < C) : TagAt w B g z f W' :=
  have hl := h.lt
  ⟨h.r.of_block (hb.block _ (by omega)), h.k.of_block (hb.block _ (by omega)), h.o.of_block (hb.block _ hg), h.b.trans (hb.mono (by omega)), hl⟩

set_option maxRecDepth 100000 in
set_option maxHeartbeats 1600000 in
theorem tagof_any (key non : Nat → BitVec 8) (A X : Option Addr) (ad tx : List (BitVec 8)) (ca cx : Nat) (w : World) (hA : SlRead w A (ints .u8 (bys ad))) (hX : SlRead w X (ints .u8 (bys tx))) (hla : ad.length ≤ 1000) (hlx : tx.length ≤ 1000) :
    Calls Try.prog 15 #[.agg (arr8 32 key), .agg (arr8 12 non), .slice A ad.length ca, .slice X tx.length cx] w fun e w' => e = .returned (.agg (arr8 16 (polyB (ckB key 0#32 non) (tagData ad tx)))) ∧ Below w.heap.size w w' := by
  obtain ⟨i0, hi, hz0, hz1, hz2⟩ := info_parts Try.info5
  have hslK := sliceAt_all (P := Try.prog) 32 Try.underlying31 (show (Try.prog.info? 5).map (·.size) = some 1 by kernel_rfl)
  have hslB := sliceAt_all (P := Try.prog) 64 Try.underlying42 (show (Try.prog.info? 5).map (·.size) = some 1 by kernel_rfl)
  go_enter Try.func15, Try.ntmps15
  go_upto_region 1 with (fail)
  refine wp_world (fun W => W.rowIs w.heap.size 31 32 (fun i => v8 (key i)) ∧ W.rowIs (w.heap.size + 1) 36 12 (fun i => v8 (non i)) ∧ W.rowIs (w.heap.size + 2) 39 16 (fun i => v8 ((fun _ => 0#8 : Nat → BitVec 8) i)) ∧ Below w.heap.size w W) ?_ ?_
  · refine ⟨?_, ?_, ?_, ?_⟩
    · exact ((rowIs_new _ _ _ _ _ _ (by simp) (by simp) (fun i hi => arr8_get 32 key i hi)).alloc _).alloc _
    · exact (rowIs_new _ _ _ _ _ _ (by simp) (by simp) (fun i hi => arr8_get 12 non i hi)).alloc _
    · exact rowIs_new _ _ _ _ _ _ (by simp) (by rfl) zero16
    · go_grown
  rintro W0 ⟨h0, h1, h2, h3⟩
  generalize hB : w.heap.size = B at h0 h1 h2 h3 ⊢
  have HB := Lib.hid hB; clear hB
  have hk := rowIs_heap8 h0
  have hn := rowIs_heap8 h1
  go_upto_region 2 with (first | (refine wpList_load_row rfl 31 _ rfl _ rfl _ _ _ _ hk Try.underlying31 rfl (by kernel_rfl) ?_) | (refine wpList_load_row rfl 36 _ rfl _ rfl _ _ _ _ hn Try.underlying36 rfl (by kernel_rfl) ?_) | (go_at_call 16; refine (ckb_any key non 0#32 _).mono ?_; rintro e W1 ⟨rfl, hb1⟩) | (refine wpList_store_row rfl 42 _ _ rfl _ _ rfl rfl _ _ (heap_alloc_new _ _) (by kernel_rfl) (by simp) (arr8_one _ _) ?_; rw [alloc_setRow]))
  obtain ⟨z, hz⟩ : ∃ z, z = ckB key 0#32 non := ⟨_, rfl⟩
  rw [← hz]
  have HZ := Lib.hid hz; clear hz
  have hgB : B + 2 < W1.heap.size := Nat.lt_of_lt_of_le h2.lt hb1.size
  have hbB : Below B w W1 := h3.trans (hb1.mono (by rw [← HB.out]; exact h3.size))
  have h21 := h2.of_block (hb1.block _ h2.lt)
  refine wp_world (fun W => W.rowIs (B + 2) 39 16 (fun i => v8 ((fun _ => 0#8 : Nat → BitVec 8) i)) ∧ W.rowIs W1.heap.size 42 64 (fun i => v8 (z i)) ∧ Below B w W ∧ W.heap.size = W1.heap.size + 1) ⟨h21.alloc _, rowIs_new _ _ _ _ _ _ rfl (by simp) (fun i hi => arr8_get 64 _ i hi), hbB.alloc (by rw [← HB.out]; exact hbB.size) _, by simp⟩ ?_
  rintro W2 ⟨h22, hg2, hb2, hs2⟩
  generalize W1.heap.size = g at hgB hg2 hs2 ⊢
  clear h0 h1 h2 h3 hk hn hb1 hbB h21 W1 W0
  have HS := Lib.hid hs2; clear hs2
  go_upto_region 3 with (fail)
  rw [HS.out]
  refine wp_world (TagAt w B g z (fun _ => 0#8)) ⟨h22.alloc _, hg2.alloc _, rowIs_new _ _ _ _ _ _ HS.out.symm (by rfl) zeroK, hb2.alloc (by rw [← HB.out]; exact hb2.size) _, hgB⟩ ?_
  clear h22 hg2 hb2 HS hgB W2
  rintro W0 hT
  have hO := hslK (g + 1) (by omega)
  have hG := hslB g (by omega)
  clear hslK hslB
  refine wp_region_still_tail 2 (by kernel_rfl) (by kernel_rfl) ?_
  simp only [List.take_succ_cons, List.take_zero, List.drop_succ_cons, List.drop_zero]
  refine wpStill_sliceAt rfl 31 _ none none none rfl (.pointer (some ⟨g + 1, 0, none⟩)) none none none _ rfl (hO _) ?_
  refine wpStill_sliceAt rfl 42 _ none none none rfl (.pointer (some ⟨g, 0, none⟩)) none none none _ rfl (hG _) ?_
  refine wpStill_nil ?_
  change wpList _ _ _ _ _ W0.drew
  refine wpList_copy_fill rfl _ _ 22 22 rfl 5 Try.underlying22 (by kernel_rfl) (g + 1) 32 g 64 64 rfl rfl 31 42 (fun _ => 0#8) z hT.o hT.k (by omega) ?_
  intro W1 hr hon
  have hlt := hT.lt
  have hsz := hT.b.size
  have hT1 : TagAt w B g z z W1 := ⟨hon.row (w := W0.drew) hT.r (by omega), hon.row (w := W0.drew) hT.k (by omega), hr, hT.b.trans ((Below.drewNr (w := W0) 1).mono (by rw [← HB.out]; exact hsz) |>.trans (hon.below (by omega) (by rw [← HB.out]; exact hsz))), hlt⟩
  clear hr hon hT hO hG hlt hsz W0
  obtain ⟨BB, hBB⟩ : ∃ BB, BB = W1.heap.size := ⟨_, rfl⟩
  have hgB : g + 1 < BB := hBB ▸ hT1.o.lt
  have hBs : w.heap.size ≤ BB := by rw [hBB]; exact hT1.b.size
  have HBB := Lib.hid hBB
  clear hBB
  go_wp2_with (at_make; refine wpList_make_own _ rfl _ _ 22 rfl BB 5 i0 (.int .u8 0) 1 Try.underlying22 hi hz0 hz1 _ _ _ (ad.length + tx.length + 48) rfl rfl rfl ?c1 ?c2 ?c3 ?_)
  case c1 => rw [hz2]; omega
  case c2 => unfold maxLen; omega
  case c3 => rw [HBB.out]; exact Nat.le_refl _
  intro W3 hown hgrow
  have hBB3 : BB ≤ W3.heap.size := by rw [HBB.out]; exact hgrow.size
  have hT3 : TagAt w B g z z W3 := hT1.later (C := BB) ((Below.refl BB W1).grown hgrow (by rw [HBB.out]; exact Nat.le_refl _) (by intro j hj; cases hj)) hgB
  clear hgrow hT1 HBB
  have hA3 : SlRead W3 A (ints .u8 (bys ad)) := hA.below (by rw [HB.out]; exact hT3.b)
  have hpa := padN_lt ad.length
  have hpl := padded_len ad
  go_wp2_with fail
  refine (apad_any BB _ [] A ad ca W3 hown hBB3 hA3 (by simp; omega)).mono ?_
  rintro e W4 ⟨v4, rfl, h4⟩
  rw [List.nil_append] at h4
  have hT4 := hT3.later h4.b hgB
  have hX4 : SlRead W4 X (ints .u8 (bys tx)) := hX.below (by rw [HB.out]; exact hT4.b)
  obtain ⟨d1, hd1⟩ : ∃ d1, d1 = padded ad := ⟨_, rfl⟩
  rw [← hd1] at h4 hpl
  have hD1 : d1.length ≤ 1015 := by omega
  have HD1 := Lib.hid hd1
  clear hown hA3 hT3 hpl hpa hd1 hBB3
  have hpa := padN_lt (d1 ++ tx).length
  have hpl := padded_len (d1 ++ tx)
  go_wp2_with fail
  refine (apad_any BB v4 d1 X tx cx W4 h4.own h4.s hX4 (by omega)).mono ?_
  rintro e W5 ⟨v5, rfl, h5⟩
  have hT5 := hT4.later h5.b hgB
  obtain ⟨d2, hd2⟩ : ∃ d2, d2 = padded (d1 ++ tx) := ⟨_, rfl⟩
  rw [← hd2] at h5 hpl
  have hD2 : d2.length ≤ 2100 := by rw [List.length_append] at hpl hpa; omega
  have HD2 := Lib.hid hd2
  clear h4 hT4 hX4 hpl hpa hd2 hD1
  go_wp2_with fail
  refine (alen_any BB v5 d2 ad.length W5 h5.own h5.s (by omega) (by omega)).mono ?_
  rintro e W6 ⟨v6, rfl, h6⟩
  have hT6 := hT5.later h6.b hgB
  obtain ⟨d3, hd3⟩ : ∃ d3, d3 = d2 ++ len8 ad.length 8 := ⟨_, rfl⟩
  rw [← hd3] at h6
  have hD3 : d3.length ≤ 2200 := by rw [hd3, List.length_append, len8_len]; omega
  have HD3 := Lib.hid hd3
  clear h5 hT5 hd3 hD2
  go_wp2_with fail
  refine (alen_any BB v6 d3 tx.length W6 h6.own h6.s (by omega) (by omega)).mono ?_
  rintro e W7 ⟨v7, rfl, h7⟩
  have hT7 := hT6.later h7.b hgB
  obtain ⟨d4, hd4⟩ : ∃ d4, d4 = d3 ++ len8 tx.length 8 := ⟨_, rfl⟩
  rw [← hd4] at h7
  have hD4 : d4.length ≤ 2300 := by rw [hd4, List.length_append, len8_len]; omega
  have HD4 : Hid (d4 = tagData ad tx) := Lib.hid (by rw [hd4, HD3.out, HD2.out, HD1.out]; rfl)
  clear h6 hT6 hd4 hD3 HD3 HD2 HD1
  obtain ⟨Av, cv, rfl, hcv⟩ := ownsRow_form h7.own
  have hS7 := SlRead.of_own h7.own
  have hcap : d4.length ≤ cv := by rcases Nat.eq_zero_or_pos d4.length with h | h; omega; exact hcv h
  have hk := rowIs_heap8 hT7.o
  obtain ⟨old, hr1, hr2, _⟩ := hT7.r
  have hltB : B + 2 < W7.heap.size := hT7.r.lt
  have hbT := hT7.b
  clear hT7 h7 hcv
  go_wp2_with (first | (refine wpList_load_row rfl 31 _ rfl _ rfl _ _ _ _ hk Try.underlying31 rfl (by kernel_rfl) ?_))
  refine (psum_any z Av d4 cv W7 hS7 hcap (by omega)).mono ?_
  rintro e W8 ⟨rfl, hb8⟩
  have hr1' : W8.heap[B + 2]? = some (.cells old 39 (0, 0)) := (hb8.block _ hltB).trans hr1
  have hb9 : Below B w W8 := hbT.trans (hb8.mono (by omega))
  have hb := below_setRow (g := B + 2) hb9 (by omega) (arr8 16 (polyB z d4))
  have hres : (W8.setRow (B + 2) (arr8 16 (polyB z d4))).heap[B + 2]? = some (.cells (arr8 16 (polyB z d4)) 39 (0, 0)) := setRow_heap _ _ _ _ _ _ hr1'
  clear hr1 hb8 hb9 hbT hk hS7
  go_wp2_with (refine wpList_store_row rfl 39 _ _ rfl _ _ rfl rfl _ _ hr1' (by kernel_rfl) (by simpa using hr2) (arr8_one _ _) ?_)
  refine bodyPost_ret (results_cell_row rfl _ _ _ _ _ _ _ rfl hres Try.underlying39 rfl (by kernel_rfl)) rfl ?_
  rw [HB.out, ← HD4.out, ← HZ.out]
  exact ⟨rfl, hb⟩
end Go.Proofs.Ytpegihfocnchnaa
