import Derived.Test.YtpegihfocnchnaaAeb
/-
  aead.Seal.
-/
namespace Go.Proofs.Ytpegihfocnchnaa
open Go.RowKit

/-- bytes under the stream -/
def xorB (key : Nat → BitVec 8) (ct : BitVec 32) (non : Nat → BitVec 8) (bs : List (BitVec 8)) : List (BitVec 8) :=
  (List.range bs.length).map fun i => bs.getD i 0#8 ^^^ ckB key (ct + BitVec.ofNat 32 (i / 64)) non (i % 64)
@[simp] theorem xorB_length (key : Nat → BitVec 8) (ct : BitVec 32) (non : Nat → BitVec 8) (bs : List (BitVec 8)) : (xorB key ct non bs).length = bs.length := by simp [xorB]
theorem n8_xorR (x y : BitVec 8) : bits .xor .u8 (n8 x) (n8 y) = n8 (x ^^^ y) := by
  rw [n8_nat, n8_nat, n8_nat, u8_xor _ _ (by omega) (by have := x.isLt; omega) (by omega) (by have := y.isLt; omega)]
  simp
theorem bys_getD (bs : List (BitVec 8)) (i : Nat) (h : i < bs.length) : (bys bs).getD i 0 = n8 (bs.getD i 0#8) := by simp [bys, h]
theorem bys_xorB (key : Nat → BitVec 8) (ct : BitVec 32) (non : Nat → BitVec 8) (bs : List (BitVec 8)) : bys (xorB key ct non bs) = xrs key ct non (bys bs) := by
  unfold xrs xorB bys
  rw [List.map_map]
  rw [show (bs.map fun y => n8 y).length = bs.length by simp]
  refine List.map_congr_left fun i hi => ?_
  have hi' : i < bs.length := by simpa using hi
  have := bys_getD bs i hi'
  unfold bys at this
  unfold xr
  rw [this, n8_xorR]
  rfl
theorem xorB_twice (key : Nat → BitVec 8) (ct : BitVec 32) (non : Nat → BitVec 8) (bs : List (BitVec 8)) : xorB key ct non (xorB key ct non bs) = bs := by
  apply List.ext_getElem
  · simp
  · intro i h1 h2
    simp [xorB, h2, BitVec.xor_assoc]
/-- a row as one of one's own -/
theorem own_row {w : World} {O base n : Nat} {f : Nat → Value} (h : w.rowIs O 5 n f) (hb : base ≤ O) (hn : n ≤ maxLen) : w.ownsRow base 5 1 (.slice (some ⟨O, 0, none⟩) n n) n ((List.range n).map f) := by
  obtain ⟨c, h1, h2, h3⟩ := h
  refine ⟨by simp, .inr ⟨O, n, c, rfl, hb, h1, Nat.le_refl _, hn, by omega, ?_⟩⟩
  apply List.ext_getElem
  · simp [h2]
  · intro i hi1 hi2
    have hi : i < n := by simpa using hi2
    have := h3 i hi
    simp only [List.getElem_take, Array.getElem_toList, List.getElem_map, List.getElem_range]
    have h4 := Array.getElem?_eq_some_iff.1 this
    exact h4.2
theorem own_mono {w : World} {base base' : Nat} {e : TypeId} {size : Nat} {v : Value} {n : Nat} {xs : List Value} (h : w.ownsRow base e size v n xs) (hb : base' ≤ base) : w.ownsRow base' e size v n xs := by
  refine ⟨h.1, ?_⟩
  rcases h.2 with h2 | ⟨g, cap, cur, e1, e2, e3⟩
  · exact .inl h2
  · exact .inr ⟨g, cap, cur, e1, by omega, e3⟩
theorem xorb_any (key non : Nat → BitVec 8) (ct : BitVec 32) (A : Option Addr) (bs : List (BitVec 8)) (cap : Nat) (w : World) (hA : SlRead w A (ints .u8 (bys bs))) (hx : bs.length ≤ 1000) :
    Calls Try.prog 14 #[.agg (arr8 32 key), v32 ct, .agg (arr8 12 non), .slice A bs.length cap] w fun e w' => ∃ O, e = .returned (.slice (some ⟨O, 0, none⟩) bs.length bs.length) ∧ OwnB w w.heap.size (xorB key ct non bs) (.slice (some ⟨O, 0, none⟩) bs.length bs.length) w' := by
  have h := xor_any key non ct A (bys bs) cap w hA (by simpa using hx)
  rw [bys_length] at h
  refine h.mono ?_
  rintro e w' ⟨O, rfl, hr, hO, hb⟩
  refine ⟨O, rfl, ?_, hb, hb.size⟩
  have := own_row hr hO (by unfold maxLen; omega)
  rw [xorB_length, bys_xorB, xrs, bys_length]
  unfold ints
  rw [List.map_map]
  exact this

def sealB (key non : Nat → BitVec 8) (ad b : List (BitVec 8)) : List (BitVec 8) := xorB key 1#32 non b ++ lst 16 (polyB (ckB key 0#32 non) (tagData ad (xorB key 1#32 non b)))
@[simp] theorem sealB_length (key non : Nat → BitVec 8) (ad b : List (BitVec 8)) : (sealB key non ad b).length = b.length + 16 := by simp [sealB]

set_option maxRecDepth 100000 in
set_option maxHeartbeats 1600000 in
theorem seal_any (key non : Nat → BitVec 8) (A X : Option Addr) (ad b : List (BitVec 8)) (ca cx : Nat) (w : World) (hA : SlRead w A (ints .u8 (bys ad))) (hX : SlRead w X (ints .u8 (bys b))) (hla : ad.length ≤ 1000) (hlx : b.length ≤ 1000) :
    Calls Try.prog 12 #[.agg (arr8 32 key), .agg (arr8 12 non), .slice A ad.length ca, .slice X b.length cx] w fun e w' => ∃ v, e = .returned v ∧ OwnB w w.heap.size (sealB key non ad b) v w' := by
  have hslT := sliceAt_all (P := Try.prog) 16 Try.underlying39 (show (Try.prog.info? 5).map (·.size) = some 1 by kernel_rfl)
  go_enter Try.func12, Try.ntmps12
  go_upto_region 1 with (fail)
  refine wp_world (fun W => W.rowIs w.heap.size 31 32 (fun i => v8 (key i)) ∧ W.rowIs (w.heap.size + 1) 36 12 (fun i => v8 (non i)) ∧ Below w.heap.size w W) ?_ ?_
  · refine ⟨?_, ?_, ?_⟩
    · exact (rowIs_new _ _ _ _ _ _ (by simp) (by simp) (fun i hi => arr8_get 32 key i hi)).alloc _
    · exact rowIs_new _ _ _ _ _ _ (by simp) (by simp) (fun i hi => arr8_get 12 non i hi)
    · go_grown
  rintro W0 ⟨h0, h1, h2⟩
  generalize hB : w.heap.size = B at h0 h1 h2 ⊢
  have HB := Lib.hid hB; clear hB
  have hk := rowIs_heap8 h0
  have hn := rowIs_heap8 h1
  have hX0 : SlRead W0 X (ints .u8 (bys b)) := hX.below (by rw [HB.out]; exact h2)
  go_wp2_with (first | (refine wpList_load_row rfl 31 _ rfl _ rfl _ _ _ _ hk Try.underlying31 rfl (by kernel_rfl) ?_) | (refine wpList_load_row rfl 36 _ rfl _ rfl _ _ _ _ hn Try.underlying36 rfl (by kernel_rfl) ?_))
  refine (xorb_any key non 1#32 X b cx W0 hX0 hlx).mono ?_
  rintro e W1 ⟨O, rfl, hw1⟩
  have h01 := h0.of_block (hw1.b.block _ h0.lt)
  have h11 := h1.of_block (hw1.b.block _ h1.lt)
  have hb1 : Below B w W1 := h2.trans (hw1.b.mono (Nat.le_of_lt h0.lt))
  have hle : B + 1 < W0.heap.size := h1.lt
  have hown := own_mono hw1.own (Nat.le_of_lt h0.lt)
  have hB1 : B ≤ W1.heap.size := by rw [← HB.out]; exact hb1.size
  obtain ⟨c, hc⟩ : ∃ c, c = xorB key 1#32 non b := ⟨_, rfl⟩
  have hcl : c.length = b.length := by rw [hc]; simp
  rw [← hc, ← hcl] at hown
  rw [← hcl]
  have hc1 : c.length ≤ 1000 := by omega
  have HC := Lib.hid hc
  clear hc hcl h0 h1 h2 hk hn hX0 hw1 hle W0
  have hk := rowIs_heap8 h01
  have hn := rowIs_heap8 h11
  have hA1 : SlRead W1 A (ints .u8 (bys ad)) := hA.below (by rw [HB.out]; exact hb1)
  have hS1 := SlRead.of_own hown
  go_upto_region 3 with (first | (refine wpList_load_row rfl 31 _ rfl _ rfl _ _ _ _ hk Try.underlying31 rfl (by kernel_rfl) ?_) | (refine wpList_load_row rfl 36 _ rfl _ rfl _ _ _ _ hn Try.underlying36 rfl (by kernel_rfl) ?_) | (go_at_call 15; refine (tagof_any key non A (some ⟨O, 0, none⟩) ad c ca c.length W1 hA1 hS1 hla hc1).mono ?_; rintro e W2 ⟨rfl, hb2⟩) | (refine wpList_store_row rfl 39 _ _ rfl _ _ rfl rfl _ _ (heap_alloc_new _ _) (by kernel_rfl) (by simp) (arr8_one _ _) ?_; rw [alloc_setRow]))
  obtain ⟨tg, htg⟩ : ∃ tg, tg = polyB (ckB key 0#32 non) (tagData ad c) := ⟨_, rfl⟩
  rw [← htg]
  have HT := Lib.hid htg
  refine wp_world (fun W => W.ownsRow B 5 1 (.slice (some ⟨O, 0, none⟩) c.length c.length) c.length (ints .u8 (bys c)) ∧ SlRead W (some ⟨W2.heap.size, 0, none⟩) (ints .u8 (bys (lst 16 tg))) ∧ Below B w W ∧ B ≤ W.heap.size) ?_ ?_
  · have hb3 : Below W1.heap.size W1 (W2.alloc (.cells (arr8 16 tg) 39)) := hb2.alloc hb2.size _
    have hb4 : Below B w (W2.alloc (.cells (arr8 16 tg) 39)) := hb1.trans (hb3.mono hB1)
    exact ⟨ownsRow_via hown (fun g _ hlt => hb3.block g hlt), slread_row (t := 39) (rowIs_new _ _ _ _ _ _ rfl (by simp) (fun i hi => arr8_get 16 _ i hi)), hb4, by rw [← HB.out]; exact hb4.size⟩
  rintro W3 ⟨hown3, hS3, hb3, hB3⟩
  generalize W2.heap.size = g at hS3 ⊢
  clear hown h01 h11 hk hn hA1 hS1 hb1 hB1 hb2 htg W2 W1
  go_wp2_with (at_builtin; refine push_many rfl _ _ rfl W3 B (.slice (some ⟨O, 0, none⟩) c.length c.length) c (some ⟨g, 0, none⟩) (lst 16 tg) 16 rfl rfl hown3 hS3 hB3 (by rw [lst_length]; omega) ?_; intro v' W4 hown4 hb4 hg1 hg2; clear hg1 hg2)
  go_wp2_with fail
  go_ret
  have e : c ++ lst 16 tg = sealB key non ad b := by rw [HT.out, HC.out]; rfl
  rw [e] at hown4
  rw [HB.out]
  exact ⟨v', rfl, hown4, hb3.trans hb4, by rw [← HB.out]; exact (hb3.trans hb4).size⟩
end Go.Proofs.Ytpegihfocnchnaa
