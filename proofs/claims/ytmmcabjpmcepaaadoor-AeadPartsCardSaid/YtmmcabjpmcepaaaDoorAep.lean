import Derived.Test.YtmmcabjpmcepaaaDoorAeo
/-
  AeadVector.
-/
namespace Go.Proofs.YtmmcabjpmcepaaaDoor
open Go.RowKit

theorem keyR_congr {k k' : Nat → BitVec 8} (h : ∀ i, i < 32 → k i = k' i) : keyR k = keyR k' := by
  unfold keyR numB
  exact num_congr 16 fun i hi => by
    show (clampB i (k i)).toNat = (clampB i (k' i)).toNat
    rw [h i (by omega)]
theorem polyB_congr {k k' : Nat → BitVec 8} (h : ∀ i, i < 32 → k i = k' i) (bs : List (BitVec 8)) : polyB k bs = polyB k' bs := by
  unfold polyB
  rw [keyR_congr h]
  funext t
  unfold tagB
  rw [num_congr (f := tagF _ k) (g := tagF _ k') 16 fun i hi => by unfold tagF; rw [h (16 + i) (by omega)]]
theorem v_seal : sealB vKey vNon vAd vText = vCt ++ vTag := by
  unfold sealB
  rw [v_ct]
  have h : ∀ i, i < 32 → ckB vKey 0#32 vNon i = vOtkL.getD i 0#8 := fun i hi => by
    rw [← v_otk]
    simp [lst, hi]
  rw [polyB_congr (k' := fun i => vOtkL.getD i 0#8) h, v_tag]
theorem nonRow : ∀ i, i < 12 → (#[.int .u8 7, .int .u8 0, .int .u8 0, .int .u8 0, .int .u8 64, .int .u8 65, .int .u8 66, .int .u8 67, .int .u8 68, .int .u8 69, .int .u8 70, .int .u8 71] : Array Value)[i]? = some (v8 (vNon i)) := fun i hi =>
  match i, hi with
  | 0, _ => rfl
  | 1, _ => rfl
  | 2, _ => rfl
  | 3, _ => rfl
  | 4, _ => rfl
  | 5, _ => rfl
  | 6, _ => rfl
  | 7, _ => rfl
  | 8, _ => rfl
  | 9, _ => rfl
  | 10, _ => rfl
  | 11, _ => rfl
  | (n + 12), h => absurd h (by omega)
theorem slread_newA {W : World} {t : TypeId} (ys : List (BitVec 8)) (cs : Array Value) (h : cs.toList = ints .u8 (bys ys)) : SlRead (W.alloc (.cells cs t)) (some ⟨W.heap.size, 0, none⟩) (ints .u8 (bys ys)) := by
  intro _
  refine ⟨W.heap.size, 0, rfl, by simp, fun j u hj => ?_⟩
  rw [Nat.zero_add, World.cell?_alloc_new, ← hj, ← h, Array.getElem?_toList]
/-- a string's bytes -/
theorem wpList_conv_str {P : Program} {w : World} {ops : Array Oper} {rest : List Oper} {o : Oper} {a : Act} {Q : Exit → Act → World → Prop} (hgd : o.guard = none) (src dst e : TypeId) (x : Operand) (ho : o.op = .convert src dst x)
    (hs : P.underlying src = some .string) (hd : P.underlying dst = some (.slice e)) (he : P.underlying e = some (.int .u8)) (s : ByteArray) (hx : a.eval x = .string s) (ys : List (BitVec 8)) (hys : s.data.toList.map (fun b => (b.toNat : Int)) = bys ys)
    (h : ∀ w' c, SlRead w' (some ⟨w.heap.size, 0, none⟩) (ints .u8 (bys ys)) → Below w.heap.size w w' → wpList P ops Q rest (a.put o.dst (.slice (some ⟨w.heap.size, 0, none⟩) ys.length c)) w') : wpList P ops Q (o :: rest) a w := by
  have hl : s.size = ys.length := by
    have := congrArg List.length hys
    simpa [bys] using this
  refine wpList_plain hgd fun K hK => ?_
  have hrun := run_bytes_of_string (P := P) w src dst e s hs hd he
  generalize grownCap w s.size 0 e = cp at hrun
  rw [hl] at hrun
  have hS : SlRead (w.drew.alloc (.cells (bytesRow s cp) e ((bytesRow s cp).size, (bytesRow s cp).size + 1))) (some ⟨w.heap.size, 0, none⟩) (ints .u8 (bys ys)) := by
    have hws : w.drew.heap.size = w.heap.size := rfl
    rw [← hws]
    generalize w.drew = W
    clear hrun hws
    intro _
    refine ⟨W.heap.size, 0, rfl, by simp, fun j u hj => ?_⟩
    rw [Nat.zero_add]
    have hjl : j < s.data.size := by
      have h1 := (List.getElem?_eq_some_iff.1 hj).1
      rw [bys_ints, List.length_map, ← hl] at h1
      exact h1
    have h2 := bytesRow_at s cp j hjl
    have h3 : (W.alloc (.cells (bytesRow s cp) e ((bytesRow s cp).size, (bytesRow s cp).size + 1))).cell? ⟨W.heap.size, j, none⟩ = (bytesRow s cp)[j]? := by
      show (match (W.alloc (.cells (bytesRow s cp) e ((bytesRow s cp).size, (bytesRow s cp).size + 1))).heap[W.heap.size]? with | some (.cells c _ _) => c[j]? | _ => none) = _
      rw [heap_alloc_new]
    rw [h3, h2, ← hj]
    unfold ints
    rw [← hys, List.getElem?_map, List.getElem?_map, Array.getElem?_toList, Array.getElem?_eq_getElem hjl]
    rfl
  have hB : Below w.heap.size w (w.drew.alloc (.cells (bytesRow s cp) e ((bytesRow s cp).size, (bytesRow s cp).size + 1))) := (Below.drewNr (w := w) 1).alloc (by simp [World.drewN]) _
  generalize w.drew.alloc (.cells (bytesRow s cp) e ((bytesRow s cp).size, (bytesRow s cp).size + 1)) = W' at hrun hS hB
  unfold Oper.wp
  simp [execOp, ho, hx, hrun, Result.andThen]
  exact hK _ _ (h W' cp hS hB)

set_option maxRecDepth 100000 in
set_option maxHeartbeats 3200000 in
theorem vector_walk (E : Nat → Addr) (z : Int) (w : World) (hE : ErrsAt E w) :
    Calls Tryd.prog 5 #[.int .i64 z] w fun e w' => e = .returned (.bool true) ∧ Below w.heap.size w w' := by
  go_enter Tryd.func5, Tryd.ntmps5
  go_wp2_with fail
  refine (first_any E w hE).mono ?_
  rintro e W1 ⟨rfl, hb1⟩
  generalize hB : w.heap.size = B at hb1 ⊢
  have HB := Lib.hid hB; clear hB
  have hB1 : B ≤ W1.heap.size := by rw [← HB.out]; exact hb1.size
  go_upto_region 5 with (fail)
  obtain ⟨KB, hKB⟩ : ∃ KB, KB = W1.heap.size := ⟨_, rfl⟩
  have HKB := Lib.hid hKB
  rw [← hKB] at hB1 ⊢
  clear hKB
  refine wp_world (fun W => W.rowIs KB 23 32 (fun i => v8 (if i < 0 then vKey i else 0#8)) ∧ Below B w W) ?_ ?_
  · exact ⟨rowIs_new _ _ _ _ _ _ HKB.out (by rfl) (fun i hi => (zeroK i hi).trans (by rw [if_neg (by omega)])), hb1.alloc (by rw [← HKB.out]; exact hB1) _⟩
  clear hb1 HKB
  rintro W2 ⟨hk2, hb2⟩
  go_wp2_with fail
  go_loopw [5] (fun i wr => ∃ k : Nat, k ≤ 32 ∧ i = .int .i64 k ∧ wr.rowIs KB 23 32 (fun i => v8 (if i < k then vKey i else 0#8)) ∧ Below B w wr) (fun i _ => 32 - (intOf i).toNat)
  case atStart => exact ⟨0, by omega, rfl, hk2, hb2⟩
  clear hk2 hb2
  case round =>
    obtain ⟨k, hk, rfl, hkr, hbr⟩ := hrel
    by_cases hlt : k < 32
    · have co := hkr.cell hlt
      have fo := hkr.frozen k
      have hv : (128 + (k : Int)) % 256 = n8 (vKey k) := by rw [n8_nat]; unfold vKey; rw [BitVec.toNat_ofNat]; omega
      have hv2 : IntKind.u8.wrap (128 + (k : Int)) = n8 (vKey k) := by rw [← hv]; simp [IntKind.wrap, IntKind.signed, IntKind.bits]
      have HT : Hid (World.rowIs (wr.setCell ⟨KB, k, none⟩ (v8 (vKey k))) KB 23 32 (fun i => v8 (if i < k + 1 then vKey i else 0#8)) ∧ Below B w (wr.setCell ⟨KB, k, none⟩ (v8 (vKey k)))) := Lib.hid ⟨(hkr.set k _).congr fun i hi => by
        by_cases e : i = k
        · rw [if_pos e, if_pos (by omega), e]
        · rw [if_neg e]
          by_cases e2 : i < k
          · rw [if_pos e2, if_pos (by omega)]
          · rw [if_neg e2, if_neg (by omega)], hbr.setCell hB1 _⟩
      clear hkr hbr
      go_wp2_with fail
      go_roundw
      case rel => exact ⟨k + 1, by omega, by go_num, HT.out.1, HT.out.2⟩
      case measure => simp [intOf]; omega
    · obtain rfl : k = 32 := by omega
      have hkK : wr.rowIs KB 23 32 (fun i => v8 (vKey i)) := hkr.congr fun i hi => by rw [if_pos hi]
      have hKs : KB < wr.heap.size := hkK.lt
      clear hkr hk hlt
      go_upto_region 10 with (refine wpList_store_row rfl 24 _ _ rfl _ _ rfl rfl _ _ (heap_alloc_new _ _) (by kernel_rfl) (by simp) (by decide) ?_; rw [alloc_setRow])
      obtain ⟨NB, hNB⟩ : ∃ NB, NB = wr.heap.size := ⟨_, rfl⟩
      have HNB := Lib.hid hNB
      rw [← hNB] at hKs ⊢
      clear hNB
      refine wp_world (fun W => W.rowIs KB 23 32 (fun i => v8 (vKey i)) ∧ W.rowIs NB 24 12 (fun i => v8 (vNon i)) ∧ Below B w W) ?_ ?_
      · exact ⟨hkK.alloc _, rowIs_new _ _ _ _ _ _ HNB.out (by rfl) (fun i hi => nonRow i hi), hbr.alloc (by have := HNB.out; omega) _⟩
      clear hkK hbr HNB
      rintro W3 ⟨hk3, hn3, hb3⟩
      go_upto_region 11 with (fail)
      obtain ⟨GA, hGA⟩ : ∃ GA, GA = W3.heap.size := ⟨_, rfl⟩
      have HGA := Lib.hid hGA
      have hNG : NB < GA := hGA ▸ hn3.lt
      rw [← hGA]
      clear hGA
      refine wp_world (fun W => W.rowIs KB 23 32 (fun i => v8 (vKey i)) ∧ W.rowIs NB 24 12 (fun i => v8 (vNon i)) ∧ Below B w W ∧ SlRead W (some ⟨GA, 0, none⟩) (ints .u8 (bys vAd))) ?_ ?_
      · refine ⟨hk3.alloc _, hn3.alloc _, hb3.alloc (by have := HGA.out; omega) _, ?_⟩
        have := slread_newA (W := W3) (t := 5) vAd (ints .u8 (bys vAd)).toArray rfl
        rw [← HGA.out] at this
        exact this
      clear hk3 hn3 hb3 HGA
      rintro W4 ⟨hk4, hn4, hb4, hA4⟩
      go_upto_region 12 with (fail)
      obtain ⟨S, hS⟩ : ∃ S : ByteArray, S = { data := ([76, 97, 100, 105, 101, 115, 32, 97, 110, 100, 32, 71, 101, 110, 116, 108, 101, 109, 101, 110, 32, 111, 102, 32, 116, 104, 101, 32, 99, 108, 97, 115, 115, 32, 111, 102, 32, 39, 57, 57, 58, 32, 73, 102, 32, 73, 32, 99, 111, 117, 108, 100, 32, 111, 102, 102, 101].append [114, 32, 121, 111, 117, 32, 111, 110, 108, 121, 32, 111, 110, 101, 32, 116, 105, 112, 32, 102, 111, 114, 32, 116, 104, 101, 32, 102, 117, 116, 117, 114, 101, 44, 32, 115, 117, 110, 115, 99, 114, 101, 101, 110, 32, 119, 111, 117, 108, 100, 32, 98, 101, 32, 105, 116, 46]).toArray  } := ⟨_, rfl⟩
      rw [← hS]
      have hSs : S.size = 114 := by rw [hS]; rfl
      have hSd : S.data.toList.map (fun b => (b.toNat : Int)) = bys vText := by rw [hS]; decide +kernel
      clear hS
      have HSD := Lib.hid hSd
      have HSS := Lib.hid hSs
      clear hSd hSs
      have hk := rowIs_heap8 hk4
      have hn := rowIs_heap8 hn4
      go_wp2_with (first | (refine wpList_load_row rfl 23 _ rfl _ rfl _ _ _ _ hk Tryd.underlying23 rfl (by kernel_rfl) ?_) | (refine wpList_load_row rfl 24 _ rfl _ rfl _ _ _ _ hn Tryd.underlying24 rfl (by kernel_rfl) ?_) | (refine wpList_conv_str rfl 9 25 5 (.tmp 30) rfl Tryd.underlying9 Tryd.underlying25 Tryd.underlying5 S rfl vText HSD.out ?_; intro W5 ct hS5 hb5))
      have hk5 := hk4.of_block (hb5.block _ hk4.lt)
      have hn5 := hn4.of_block (hb5.block _ hn4.lt)
      have hA5 := hA4.below hb5
      have hBw : B ≤ W4.heap.size := by rw [← HB.out]; exact hb4.size
      have hbb5 := hb4.trans (hb5.mono hBw)
      have hsl := seal_any vKey vNon (some ⟨GA, 0, none⟩) (some ⟨W4.heap.size, 0, none⟩) vAd vText 12 ct W5 hA5 hS5 (by decide) (by decide)
      rw [v_seal] at hsl
      have hsl2 : Calls Tryd.prog 9 #[.agg (arr8 32 vKey), .agg (arr8 12 vNon), .slice (some ⟨GA, 0, none⟩) 12 12, .slice (some ⟨W4.heap.size, 0, none⟩) 114 ct] W5 fun e w' => ∃ v, e = .returned v ∧ OwnB W5 W5.heap.size (vCt ++ vTag) v w' := hsl
      clear hsl hk hn hk4 hn4 hA4 hb4 hb5 hS5
      go_wp2_with fail
      refine hsl2.mono ?_
      rintro e W6 ⟨v6, rfl, h6⟩
      have hk6 := hk5.of_block (h6.b.block _ hk5.lt)
      have hn6 := hn5.of_block (h6.b.block _ hn5.lt)
      have hA6 := hA5.below h6.b
      have hBw5 : B ≤ W5.heap.size := by rw [← HB.out]; exact hbb5.size
      have hbb6 := hbb5.trans (h6.b.mono hBw5)
      obtain ⟨gc, cc, rfl, _, _⟩ := h6.own.form (by decide)
      have hSc := SlRead.of_own h6.own
      have hcc : 130 ≤ cc := by
        obtain ⟨O, c', e, l, _⟩ := h6.is
        simp only [Value.slice.injEq] at e
        have : (vCt ++ vTag).length = 130 := rfl
        omega
      rw [show (vCt ++ vTag).length = 130 from rfl]
      clear h6 hsl2 hk5 hn5 hA5 hbb5 hBw5 hBw
      go_upto_region 14 with (fail)
      obtain ⟨GT, hGT⟩ : ∃ GT, GT = W6.heap.size := ⟨_, rfl⟩
      have HGT := Lib.hid hGT
      rw [← hGT]
      clear hGT
      have hal : ∀ o, Below W6.heap.size W6 (W6.alloc o) := fun o => (Below.refl _ _).alloc (Nat.le_refl _) _
      refine wp_world (fun W => W.rowIs KB 23 32 (fun i => v8 (vKey i)) ∧ W.rowIs NB 24 12 (fun i => v8 (vNon i)) ∧ Below B w W ∧ SlRead W (some ⟨GA, 0, none⟩) (ints .u8 (bys vAd)) ∧ SlRead W (some ⟨gc, 0, none⟩) (ints .u8 (bys (vCt ++ vTag))) ∧ SlRead W (some ⟨GT, 0, none⟩) (ints .u8 (bys vTag))) ?_ ?_
      · refine ⟨hk6.alloc _, hn6.alloc _, hbb6.alloc (by rw [← HB.out]; exact hbb6.size) _, hA6.below (hal _), hSc.below (hal _), ?_⟩
        have := slread_newA (W := W6) (t := 5) vTag (ints .u8 (bys vTag)).toArray rfl
        rw [← HGT.out] at this
        exact this
      clear hk6 hn6 hA6 hbb6 hSc HGT hal
      rintro W7 ⟨hk7, hn7, hb7, hA7, hSc7, hST7⟩
      have c0 : W7.cell? ⟨gc, 0, none⟩ = some (.int .u8 211) := by
        obtain ⟨b, o, e, _, h⟩ := hSc7 (by rw [bys_ints, List.length_map]; decide)
        simp only [Option.some.injEq, Addr.mk.injEq] at e
        obtain ⟨rfl, rfl, _⟩ := e
        exact h 0 (v8 211#8) rfl
      have c1 : W7.cell? ⟨gc, 1, none⟩ = some (.int .u8 26) := by
        obtain ⟨b, o, e, _, h⟩ := hSc7 (by rw [bys_ints, List.length_map]; decide)
        simp only [Option.some.injEq, Addr.mk.injEq] at e
        obtain ⟨rfl, rfl, _⟩ := e
        exact h 1 (v8 26#8) rfl
      have hS8 := HSS.out
      have hsl := slice_sl_l (P := Tryd.prog) (t := 25) Tryd.underlying25 (show (Tryd.prog.info? 5).map (·.size) = some 1 by kernel_rfl) (some ⟨gc, 0, none⟩) 130 cc 114 114 rfl (by omega)
      rw [show cutA (some ⟨gc, 0, none⟩) 114 cc = some ⟨gc, 114, none⟩ by rw [cutA_some (n := 130) (by omega) hcc]] at hsl
      have hSt : SlRead W7 (some ⟨gc, 114, none⟩) (ints .u8 (bys vTag)) := by
        have := hSc7.cut 114 (some ⟨gc, 114, none⟩) (fun _ b o e => by simp only [Option.some.injEq, Addr.mk.injEq] at e; obtain ⟨rfl, rfl, _⟩ := e; rfl)
        rw [bys_drop] at this
        exact this
      have hsm : Quiets Tryd.prog 10 #[.slice (some ⟨gc, 114, none⟩) 16 (cc - 114), .slice (some ⟨GT, 0, none⟩) 16 16] W7 (.bool true) := same_true (some ⟨gc, 114, none⟩) (some ⟨GT, 0, none⟩) vTag (cc - 114) 16 W7 hSt hST7 (by decide)
      go_wp2_with fail
      refine hsm.mono ?_
      rintro e W8 ⟨rfl, q, rfl⟩
      have hbq : Below W7.heap.size W7 (W7.drewN q) := Below.drewNr q
      generalize W7.drewN q = W8 at hbq ⊢
      have hk8 := hk7.of_block (hbq.block _ hk7.lt)
      have hn8 := hn7.of_block (hbq.block _ hn7.lt)
      have hA8 := hA7.below hbq
      have hSc8 := hSc7.below hbq
      have hb8 := hb7.trans (hbq.mono (by rw [← HB.out]; exact hb7.size))
      clear hsm hSt hST7 hsl c0 c1 hk7 hn7 hA7 hSc7 hb7 hbq hS8 HSD HSS
      go_upto_region 16 with (fail)
      refine wp_world (fun W => W.rowIs KB 23 32 (fun i => v8 (vKey i)) ∧ W.rowIs NB 24 12 (fun i => v8 (vNon i)) ∧ Below B w W ∧ SlRead W (some ⟨GA, 0, none⟩) (ints .u8 (bys vAd)) ∧ SlRead W (some ⟨gc, 0, none⟩) (ints .u8 (bys (vCt ++ vTag)))) ⟨hk8, hn8, hb8, hA8, hSc8⟩ ?_
      clear hk8 hn8 hb8 hA8 hSc8
      rintro W9 ⟨hk9, hn9, hb9, hA9, hSc9⟩
      have hBw9 : B ≤ W9.heap.size := by rw [← HB.out]; exact hb9.size
      obtain ⟨K, hK, hKl⟩ := exists_mod z 16 (by omega)
      have HK := Lib.hid hK
      clear hK
      have HO : ∀ w', Below W9.heap.size W9 w' → Calls Tryd.prog 14 #[.agg (arr8 32 vKey), .agg (arr8 12 vNon), .slice (some ⟨GA, 0, none⟩) 12 12, .slice (some ⟨gc, 0, none⟩) K cc] w' fun e w'' => ∃ r, e = .returned r ∧ Below w'.heap.size w' w'' ∧ TupS [] (errC E 103) r w'' := fun w' hb => by
        have hl : ((vCt ++ vTag).take K).length = K := by rw [List.length_take, show (vCt ++ vTag).length = 130 from rfl]; omega
        have h := openT (E := E) (key := vKey) (non := vNon) (A := some ⟨GA, 0, none⟩) (X := some ⟨gc, 0, none⟩) (ad := vAd) (b := (vCt ++ vTag).take K) (ca := 12) (cx := cc) (w := w') (hE.below (by rw [HB.out]; exact hb9.trans (hb.mono hBw9))) (hA9.below hb) ((hSc9.below hb).front K) (by decide) (by omega) (by omega)
        have hg : openGot vKey vNon vAd ((vCt ++ vTag).take K) = ([], 103) := by unfold openGot; rw [if_pos (by omega)]
        rw [hg, hl] at h
        exact h.mono fun _ _ ⟨v, h1, h2, h3⟩ => ⟨v, h1, h3, h2⟩
      refine wp_region_spec [Sp.k 0 (some 62) [] (.agg (arr8 32 vKey)),
        Sp.k 1 (some 63) [] (.agg (arr8 12 vNon)),
        Sp.k 2 (some 64) [] (.slice (some ⟨GA, 0, none⟩) 12 12),
        Sp.k 3 (some 65) [] (.slice (some ⟨gc, 0, none⟩) 130 cc),
        Sp.k 4 (some 66) [] (.int .i64 z),
        Sp.k 5 (some 67) [4] (.int .i64 (K : Int)),
        Sp.k 6 (some 68) [3, 5] (.slice (some ⟨gc, 0, none⟩) K cc),
        Sp.o 7 (some 69) [0, 1, 2, 6] (TupS ([]) (errC E 103)),
        Sp.o 8 (some 61) [7] (TupS ([]) (errC E 103)),
        Sp.o 9 (some 70) [8] (SlIsA ([])),
        Sp.o 10 (some 71) [8] (fun y _ => y = errC E 103),
        Sp.o 11 (some 11) [9] (SlIsA ([])),
        Sp.o 12 (some 12) [10] (fun y _ => y = errC E 103)] (by kernel_rfl) (by kernel_rfl)
        ⟨owes_load 0 (some 62) [] (.agg (arr8 32 vKey)) 23 (Go.Operand.tmp 4) (.pointer (some ⟨KB, 0, none⟩)) (fun v => by kernel_rfl) (fun v => by kernel_rfl) (fun w' hb => key_load (hk9.of_block ((drB hb).block _ hk9.lt))),
        owes_load 1 (some 63) [] (.agg (arr8 12 vNon)) 24 (Go.Operand.tmp 6) (.pointer (some ⟨NB, 0, none⟩)) (fun v => by kernel_rfl) (fun v => by kernel_rfl) (fun w' hb => non_load (hn9.of_block ((drB hb).block _ hn9.lt))),
        owes_move 2 (some 64) [] (.slice (some ⟨GA, 0, none⟩) 12 12) (Go.Operand.tmp 7) (fun v => by kernel_rfl) (fun v => by kernel_rfl),
        owes_move 3 (some 65) [] (.slice (some ⟨gc, 0, none⟩) 130 cc) (Go.Operand.tmp 9) (fun v => by kernel_rfl) (fun v => by kernel_rfl),
        owes_move 4 (some 66) [] (.int .i64 z) (Go.Operand.tmp 0) (fun v => by kernel_rfl) (fun v => by kernel_rfl),
        owes_call 5 (some 67) [4] (.int .i64 (K : Int)) 13 #[Go.Operand.tmp 66, Go.Operand.const (Go.Value.int Go.IntKind.i64 16)] #[3, 3] (fun v => by kernel_rfl) (fun _ _ => by kernel_rfl) (fun v w' hb ho => by
            exact ⟨#[.int .i64 z, Go.Value.int Go.IntKind.i64 16], by kernel_rfl, (quietB (number_nat z 16 K w' (by omega) HK.out)).mono (fun _ _ h => h)⟩),
        owes_slice 6 (some 68) [3, 5] (.slice (some ⟨gc, 0, none⟩) K cc) 25 (Go.Operand.tmp 65) none (some (Go.Operand.tmp 67)) none (.slice (some ⟨gc, 0, none⟩) 130 cc) none (some (.int .i64 (K : Int))) none (fun v => by kernel_rfl) (fun v => by kernel_rfl) (slice_h0 (P := Tryd.prog) (t := 25) Tryd.underlying25 (show (Tryd.prog.info? 5).map (·.size) = some 1 by kernel_rfl) (some ⟨gc, 0, none⟩) 130 cc K (by omega)),
        owes_call_o 7 (some 69) [0, 1, 2, 6] (TupS ([]) (errC E 103)) 14 #[Go.Operand.tmp 62, Go.Operand.tmp 63, Go.Operand.tmp 64, Go.Operand.tmp 68] #[23, 24, 25, 25] (fun v => by kernel_rfl) (fun _ _ => by kernel_rfl) TupS.mono (fun v w' hb ho => by
            exact ⟨#[.agg (arr8 32 vKey), .agg (arr8 12 vNon), .slice (some ⟨GA, 0, none⟩) 12 12, .slice (some ⟨gc, 0, none⟩) K cc], by kernel_rfl, (HO w' (drB hb)).mono (fun _ _ h => h)⟩),
        owes_move_o 8 (some 61) [7] (TupS ([]) (errC E 103)) (Go.Operand.tmp 69) 7 (fun v => by kernel_rfl) TupS.mono (fun v => by kernel_rfl) (fun v w' hb ho => ho.get 7 _ _ (TupS ([]) (errC E 103)) rfl rfl),
        owes_extract_o 9 (some 70) [8] (SlIsA ([])) (.tmp 61) 0 (fun v => by kernel_rfl) SlIsA.mono (fun v w' hb ho => by
              obtain ⟨O, c, e, l, q⟩ := ho.get 8 _ _ (TupS ([]) (errC E 103)) rfl rfl
              exact ⟨#[.slice O ([]).length c, errC E 103], _, Eq.trans (b := v 8) (by kernel_rfl) e, by kernel_rfl, O, c, rfl, l, q⟩),
        owes_extract_o 10 (some 71) [8] (fun y _ => y = errC E 103) (.tmp 61) 1 (fun v => by kernel_rfl) (fun _ _ _ h _ => h) (fun v w' hb ho => by
              obtain ⟨O, c, e, l, q⟩ := ho.get 8 _ _ (TupS ([]) (errC E 103)) rfl rfl
              exact ⟨#[.slice O ([]).length c, errC E 103], _, Eq.trans (b := v 8) (by kernel_rfl) e, by kernel_rfl, rfl⟩),
        owes_assign_o 11 (some 11) [9] (SlIsA ([])) (Go.Operand.tmp 70) 9 (fun v => by kernel_rfl) SlIsA.mono (fun v => by kernel_rfl) (fun v w' hb ho => ho.get 9 _ _ (SlIsA ([])) rfl rfl),
        owes_assign_o 12 (some 12) [10] (fun y _ => y = errC E 103) (Go.Operand.tmp 71) 10 (fun v => by kernel_rfl) (fun _ _ _ h _ => h) (fun v => by kernel_rfl) (fun v w' hb ho => ho.get 10 _ _ (fun y _ => y = errC E 103) rfl rfl), trivial⟩ ?_
      intro v W10 hb' hall
      obtain ⟨A11, c11, e11, l11, r11⟩ := hall.open_ 11 _ _ (SlIsA ([])) rfl
      have e12 : v 12 = errC E 103 := hall.open_ 12 _ _ (fun y _ => y = errC E 103) rfl
      clear hall
      simp only [putsL_k, putsL_o, putsL_nil, List.set_cons_zero, List.set_cons_succ]
      rw [e11, e12]
      clear e11 e12
      replace hb' := drB hb'
      have hb10 := hb9.trans (hb'.mono hBw9)
      have hBw10 : B ≤ W10.heap.size := by rw [← HB.out]; exact hb10.size
      have hi := is_any E (errC E 103) 103 103 (errC_reads E 103 (by omega)) W10 (hE.below (by rw [HB.out]; exact hb10))
      rw [show decide ((103 : Int) = 103) = true by decide] at hi
      clear hk9 hn9 hb9 hA9 hSc9 HO hb' r11
      go_wp2_with fail
      refine hi.mono ?_
      rintro e W11 ⟨rfl, hb11⟩
      have hfin := hb10.trans (hb11.mono hBw10)
      clear hi hb10 hb11
      go_wp2_with fail
      go_ret
      rw [HB.out]
      exact ⟨rfl, hfin⟩
end Go.Proofs.YtmmcabjpmcepaaaDoor
