import Derived.Test.YtccchhfcoicgcaaDoorPads
namespace Go.Proofs.YtccchhfcoicgcaaDoor
open Go.RowKit

/-- the digest by a key -/
def macOf (ks xs : List (BitVec 8)) : Nat → BitVec 8 := shaOf (lst 64 (outP ks) ++ lst 32 (shaOf (lst 64 (inP ks) ++ xs)))

theorem row_put {P : Program} {w : World} {g : Nat} {t ty : TypeId} {n : Nat} {f0 : Nat → BitVec 8} (f : Nat → BitVec 8) (h : w.rowIs g t n (fun i => v8 (f0 i))) (hi : (P.info? ty).map (·.size) = some n) :
    (Instr.storeAt ty (.pointer (some ⟨g, 0, none⟩)) (.agg (arr8 n f))).run P w = .ok () (w.setCells g 0 ((lst n f).map fun y => v8 y)) ∧ (w.setCells g 0 ((lst n f).map fun y => v8 y)).rowIs g t n (fun i => v8 (f i)) ∧ Only g w (w.setCells g 0 ((lst n f).map fun y => v8 y)) := by
  have he : (arr8 n f).toList = (lst n f).map fun y => v8 y := by simp [arr8, lst]
  refine ⟨?_, ?_, Only.setCells _ _ (Only.refl _ _)⟩
  · have := run_storeAt_mid (P := P) w g 0 ty (arr8 n f) (fun j hj => ⟨by rw [Nat.zero_add]; exact Option.isSome_of_eq_some (h.cell (i := j) (by simpa using hj)), h.frozen _⟩) (by rw [hi]; simp) (arr8_one n f)
    rwa [he] at this
  · refine (rowIs_setCells (lst n f) 0 h).congr fun i hi => ?_
    rw [if_pos (by simp; omega)]
    simp [List.getD, lst_get n f i hi]

section
variable {P : Program} {md : Region.Mode} {ops : Array Oper} {Q : Exit → Act → World → Prop} {S : World → Prop} {fuel : Nat} {listed : Array Bool} {a : Act} {w : World}
/-- one of the operations that are ready: a slice of some elements, made -/
theorem rdy_bsls {rs : List Nat} (i : Nat) (t e : TypeId) (n : Nat) (xs : Array (Nat × Operand)) (dst : Option Tmp) (vs : Array (Nat × Value)) (cs : Array Value)
    (hi : ops[i]?.map (fun o => (o.op, o.dst, Region.wanted o (yielded ops a.tmps))) = some (.buildSlice t n xs, dst, true))
    (hx : (xs.map fun (i, x) => (i, a.eval x)) = vs) (hrun : (Instr.buildSlice t n vs).run P w = .ok (.slice (some ⟨w.heap.size, 0, none⟩) n n) (w.alloc (.cells cs e))) (hS : S (w.alloc (.cells cs e)))
    (h : S (w.alloc (.cells cs e)) → wpAnyH P md ops Q S fuel (listed.setIfInBounds i true) (a.put dst (.slice (some ⟨w.heap.size, 0, none⟩) n n)) (w.alloc (.cells cs e))) (rest : AllReadyH P md ops Q S fuel listed a w rs) : AllReadyH P md ops Q S fuel listed a w (i :: rs) := by
  obtain ⟨oi, ho, he⟩ := Option.map_eq_some_iff.1 hi
  simp only [Prod.mk.injEq] at he
  refine AllReadyH.cons ho (fun K hK => ?_) rest
  rw [if_pos he.2.2]
  unfold Oper.wp
  simp only [execOp, he.1]
  simp [hx, hrun, Result.andThen]
  rw [Oper.upon_value, he.2.1]
  exact hK.out _ _ hS h
end
theorem SlRead.two_new {W : World} (v v' : Value) (t : TypeId) : SlRead (W.alloc (.cells #[v, v'] t)) (some ⟨W.heap.size, 0, none⟩) [v, v'] := by
  intro _
  refine ⟨W.heap.size, 0, rfl, by simp, fun j u hj => ?_⟩
  rw [Nat.zero_add, World.cell?_alloc_new]
  simpa using hj

theorem bsl_two (A B : Option Addr) (n c n' c' : Nat) (w : World) : (Instr.buildSlice 46 2 #[(0, .slice A n c), (1, .slice B n' c')]).run Tryd.prog w = .ok (.slice (some ⟨w.heap.size, 0, none⟩) 2 2) (w.alloc (.cells #[.slice A n c, .slice B n' c'] 33)) := by kernel_rfl

set_option maxRecDepth 100000 in
set_option maxHeartbeats 3200000 in
theorem msum_any (A : Option Addr) (ks : List (BitVec 8)) (cap : Nat) (B : Option Addr) (sl : List BSl) (capl : Nat) (w : World) (hA : SlRead w A (ints .u8 (bys ks))) (hcap : ks.length ≤ cap) (hlen : ks.length ≤ 4611686018427387904)
    (hB : SlRead w B (sl.map slv)) (hs : ∀ a ∈ sl, SlOk w a) (hl : sl.length ≤ 4611686018427387904) (hk : KAt w) :
    Calls Tryd.prog 16 #[.slice A ks.length cap, .slice B sl.length capl] w fun e w' => e = .returned (.agg (arr8 32 (macOf ks (flat sl)))) ∧ Below w.heap.size w w' := by
  go_enter Tryd.func16, Tryd.ntmps16
  go_upto_region 1 with (fail)
  refine wp_world (fun W => Below w.heap.size w W ∧ W.rowIs w.heap.size 31 32 (fun _ => v8 0#8)) ?_ ?_
  · refine ⟨by go_grown, ?_⟩
    exact rowIs_new w (Array.replicate 32 (.int .u8 0)) 31 w.heap.size 32 (fun _ => .int .u8 0) rfl (by simp) (fun i hi => by simp [hi])
  rintro W ⟨hb, hr0⟩
  have hkW := hk.below hb
  have hAW := hA.below hb
  have h0lt := hr0.lt
  go_wp2_with fail
  refine (pads_any A ks cap W hAW hcap hlen hkW).mono ?_
  rintro e W1 ⟨rfl, hb1⟩
  have hr1 := hr0.of_block (hb1.block _ h0lt)
  have hk1 := hkW.below hb1
  have hB1 := hb.trans (hb1.mono hb.size)
  have h01 : w.heap.size < W1.heap.size := Nat.lt_of_lt_of_le h0lt hb1.size
  clear hb hr0 hkW hAW hb1
  have hz1 : ∀ (o o' : Obj), ((W1.alloc o).alloc o').heap[W1.heap.size]? = some o := fun o o' => by rw [heap_alloc_old _ _ (by simp)]; exact heap_alloc_new _ _
  have hz2 : ∀ (o o' : Obj) (cs : Array Value), (((W1.alloc o).alloc o').setRow W1.heap.size cs).heap[W1.heap.size + 1]? = some o' := fun o o' cs => by
    rw [setRow_other _ _ _ _ (by omega)]
    have := heap_alloc_new (W1.alloc o) o'
    simpa using this
  go_upto_region 2 with (first | (refine wpList_store_row rfl 47 _ _ rfl _ _ rfl rfl _ _ (hz1 _ _) (by kernel_rfl) (by simp) (arr8_one _ _) ?_) | (refine wpList_store_row rfl 47 _ _ rfl _ _ rfl rfl _ _ (hz2 _ _ _) (by kernel_rfl) (by simp) (arr8_one _ _) ?_))
  refine wp_world (fun W => Below w.heap.size w W ∧ W.rowIs w.heap.size 31 32 (fun _ => v8 0#8) ∧ W.rowIs W1.heap.size 47 64 (fun i => v8 (inP ks i)) ∧ W.rowIs (W1.heap.size + 1) 47 64 (fun i => v8 (outP ks i)) ∧ KAt W) ?_ ?_
  · have hal : ∀ (o o' : Obj) (cs cs' : Array Value), Below W1.heap.size W1 ((((W1.alloc o).alloc o').setRow W1.heap.size cs).setRow (W1.heap.size + 1) cs') := fun o o' cs cs' =>
      below_setRow (below_setRow (((Below.refl _ _).alloc (Nat.le_refl _) _).alloc (by simp) _) (Nat.le_refl _) _) (by omega) _
    refine ⟨hB1.trans ((hal _ _ _ _).mono hB1.size), hr1.of_block ((hal _ _ _ _).block _ h01), ?_, ?_, hk1.below (hal _ _ _ _)⟩
    · exact ⟨_, (setRow_other _ _ _ _ (by omega)).trans (setRow_heap _ _ _ _ _ _ (hz1 _ _)), by simp, fun i hi => arr8_get 64 _ i hi⟩
    · exact ⟨_, setRow_heap _ _ _ _ _ _ (hz2 _ _ _), by simp, fun i hi => arr8_get 64 _ i hi⟩
  clear hz1 hz2 hr1 hk1 hB1
  generalize hP : W1.heap.size = P1 at *
  rintro W2 ⟨hb2, hr2, hi2, ho2, hk2⟩
  have hsl1 := fun w' => sliceAt_arr (P := Tryd.prog) 64 Tryd.underlying47 (show (Tryd.prog.info? 5).map (·.size) = some 1 by kernel_rfl) P1 (by omega) w'
  have hsl2 := fun w' => sliceAt_arr (P := Tryd.prog) 64 Tryd.underlying47 (show (Tryd.prog.info? 5).map (·.size) = some 1 by kernel_rfl) (P1 + 1) (by omega) w'
  have hg0 : 1 < w.heap.size := hk.lt
  go_wp2_with fail
  refine (new_any _).mono ?_
  rintro e W3 ⟨C, rfl, hC, hx3, hb3'⟩
  have hb3 := hb2.trans (hb3'.mono hb2.size)
  have hr3 := hr2.of_block (hb3'.block _ hr2.lt)
  have hi3 := hi2.of_block (hb3'.block _ hi2.lt)
  have ho3 := ho2.of_block (hb3'.block _ ho2.lt)
  have hk3 := hk2.below hb3'
  have hPC : P1 + 1 < C := Nat.lt_of_lt_of_le ho2.lt hC
  clear hb2 hr2 hi2 ho2 hk2 hb3' hC
  have hw3 := write_x C [] (lst 64 (inP ks)) (some ⟨P1, 0, none⟩) 64 W3 hx3 hk3 (by omega) (slread_row hi3) (fun _ b' o' e => by simp at e; omega) (by simp) (by simp)
  rw [lst_length, List.nil_append] at hw3
  go_wp2_with fail
  refine hw3.mono ?_
  rintro e W4 ⟨rfl, hx4, hon⟩
  have hb4 := hb3.trans (hon.below (by omega) hb3.size)
  have hr4 := hon.row hr3 (by omega)
  have ho4 := hon.row ho3 (by omega)
  clear hb3 hr3 hi3 ho3 hk3 hon hw3 hx3
  go_wp2_with fail
  go_loopw [22] (fun i wr => ∃ k : Nat, k ≤ sl.length ∧ i = .int .i64 k ∧ Below w.heap.size w wr ∧ wr.rowIs w.heap.size 31 32 (fun _ => v8 0#8) ∧ wr.rowIs (P1 + 1) 47 64 (fun i => v8 (outP ks i)) ∧ HashX wr C (lst 64 (inP ks) ++ flat (sl.take k))) (fun i _ => sl.length - (intOf i).toNat)
  case atStart => exact ⟨0, by omega, rfl, hb4, hr4, ho4, by simpa [flat] using hx4⟩
  clear hb4 hr4 ho4 hx4
  case round =>
    obtain ⟨k, hk1, rfl, hb, hr, ho, hx⟩ := hrel
    have hkW := hk.below hb
    by_cases hlt : k < sl.length
    · obtain ⟨b, o, rfl, hblt, hcell⟩ := hB (by simp; omega)
      have hkk : sl[k]? = some sl[k] := by simp [hlt]
      have hok := hs sl[k] (List.getElem_mem hlt)
      have hc : wr.cell? ⟨b, o + k, none⟩ = some (slv sl[k]) := by
        rw [World.cell?_of_block (hb.block b hblt)]
        exact hcell k _ (by simp [hlt])
      have hfl : lst 64 (inP ks) ++ flat (sl.take (k + 1)) = lst 64 (inP ks) ++ flat (sl.take k) ++ (sl[k]).2.1 := by
        rw [flat_snoc sl k _ hkk, List.append_assoc]
      generalize sl[k] = a at *
      have hokW := hok.below hb
      go_wp2_with fail
      refine (write_x C _ a.2.1 a.1 a.2.2 wr hx hkW (by omega) hokW.r (fun hp => hok.r.offB (by simpa using hp) (by omega)) hok.c hok.l).mono ?_
      rintro e W5 ⟨rfl, hx5, hon⟩
      have hb5 := hb.trans (hon.below (by omega) hb.size)
      have hr5 := hon.row hr (by omega)
      have ho5 := hon.row ho (by omega)
      rw [← hfl] at hx5
      clear hx hb hr ho hon hfl hc
      go_wp2_with fail
      go_roundw
      case rel => exact ⟨k + 1, by omega, by go_num, hb5, hr5, ho5, hx5⟩
      case measure => simp [intOf]; omega
    · have hkl : k = sl.length := by omega
      have hdk : decide ((k : Int) < (sl.length : Int)) = false := by simp; omega
      rw [hkl, List.take_length] at hx
      have HK := Lib.hid hkl; clear hkl
      go_wp2_with fail
      refine (sum_x C _ wr hx hkW).mono ?_
      rintro e W5 ⟨rfl, hb5'⟩
      have hb5 := hb.trans (hb5'.mono hb.size)
      have hr5 := hr.of_block (hb5'.block _ hr.lt)
      have ho5 := ho.of_block (hb5'.block _ ho.lt)
      have hk5 := hkW.below hb5'
      clear hb hr ho hkW hx hb5'
      generalize hin : shaOf (lst 64 (inP ks) ++ flat sl) = inn at *
      have HIN := Lib.hid hin; clear hin
      go_upto_region 10 with (refine wpList_store_row rfl 31 _ _ rfl _ _ rfl rfl _ _ (heap_alloc_new _ _) (by kernel_rfl) (by simp) (arr8_one _ _) ?_; rw [alloc_setRow])
      generalize hD : W5.heap.size = D at *
      have hal := (Below.refl W5.heap.size W5).alloc (Nat.le_refl _) (.cells (arr8 32 inn) 31)
      have hd6 : (W5.alloc (.cells (arr8 32 inn) 31)).rowIs D 31 32 (fun i => v8 (inn i)) := rowIs_new _ _ _ _ _ _ hD.symm (by simp) (fun i hi => arr8_get 32 _ i hi)
      generalize W5.alloc (.cells (arr8 32 inn) 31) = W6 at *
      have hb6 := hb5.trans (hal.mono hb5.size)
      have hr6 := hr5.of_block (hal.block _ hr5.lt)
      have ho6 := ho5.of_block (hal.block _ ho5.lt)
      have hk6 := hk5.below hal
      have hRD : w.heap.size < D := by rw [← hD]; exact hr5.lt
      clear hb5 hr5 ho5 hk5 hal hD
      have hsl3 := fun w' => sliceAt_arr (P := Tryd.prog) 32 Tryd.underlying31 (show (Tryd.prog.info? 5).map (·.size) = some 1 by kernel_rfl) D (by omega) w'
      have iH : (Tryd.prog.info? 31).map (·.size) = some 32 := by kernel_rfl
      have alc : ∀ (W : World) (o : Obj), Below W.heap.size W (W.alloc o) := fun W o => (Below.refl _ _).alloc (Nat.le_refl _) _
      have hRP : w.heap.size < P1 + 1 := by omega
      have keep : ∀ {W W' : World}, ((∃ f : Nat → BitVec 8, W.rowIs w.heap.size 31 32 (fun i => v8 (f i))) ∧ SlRead W (some ⟨P1 + 1, 0, none⟩) (ints .u8 (bys (lst 64 (outP ks)))) ∧ SlRead W (some ⟨D, 0, none⟩) (ints .u8 (bys (lst 32 inn))) ∧ KAt W ∧ Below w.heap.size w W) → Below W.heap.size W W' → ((∃ f : Nat → BitVec 8, W'.rowIs w.heap.size 31 32 (fun i => v8 (f i))) ∧ SlRead W' (some ⟨P1 + 1, 0, none⟩) (ints .u8 (bys (lst 64 (outP ks)))) ∧ SlRead W' (some ⟨D, 0, none⟩) (ints .u8 (bys (lst 32 inn))) ∧ KAt W' ∧ Below w.heap.size w W') :=
        fun h hb => ⟨by obtain ⟨f, hf⟩ := h.1; exact ⟨f, hf.of_block (hb.block _ hf.lt)⟩, h.2.1.below hb, h.2.2.1.below hb, h.2.2.2.1.below hb, h.2.2.2.2.trans (hb.mono h.2.2.2.2.size)⟩
      refine wp_region_noPanic ?_
      refine wp_region_held_drew (S := fun W => (∃ f : Nat → BitVec 8, W.rowIs w.heap.size 31 32 (fun i => v8 (f i))) ∧ SlRead W (some ⟨P1 + 1, 0, none⟩) (ints .u8 (bys (lst 64 (outP ks)))) ∧ SlRead W (some ⟨D, 0, none⟩) (ints .u8 (bys (lst 32 inn))) ∧ KAt W ∧ Below w.heap.size w W) (by kernel_rfl) ⟨⟨_, hr6⟩, slread_row ho6, slread_row hd6, hk6, hb6.drew⟩ (fun hHeld => ?_)
      refine held_slice 0 47 (.tmp 6) none none none (some 32) (.pointer (some ⟨P1 + 1, 0, none⟩)) none none none (.slice (some ⟨P1 + 1, 0, none⟩) 64 64) (by kernel_rfl) (by kernel_rfl) hsl2 (by kernel_rfl) (by kernel_rfl) (by kernel_rfl) (fun _ _ _ _ _ h => h) hHeld ?_
      refine held_slice 1 31 (.tmp 10) none none none (some 33) (.pointer (some ⟨D, 0, none⟩)) none none none (.slice (some ⟨D, 0, none⟩) 32 32) (by kernel_rfl) (by kernel_rfl) hsl3 (by kernel_rfl) (by kernel_rfl) (by kernel_rfl) (fun _ _ _ _ _ h => h) hHeld ?_
      refine held_ready [2] (by kernel_rfl) (by simp) (rdy_bsls 2 46 33 2 #[(0, .tmp 32), (1, .tmp 33)] (some 34) #[(0, .slice (some ⟨P1 + 1, 0, none⟩) 64 64), (1, .slice (some ⟨D, 0, none⟩) 32 32)] #[.slice (some ⟨P1 + 1, 0, none⟩) 64 64, .slice (some ⟨D, 0, none⟩) 32 32] (by kernel_rfl) (by kernel_rfl) (bsl_two _ _ _ _ _ _ _) (keep hHeld (alc _ _)) ?_ AllReadyH.nil)
      intro hHeld
      have hs7 := suml_any (some ⟨W6.drew.heap.size, 0, none⟩) [(some ⟨P1 + 1, 0, none⟩, lst 64 (outP ks), 64), (some ⟨D, 0, none⟩, lst 32 inn, 32)] 2 _ (by
          simp only [List.map_cons, List.map_nil, slv, lst_length]
          exact SlRead.two_new (W := W6.drew) (.slice (some ⟨P1 + 1, 0, none⟩) 64 64) (.slice (some ⟨D, 0, none⟩) 32 32) 33) (by
          intro a ha
          simp at ha
          rcases ha with rfl | rfl
          · exact ⟨hHeld.2.1, by simp, by simp⟩
          · exact ⟨hHeld.2.2.1, by simp, by simp⟩) (by simp) hHeld.2.2.2.1
      have hmac : shaOf (flat [(some ⟨P1 + 1, 0, none⟩, lst 64 (outP ks), 64), (some ⟨D, 0, none⟩, lst 32 inn, 32)]) = macOf ks (flat sl) := by
        unfold macOf
        rw [HIN.out]
        simp [flat]
      rw [hmac] at hs7
      clear hmac
      refine held_call 3 23 #[.tmp 34] #[46] (some 35) #[.slice (some ⟨W6.drew.heap.size, 0, none⟩) 2 2] _ (by kernel_rfl) (by kernel_rfl) (by kernel_rfl) (by kernel_rfl) hs7 ?_
      rintro e W8 ⟨rfl, hb8⟩
      refine ⟨_, rfl, keep hHeld hb8, fun hHeld => ?_⟩
      obtain ⟨f0, hf0⟩ := hHeld.1
      have hput := row_put (P := Tryd.prog) (macOf ks (flat sl)) hf0 iH
      have hS9 : ((∃ f : Nat → BitVec 8, (W8.setCells w.heap.size 0 ((lst 32 (macOf ks (flat sl))).map fun y => v8 y)).rowIs w.heap.size 31 32 (fun i => v8 (f i))) ∧ SlRead (W8.setCells w.heap.size 0 ((lst 32 (macOf ks (flat sl))).map fun y => v8 y)) (some ⟨P1 + 1, 0, none⟩) (ints .u8 (bys (lst 64 (outP ks)))) ∧ SlRead (W8.setCells w.heap.size 0 ((lst 32 (macOf ks (flat sl))).map fun y => v8 y)) (some ⟨D, 0, none⟩) (ints .u8 (bys (lst 32 inn))) ∧ KAt (W8.setCells w.heap.size 0 ((lst 32 (macOf ks (flat sl))).map fun y => v8 y)) ∧ Below w.heap.size w (W8.setCells w.heap.size 0 ((lst 32 (macOf ks (flat sl))).map fun y => v8 y))) :=
        ⟨⟨_, hput.2.1⟩, hHeld.2.1.only (by intro b' o' e; simp at e; omega) hput.2.2, hHeld.2.2.1.only (by intro b' o' e; simp at e; omega) hput.2.2, hput.2.2.kat hHeld.2.2.2.1 (by omega), hHeld.2.2.2.2.trans (hput.2.2.below (Nat.le_refl _) hHeld.2.2.2.2.size)⟩
      refine held_ready [4] (by kernel_rfl) (by simp) (rdy_store 4 31 (.tmp 4) (.tmp 35) none (.pointer (some ⟨w.heap.size, 0, none⟩)) (.agg (arr8 32 (macOf ks (flat sl)))) _ (by kernel_rfl) (by kernel_rfl) hput.1 hS9 ?_ AllReadyH.nil)
      intro hHeld
      have hrow9 := hput.2.1
      refine wpAnyH_done (by kernel_rfl) ?_ _
      refine NoPanic.normal ?_
      clear hS9 hput hs7 keep
      generalize World.setCells _ _ _ _ = W9 at hHeld hrow9 ⊢
      simp only [Act.put, List.setIfInBounds_toArray, List.set_cons_zero, List.set_cons_succ]
      go_wp2_with fail
      refine bodyPost_ret (results_cell_row rfl _ _ _ _ _ _ _ rfl (rowIs_heap8 hrow9) Tryd.underlying31 rfl (by rw [arr8_size]; kernel_rfl)) rfl ?_
      exact ⟨rfl, hHeld.2.2.2.2⟩
end Go.Proofs.YtccchhfcoicgcaaDoor
