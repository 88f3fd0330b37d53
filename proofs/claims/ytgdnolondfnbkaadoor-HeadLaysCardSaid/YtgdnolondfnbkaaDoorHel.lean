import Derived.Test.YtgdnolondfnbkaaDoorHeg
/-
  HeadBack.
-/
namespace Go.Proofs.YtgdnolondfnbkaaDoor
open Go.RowKit

theorem byteI_cutH (xs : List Int) (p n j : Nat) (hj : j < n) : byteI ((xs.drop p).take n) j = byteI xs (p + j) := by
  unfold byteI
  simp [List.getD, hj]
theorem word_cutH (ys : List Int) (p : Nat) (m : Int) (hm : 0 ≤ m ∧ m < 4294967296) (h : (ys.drop p).take 4 = le4 m) : wordI ys p = m := by
  have h1 : wordI ((ys.drop p).take 4) 0 = wordI ys p := by
    unfold wordI
    rw [byteI_cutH _ _ _ _ (by omega), byteI_cutH _ _ _ _ (by omega), byteI_cutH _ _ _ _ (by omega), byteI_cutH _ _ _ _ (by omega)]
    rfl
  rw [← h1, h]
  show m % 256 + m / 256 % 256 * 256 + m / 65536 % 256 * 65536 + m / 16777216 % 256 * 16777216 = m
  omega
/-- what is read of a header's bytes is the header -/
theorem hdR_back (dh : List Int) (pn n : Int) (hl : dh.length = 32) (hp : 0 ≤ pn ∧ pn < 4294967296) (hn : 0 ≤ n ∧ n < 4294967296) : hdR (hdB dh pn n) = hdC dh pn n := by
  unfold hdR
  rw [if_pos (hdB_len _ _ _ hl)]
  have e0 : (hdB dh pn n).take 32 = dh := by unfold hdB; rw [List.append_assoc, List.take_append_of_le_length (by omega), List.take_of_length_le (by omega)]
  have e1 : ((hdB dh pn n).drop 32).take 4 = le4 pn := by unfold hdB; rw [List.append_assoc, List.drop_append_of_le_length (by omega), List.drop_of_length_le (by omega)]; rfl
  have e2 : ((hdB dh pn n).drop 36).take 4 = le4 n := by
    have h36 : (dh ++ le4 pn).length = 36 := by simp [le4, hl]
    unfold hdB
    rw [List.drop_append_of_le_length (by omega), List.drop_of_length_le (by omega)]
    rfl
  rw [e0, word_cutH _ 32 pn hp e1, word_cutH _ 36 n hn e2]
theorem hdB_byts (dh : List Int) (pn n : Int) (hd : Byts dh) : Byts (hdB dh pn n) := by
  intro x hx
  unfold hdB at hx
  rcases List.mem_append.1 hx with h | h
  · rcases List.mem_append.1 h with h | h
    · exact hd x h
    · simp only [le4, List.mem_cons, List.not_mem_nil, or_false] at h
      omega
  · simp only [le4, List.mem_cons, List.not_mem_nil, or_false] at h
    omega
theorem load_rowH (b : Nat) (W : World) (hs : List Value) (h : W.rangeAt b 0 hs) (hl : hs.length = 34) : (Instr.loadAt 26 (.pointer (some ⟨b, 0, none⟩))).run Tryd.prog W = .ok (.agg hs.toArray) W := by
  simp only [Instr.loadAt, Instr.sureAddr, Sem.run_bind, Sem.run_pure, Result.andThen_ok, run_loadVar_mid W b 0 26 hs _ h Tryd.underlying26 rfl (by rw [hl]; kernel_rfl)]
theorem slread_one (w : World) (x : Int) : SlRead (w.alloc (.cells #[.int .u8 x] 5)) (some ⟨w.heap.size, 0, none⟩) (ints .u8 [x]) := fun _ => ⟨w.heap.size, 0, rfl, by simp, fun j u hj => by
  rcases j with _ | j
  · simp [ints] at hj; subst hj; simp [go_sem]
  · simp [ints] at hj⟩
set_option maxRecDepth 100000 in
set_option maxHeartbeats 6400000 in
theorem back_walk (E : Nat → Addr) (dh : List Int) (pn n : Int) (A : Option Addr) (ys : List Int) (ca : Nat) (w : World) (hdl : dh.length = 32) (hdb : Byts dh) (hp : 0 ≤ pn ∧ pn < 4294967296) (hn : 0 ≤ n ∧ n < 4294967296) (hA0 : SlRead w A (ints .u8 ys)) (hy : Byts ys) (hE : ErrsAt E w) :
    Calls Tryd.prog 4 #[hdV dh pn n, .slice A ys.length ca] w fun e w' => e = .returned (.bool true) ∧ Below w.heap.size w w' := by
  have hinf : (Tryd.prog.info? 26 ).map (·.size) = some 34 := by kernel_rfl
  go_enter Tryd.func4, Tryd.ntmps4
  go_upto_region 1 with (fail)
  obtain ⟨P0, hP0⟩ : ∃ P, P = w.heap.size := ⟨_, rfl⟩
  refine wp_world (fun V => Below w.heap.size w V ∧ V.rangeAt P0 0 (hdC dh pn n) ∧ V.heap.size = P0 + 1) ⟨below_alc w _, by rw [hP0]; exact range_new (heap1_0 w _), by rw [hP0]; simp⟩ ?_
  rintro V0 ⟨hb0, rP0, hs0⟩
  rw [← hP0]
  have hnP : w.heap.size ≤ P0 := by omega
  clear hP0
  go_wp2_with fail
  refine (hfirst_any E V0 (hE.below hb0)).mono ?_
  rintro e V1 ⟨rfl, hb1⟩
  have hs1 := hb1.size
  have rP1 := (Turn.of_below (F := fun _ => False) hb1).range rP0 (by omega) id
  have hbw1 := hb0.trans (hb1.mono hb0.size)
  have lP1 : P0 < V1.heap.size := by omega
  clear hb0 hb1 rP0 hs0 hs1
  by_cases hlen : 60 < ys.length
  · have hd : ((60 : Int) < (ys.length : Int)) = True := by simp; omega
    have HF := Lib.hid hbw1
    go_wp2_with fail
    go_ret
    exact ⟨rfl, HF.out⟩
  have hd : ¬ ((60 : Int) < (ys.length : Int)) := by omega
  have h40 := hdB_len dh pn n hdl
  have hbb := hdB_byts dh pn n hdb
  have hbk := hdR_back dh pn n hdl hp hn
  have hwf : ∀ x ∈ dh, (Lit.int .u8 x).wf = true := byts_wf hdb
  have hEq : ∀ w, (Op.equalIn 10000 26 (.agg (hdC dh pn n).toArray) (.agg (hdC dh pn n).toArray)).run Tryd.prog w = .ok true w := hdr_eq dh pn n hdl hwf (by simp [Lit.wf, IntKind.min, IntKind.max, IntKind.signed, IntKind.bits]; omega) (by simp [Lit.wf, IntKind.min, IntKind.max, IntKind.signed, IntKind.bits]; omega)
  have HBy : ∀ Y, Calls Tryd.prog 12 #[hdV dh pn n] Y _ := fun Y => hbytes_any dh pn n Y hdl
  have hlh := hdC_len dh pn n hdl
  have hoh := hdC_one dh pn n
  have hr1 : ∀ zs : List Int, hdR (hdB dh pn n ++ zs) = if zs = [] then hdC dh pn n else hdC zdh 0 0 := fun zs => by
    by_cases hz : zs = []
    · subst hz; rw [if_pos rfl, List.append_nil, hbk]
    · rw [if_neg hz]
      unfold hdR
      have hz2 : zs.length ≠ 0 := fun e => hz (List.length_eq_zero_iff.1 e)
      rw [if_neg (by simp; omega)]
  obtain ⟨bs, hbs⟩ : ∃ bs, bs = hdB dh pn n := ⟨_, rfl⟩
  obtain ⟨hs, hhs⟩ : ∃ hs, hs = hdC dh pn n := ⟨_, rfl⟩
  have HBy2 : ∀ Y, Calls Tryd.prog 12 #[.agg hs.toArray] Y fun e w' => ∃ v, e = .returned v ∧ w'.ownsRow Y.heap.size 5 1 v 40 (ints .u8 bs) ∧ Below Y.heap.size Y w' := by rw [hhs, hbs]; exact HBy
  rw [← hbs] at h40 hbb hbk
  rw [← hhs] at hbk hEq hlh hoh rP1
  have hr2 : hdR (bs ++ [1]) = hdC zdh 0 0 := by rw [hbs, hr1]; rfl
  have HL := Lib.hid hlh
  have HO := Lib.hid hoh
  have H40 := Lib.hid h40
  have HR1 : ∀ (B : Option Addr) (c : Nat) (Y : World), Below w.heap.size w Y → SlRead Y B (ints .u8 bs) → Calls Tryd.prog 7 #[.slice B 40 c] Y fun e w' => e = .returned (.tuple #[.agg hs.toArray, .nilIface]) ∧ Below Y.heap.size Y w' := fun B c Y hY hB => by
    have h := hread_any E B bs c Y hB hbb (by omega) (hE.below hY)
    rw [h40, hbk] at h
    exact h.mono fun e w' hh => by obtain ⟨u, rfl, ht, hb⟩ := hh; obtain rfl : u = .nilIface := ht; exact ⟨rfl, hb⟩
  have HR3 : ∀ (B : Option Addr) (c : Nat) (Y : World), Below w.heap.size w Y → SlRead Y B (ints .u8 (bs ++ ys)) → (bs ++ ys).length ≤ c → Calls Tryd.prog 9 #[.slice B (bs ++ ys).length c] Y fun e w' => ∃ A c, e = .returned (.tuple #[.agg hs.toArray, .slice A ys.length c, .nilIface]) ∧ SlRead w' A (ints .u8 ys) ∧ Below Y.heap.size Y w' := fun B c Y hY hB hc => by
    have hx : Byts (bs ++ ys) := fun x hx => (List.mem_append.1 hx).elim (hbb x) (hy x)
    have h := hcut_any E B (bs ++ ys) c Y hB hc hx (by simp; omega) (hE.below hY)
    have e1 : (bs ++ ys).take 40 = bs := by rw [List.take_append_of_le_length (by omega), List.take_of_length_le (by omega)]
    have e2 : (bs ++ ys).drop 40 = ys := by rw [List.drop_append_of_le_length (by omega), List.drop_of_length_le (by omega), List.nil_append]
    have e3 : min 40 (bs ++ ys).length = 40 := by simp; omega
    rw [e1, hbk, e3] at h
    exact h.mono fun e w' hh => by
      obtain ⟨r, u, rfl, ht, hr, hb⟩ := hh
      obtain rfl : u = .nilIface := ht
      have hf := hr.form
      rw [e2] at hf
      obtain ⟨A, c, rfl, hA⟩ := hf
      exact ⟨A, c, rfl, hA, hb⟩
  have HR5 : ∀ (B : Option Addr) (c : Nat) (Y : World), Below w.heap.size w Y → SlRead Y B (ints .u8 (bs ++ [1])) → Calls Tryd.prog 7 #[.slice B (bs ++ [1]).length c] Y fun e w' => ∃ u, e = .returned (.tuple #[.agg (hdC zdh 0 0).toArray, u]) ∧ TellR E (some (3, 40)) u w' ∧ Below Y.heap.size Y w' := fun B c Y hY hB => by
    have hx : Byts (bs ++ [1]) := fun x hx => (List.mem_append.1 hx).elim (hbb x) (fun h => by simp at h; omega)
    have h := hread_any E B (bs ++ [1]) c Y hB hx (by simp; omega) (hE.below hY)
    have e41 : (bs ++ [1]).length = 41 := by simp; omega
    have e3 : hdO (bs ++ [1]).length = some (3, 40) := by rw [e41]; rfl
    rw [hr2, e3] at h
    exact h
  have HS : ∀ (v : Value) (Y : World), Below w.heap.size w Y → TellR E (some (3, 40)) v Y → Calls Tryd.prog 14 #[v, .agg (frow 104 true 40)] Y fun e w' => e = .returned (.bool true) ∧ Below Y.heap.size Y w' := fun v Y hY h => same_tell E (some (3, 40)) v Y (hE.below hY) h
  have hAll : ∀ Y, Below w.heap.size w Y → SlRead Y A (ints .u8 ys) := fun Y hY => hA0.below hY
  have hyl : ys.length ≤ 60 := by omega
  obtain ⟨z6, hz6⟩ : ∃ z, z = bs ++ ys := ⟨_, rfl⟩
  obtain ⟨z8, hz8⟩ : ∃ z, z = bs ++ [1] := ⟨_, rfl⟩
  rw [← hz6] at HR3
  rw [← hz8] at HR5
  have HZ6 := Lib.hid hz6
  have HZ8 := Lib.hid hz8
  have hlw : bs.length ≤ 1000 := by omega
  clear HBy hr1 hbs hhs hbk hbb hr2 hlh hoh h40 hwf hlen hz6 hz8
  -- region 6
  go_wp2_with (refine wpList_load_mid rfl 26 _ rfl P0 0 rfl _ _ rP1 Tryd.underlying26 rfl (by rw [HL.out]; exact hinf) ?_)
  refine (HBy2 V1).mono ?_
  rintro e V2 ⟨v2, rfl, hown2, hb2⟩
  obtain ⟨Aw, cw, rfl, _⟩ := ownsRow_form hown2
  have hr2 := SlRead.of_own hown2
  have rP2 := (Turn.of_below (F := fun _ => False) hb2).range rP1 lP1 id
  have hbw2 := hbw1.trans (hb2.mono hbw1.size)
  have hs2 := hb2.size
  clear rP1 hown2 hb2 hbw1
  go_wp2_with fail
  refine (HR1 Aw cw V2 hbw2 hr2).mono ?_
  rintro e V3 ⟨rfl, hb3⟩
  obtain ⟨B1, hB1⟩ : ∃ B, B = V3.heap.size := ⟨_, rfl⟩
  have rP3 := (Turn.of_below (F := fun _ => False) hb3).range rP2 (by omega) id
  have hbw3 := hbw2.trans (hb3.mono hbw2.size)
  have hs3 := hb3.size
  clear rP2 hb3 hbw2 hr2
  go_upto_region 7 with (refine wpList_store_row rfl 26 _ _ rfl V3.heap.size hs.toArray rfl rfl _ _ (heap_alloc_new _ _) (by rw [List.size_toArray, HL.out]; exact hinf) (by simp [HL.out]) (all_oneCell_toArray HO.out) ?_)
  refine wp_world (fun V => Below V3.heap.size V3 V ∧ V.rangeAt B1 0 hs ∧ V.heap.size = B1 + 1) ⟨by rw [alloc_setRow]; exact below_alc V3 _, by rw [alloc_setRow, hB1]; exact range_new (heap1_0 V3 _), by rw [alloc_setRow, hB1]; simp⟩ ?_
  rintro V4 ⟨hb4, r14, hs4⟩
  rw [← hB1]
  have rP4 := (Turn.of_below (F := fun _ => False) hb4).range rP3 (by omega) id
  have hbw4 := hbw3.trans (hb4.mono hbw3.size)
  have hn1 : P0 < B1 := by omega
  clear rP3 hbw3 hb4 hB1 hs2 hs3 lP1
  -- region 7
  go_wp2_with (refine wpList_load_mid rfl 26 _ rfl P0 0 rfl _ _ rP4 Tryd.underlying26 rfl (by rw [HL.out]; exact hinf) ?_)
  refine (HBy2 V4).mono ?_
  rintro e V5 ⟨v5, rfl, hown5, hb5⟩
  have hAr5 : SlRead V5 A (ints .u8 ys) := hAll V5 (hbw4.trans (hb5.mono hbw4.size))
  have hown5' : V5.ownsRow V4.heap.size 5 1 v5 bs.length (ints .u8 bs) := by rw [H40.out]; exact hown5
  have hob5 : ∀ g, v5.ownBlock = some g → V4.heap.size ≤ g := fun g hg => by
    obtain ⟨A5, c5, rfl, _, _, hA5⟩ := own_slice hown5
    rcases A5 with _ | a
    · simp [Value.ownBlock] at hg
    · simp [Value.ownBlock] at hg
      have := (hA5 a rfl).1
      omega
  have hbw5 := hbw4.trans (hb5.mono hbw4.size)
  have rP5 := (Turn.of_below (F := fun _ => False) hb5).range rP4 (by omega) id
  have r15 := (Turn.of_below (F := fun _ => False) hb5).range r14 (by omega) id
  have hs5 := hb5.size
  have HK5 : ∀ V6, V5.grownBy V6 v5.ownBlock → Below w.heap.size w V6 ∧ V6.rangeAt P0 0 hs ∧ V6.rangeAt B1 0 hs ∧ V5.heap.size ≤ V6.heap.size := fun V6 hg => by
    have ht : Turn (fun q => V4.heap.size ≤ q) V5 V6 := put_turn hob5 (Below.refl _ V5) hg
    exact ⟨ht.below hbw5 hbw5.size (fun q hq => by have := hbw4.size; omega), ht.range rP5 (by omega) (by omega), ht.range r15 (by omega) (by omega), ht.size⟩
  have hVb : V4.heap.size ≤ V5.heap.size := hs5
  clear hown5 hb5 hbw4 rP4 r14 rP5 r15 hbw5
  go_wp2_with (at_builtin; refine push_ints rfl _ _ rfl V5 V4.heap.size v5 bs A ys ys.length ca rfl rfl rfl hown5' hAr5 hVb (by omega) ?_; intro v6 V6 hown6 hg6 hat6; rw [← HZ6.out] at hown6; have hk6 := HK5 V6 hg6; obtain ⟨A6, c6, rfl, hc6, _, _⟩ := own_slice hown6; have hr6 := SlRead.of_own hown6; clear hown6 hg6 hat6 HK5 hown5' hAr5 hob5)
  obtain ⟨hbw6, rP6, r16, hs6⟩ := hk6
  refine (HR3 A6 c6 V6 hbw6 hr6 hc6).mono ?_
  rintro e V7 ⟨A3, c3, rfl, z37, hb7⟩
  obtain ⟨B3, hB3⟩ : ∃ B, B = V7.heap.size := ⟨_, rfl⟩
  have rP7 := (Turn.of_below (F := fun _ => False) hb7).range rP6 (by omega) id
  have r17 := (Turn.of_below (F := fun _ => False) hb7).range r16 (by omega) id
  have hbw7 := hbw6.trans (hb7.mono hbw6.size)
  have hs7 := hb7.size
  clear rP6 r16 hbw6 hb7 hr6 HR3
  go_upto_region 8 with (refine wpList_store_row rfl 26 _ _ rfl V7.heap.size hs.toArray rfl rfl _ _ (heap_alloc_new _ _) (by rw [List.size_toArray, HL.out]; exact hinf) (by simp [HL.out]) (all_oneCell_toArray HO.out) ?_)
  refine wp_world (fun V => Below V7.heap.size V7 V ∧ V.rangeAt B3 0 hs ∧ V.heap.size = B3 + 1) ⟨by rw [alloc_setRow]; exact below_alc V7 _, by rw [alloc_setRow, hB3]; exact range_new (heap1_0 V7 _), by rw [alloc_setRow, hB3]; simp⟩ ?_
  rintro V8 ⟨hb8, r38, hs8⟩
  rw [← hB3]
  have rP8 := (Turn.of_below (F := fun _ => False) hb8).range rP7 (by omega) id
  have r18 := (Turn.of_below (F := fun _ => False) hb8).range r17 (by omega) id
  have z38 := z37.below hb8
  have hbw8 := hbw7.trans (hb8.mono hbw7.size)
  have hn2 : B1 < B3 := by omega
  clear rP7 r17 z37 hbw7 hb8 hB3 hs4 hs5 hs6 hs7 hVb
  -- region 8
  go_wp2_with (refine wpList_load_mid rfl 26 _ rfl P0 0 rfl _ _ rP8 Tryd.underlying26 rfl (by rw [HL.out]; exact hinf) ?_)
  refine (HBy2 V8).mono ?_
  rintro e V9 ⟨v9, rfl, hown9, hb9⟩
  have hown9' : V9.ownsRow V8.heap.size 5 1 v9 bs.length (ints .u8 bs) := by rw [H40.out]; exact hown9
  have hob9 : ∀ g, v9.ownBlock = some g → V8.heap.size ≤ g := fun g hg => by
    obtain ⟨A5, c5, rfl, _, _, hA5⟩ := own_slice hown9
    rcases A5 with _ | a
    · simp [Value.ownBlock] at hg
    · simp [Value.ownBlock] at hg
      have := (hA5 a rfl).1
      omega
  have hbw9 := hbw8.trans (hb9.mono hbw8.size)
  have rP9 := (Turn.of_below (F := fun _ => False) hb9).range rP8 (by omega) id
  have r19 := (Turn.of_below (F := fun _ => False) hb9).range r18 (by omega) id
  have r39 := (Turn.of_below (F := fun _ => False) hb9).range r38 (by omega) id
  have z39 := z38.below hb9
  have hs9 := hb9.size
  have HK9 : ∀ Va, (V9.alloc (.cells #[.int .u8 1] 5)).grownBy Va v9.ownBlock → Below w.heap.size w Va ∧ Va.rangeAt P0 0 hs ∧ Va.rangeAt B1 0 hs ∧ Va.rangeAt B3 0 hs ∧ SlRead Va A3 (ints .u8 ys) ∧ V9.heap.size ≤ Va.heap.size := fun Va hg => by
    have ht : Turn (fun q => V8.heap.size ≤ q) V9 Va := put_turn hob9 (below_alc V9 _) hg
    exact ⟨ht.below hbw9 hbw9.size (fun q hq => by have := hbw8.size; omega), ht.range rP9 (by omega) (by omega), ht.range r19 (by omega) (by omega), ht.range r39 (by omega) (by omega), z39.turn ht (fun h0 a ha hh => by
      obtain ⟨b, o, e, hl, _⟩ := z38 (by simpa using h0)
      rw [ha] at e
      injection e with e
      subst e
      have h3 : V8.heap.size ≤ b := hh
      omega), ht.size⟩
  have hVb : V8.heap.size ≤ (V9.alloc (.cells #[.int .u8 1] 5)).heap.size := by simp; omega
  clear hown9 hb9 hbw8 rP8 r18 r38 z38 rP9 r19 r39 z39 hbw9
  go_wp2_with (at_builtin; refine push_ints rfl _ _ rfl (V9.alloc (.cells #[.int .u8 1] 5)) V8.heap.size v9 bs (some ⟨V9.heap.size, 0, none⟩) [1] 1 1 rfl rfl rfl (hown9'.alloc _) (slread_one V9 1) hVb (by simp; omega) ?_; intro va Va howna hga hata; rw [← HZ8.out] at howna; have hka := HK9 Va hga; obtain ⟨Aa, ca8, rfl, hca8, _, _⟩ := own_slice howna; have hra := SlRead.of_own howna; clear howna hga hata HK9 hown9' hob9 hVb)
  obtain ⟨hbwa, rPa, r1a, r3a, z3a, hsa⟩ := hka
  refine (HR5 Aa ca8 Va hbwa hra).mono ?_
  rintro e Vb ⟨u5, rfl, ht5b, hbb⟩
  obtain ⟨B5, hB5⟩ : ∃ B, B = Vb.heap.size := ⟨_, rfl⟩
  have rPb := (Turn.of_below (F := fun _ => False) hbb).range rPa (by omega) id
  have r1b := (Turn.of_below (F := fun _ => False) hbb).range r1a (by omega) id
  have r3b := (Turn.of_below (F := fun _ => False) hbb).range r3a (by omega) id
  have z3b := z3a.below hbb
  have hbwb := hbwa.trans (hbb.mono hbwa.size)
  have hsb := hbb.size
  clear rPa r1a r3a z3a hbwa hbb hra HR5
  have hzl : (hdC zdh 0 0).length = 34 := hdC_len _ _ _ zdh_len
  go_upto_region 9 with (refine wpList_store_row rfl 26 _ _ rfl Vb.heap.size (hdC zdh 0 0).toArray rfl (by kernel_rfl) _ _ (heap_alloc_new _ _) (by kernel_rfl) rfl (all_oneCell_toArray (hdC_one _ _ _)) ?_)
  refine wp_world (fun V => Below Vb.heap.size Vb V ∧ V.heap.size = B5 + 1) ⟨by rw [alloc_setRow]; exact below_alc Vb _, by rw [alloc_setRow, hB5]; simp⟩ ?_
  rintro W ⟨hbc, hsc⟩
  rw [← hB5]
  have rP := (Turn.of_below (F := fun _ => False) hbc).range rPb (by omega) id
  have r1 := (Turn.of_below (F := fun _ => False) hbc).range r1b (by omega) id
  have r3 := (Turn.of_below (F := fun _ => False) hbc).range r3b (by omega) id
  have z3 := z3b.below hbc
  have ht5 := ht5b.below hbc
  have hbw := hbwb.trans (hbc.mono hbwb.size)
  have hA := hAll W hbw
  clear rPb r1b r3b z3b ht5b hbwb hbc hB5 hsa hsb hs8 hs9 hsc
  refine wp_region_lit ?_
  refine wpList_run (by kernel_rfl) (.bool true) (W) (exec_move rfl (by kernel_rfl)) ?_
  refine wpList_run (by kernel_rfl) (.bool true) (W) (exec_move rfl (by kernel_rfl)) ?_
  refine wpList_runG (by kernel_rfl) (.nilIface) (W) (exec_move rfl (by kernel_rfl)) ?_
  refine wpList_runG (by kernel_rfl) (.bool true) (W) (exec_bin (vx := .nilIface) (vy := Go.Value.nilIface) rfl (by kernel_rfl) (by kernel_rfl)) ?_
  simp only [put_list, List.set_cons_zero, List.set_cons_succ]
  refine wpList_run (by kernel_rfl) (.bool true) (W) (exec_pick (b := true) rfl (by kernel_rfl) (by kernel_rfl)) ?_
  refine wpList_run (by kernel_rfl) (.bool true) (W) (exec_move rfl (by kernel_rfl)) ?_
  refine wpList_runG (by kernel_rfl) (.nilIface) (W) (exec_move rfl (by kernel_rfl)) ?_
  refine wpList_runG (by kernel_rfl) (.bool true) (W) (exec_bin (vx := .nilIface) (vy := Go.Value.nilIface) rfl (by kernel_rfl) (by kernel_rfl)) ?_
  refine wpList_run (by kernel_rfl) (.bool true) (W) (exec_pick (b := true) rfl (by kernel_rfl) (by kernel_rfl)) ?_
  simp only [put_list, List.set_cons_zero, List.set_cons_succ]
  refine wpList_run (by kernel_rfl) (.bool true) (W) (exec_move rfl (by kernel_rfl)) ?_
  refine wpList_runG (by kernel_rfl) (.agg hs.toArray) (W) (exec_load (vx := .pointer (some ⟨B1, 0, none⟩)) rfl (by kernel_rfl) (load_rowH B1 W hs r1 HL.out)) ?_
  refine wpList_runG (by kernel_rfl) (.agg hs.toArray) (W) (exec_load (vx := .pointer (some ⟨P0, 0, none⟩)) rfl (by kernel_rfl) (load_rowH P0 W hs rP HL.out)) ?_
  refine wpList_runG (by kernel_rfl) (.bool true) (W) (exec_eqrow (cx := hs.toArray) (cy := hs.toArray) (b := true) (.inl rfl) rfl (by kernel_rfl) (by kernel_rfl) (hEq _)) ?_
  refine wpList_run (by kernel_rfl) (.bool true) (W) (exec_pick (b := true) rfl (by kernel_rfl) (by kernel_rfl)) ?_
  simp only [put_list, List.set_cons_zero, List.set_cons_succ]
  refine wpList_run (by kernel_rfl) (.bool true) (W) (exec_move rfl (by kernel_rfl)) ?_
  refine wpList_runG (by kernel_rfl) (.agg hs.toArray) (W) (exec_load (vx := .pointer (some ⟨B3, 0, none⟩)) rfl (by kernel_rfl) (load_rowH B3 W hs r3 HL.out)) ?_
  refine wpList_runG (by kernel_rfl) (.agg hs.toArray) (W) (exec_load (vx := .pointer (some ⟨P0, 0, none⟩)) rfl (by kernel_rfl) (load_rowH P0 W hs rP HL.out)) ?_
  refine wpList_runG (by kernel_rfl) (.bool true) (W) (exec_eqrow (cx := hs.toArray) (cy := hs.toArray) (b := true) (.inl rfl) rfl (by kernel_rfl) (by kernel_rfl) (hEq _)) ?_
  refine wpList_run (by kernel_rfl) (.bool true) (W) (exec_pick (b := true) rfl (by kernel_rfl) (by kernel_rfl)) ?_
  simp only [put_list, List.set_cons_zero, List.set_cons_succ]
  refine wpList_run (by kernel_rfl) (.bool true) (W) (exec_move rfl (by kernel_rfl)) ?_
  refine wpList_runG (by kernel_rfl) (.slice A3 ys.length c3) (W) (exec_move rfl (by kernel_rfl)) ?_
  refine wpList_runG (by kernel_rfl) (.slice A ys.length ca) (W) (exec_move rfl (by kernel_rfl)) ?_
  simp only [put_list, List.set_cons_zero, List.set_cons_succ]
  refine wpList_call (by kernel_rfl) 11 #[Go.Operand.tmp 63, Go.Operand.tmp 64] #[27, 27] #[.slice A3 ys.length c3, .slice A ys.length ca] _ rfl (by kernel_rfl) (by kernel_rfl) (same_eqH _ _ ys _ _ W z3 hA (by omega)) ?_
  rintro e Y1 ⟨rfl, m1, rfl⟩
  refine ⟨_, rfl, ?_⟩
  refine wpList_run (by kernel_rfl) (.bool true) (W.drewN m1) (exec_pick (b := true) rfl (by kernel_rfl) (by kernel_rfl)) ?_
  refine wpList_run (by kernel_rfl) (.bool true) (W.drewN m1) (exec_move rfl (by kernel_rfl)) ?_
  simp only [put_list, List.set_cons_zero, List.set_cons_succ]
  refine wpList_runG (by kernel_rfl) (u5) (W.drewN m1) (exec_move rfl (by kernel_rfl)) ?_
  refine wpList_call (by kernel_rfl) 15 #[Go.Operand.const (Go.Value.int Go.IntKind.i64 104), Go.Operand.const (Go.Value.int Go.IntKind.i64 40)] #[3, 3] #[Go.Value.int Go.IntKind.i64 104, Go.Value.int Go.IntKind.i64 40] _ rfl (by kernel_rfl) (by kernel_rfl) (placed_any 104 40 (W.drewN m1) (by decide)) ?_
  rintro e Y2 ⟨rfl, hb2⟩
  refine ⟨_, rfl, ?_⟩
  simp only [put_list, List.set_cons_zero, List.set_cons_succ]
  refine wpList_call (by kernel_rfl) 14 #[Go.Operand.tmp 68, Go.Operand.tmp 69] #[30, 34] #[u5, .agg (frow 104 true 40)] _ rfl (by kernel_rfl) (by kernel_rfl) (HS u5 Y2 (hbw.trans (((Below.drewNr m1).trans hb2).mono hbw.size)) (ht5.below ((Below.drewNr m1).trans hb2))) ?_
  rintro e Y3 ⟨rfl, hb3⟩
  refine ⟨_, rfl, ?_⟩
  refine wpList_run (by kernel_rfl) (.bool true) (Y3) (exec_pick (b := true) rfl (by kernel_rfl) (by kernel_rfl)) ?_
  refine wpList_run (by kernel_rfl) (.bool true) (Y3) (exec_assign rfl (by kernel_rfl)) ?_
  refine wpList_nil ?_
  simp only [put_list, List.set_cons_zero, List.set_cons_succ]
  have HF := Lib.hid (hbw.trans (((Below.drewNr m1).trans (hb2.trans (hb3.mono hb2.size))).mono hbw.size))
  go_wp2_with fail
  go_ret
  exact ⟨rfl, HF.out⟩
end Go.Proofs.YtgdnolondfnbkaaDoor
