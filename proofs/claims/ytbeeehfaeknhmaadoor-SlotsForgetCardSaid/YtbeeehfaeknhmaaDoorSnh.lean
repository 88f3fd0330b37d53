import Derived.Test.YtbeeehfaeknhmaaDoorSnf
/-
  SlotsForget's walk.
-/
namespace Go.Proofs.YtbeeehfaeknhmaaDoor
open Go.RowKit

theorem wrap_smallF (i : Nat) (h : i ≤ 1000) : wrap64 ((i : Int) + 1) = (i : Int) + 1 := by unfold wrap64; omega
theorem meas_ltF (k n : Nat) (h : k < n) : n - (intOf (.int .i64 ((k : Int) + 1))).toNat < n - (intOf (.int .i64 (k : Int))).toNat := by
  show n - ((k : Int) + 1).toNat < n - ((k : Int)).toNat
  omega
section
variable {P : Program} {md : Region.Mode} {ops : Array Oper} {Q : Exit → Act → World → Prop} {S : World → Prop} {fuel : Nat} {listed : Array Bool} {a : Act} {w : World}
/-- one of several that are ready: it makes a world -/
theorem rdy_run {rs : List Nat} (i : Nat) (op : Op) (ty : TypeId) (dst : Option Tmp) (v : Value) (w' : World) (hi : ops[i]?.map (fun o => (o.op, o.dst, Region.wanted o (yielded ops a.tmps))) = some (op, dst, true)) (hty : ops[i]?.map (·.type) = some ty)
    (hrun : ∀ o, o.op = op → o.type = ty → (execOp a.eval o).run P w = .ok (.value v) w') (hS : S w')
    (h : S w' → wpAnyH P md ops Q S fuel (listed.setIfInBounds i true) (a.put dst v) w') (rest : AllReadyH P md ops Q S fuel listed a w rs) : AllReadyH P md ops Q S fuel listed a w (i :: rs) := by
  obtain ⟨oi, ho, he⟩ := Option.map_eq_some_iff.1 hi
  simp only [Prod.mk.injEq] at he
  refine AllReadyH.cons ho (fun K hK => ?_) rest
  rw [if_pos he.2.2]
  have hr := hrun oi he.1 (by rw [ho] at hty; exact Option.some.inj hty)
  unfold Oper.wp
  rw [hr]
  rw [← he.2.1] at h
  exact hK _ _ hS h
end
theorem idx_If (b o n c i : Nat) (hi : i < n) (w : World) : (Instr.indexAt 38 (.slice (some ⟨b, o, none⟩) n c) (.int .i64 (i : Int))).run Tryd.prog w = .ok (.pointer (some ⟨b, o + i, none⟩)) w := by
  have e := idx_slice 38 3 1 Tryd.underlying38 (fun w => by kernel_rfl) b o n c i hi w
  rw [Nat.mul_one] at e
  exact e
theorem bsl_ab (x y : Int) (w : World) : (Instr.buildSlice 38 2 #[(0, .int .i64 x), (1, .int .i64 y)]).run Tryd.prog w = .ok (.slice (some ⟨w.heap.size, 0, none⟩) 2 2) (w.alloc (.cells #[.int .i64 x, .int .i64 y] 3)) := by kernel_rfl
/-- what region 21 makes -/
def SlVf (za zb : Int) (v : Value) (w : World) : Prop := ∃ g, v = .slice (some ⟨g, 0, none⟩) 2 2 ∧ SlRead w (some ⟨g, 0, none⟩) [.int .i64 za, .int .i64 zb]
theorem SlVf.mono {za zb : Int} : ∀ y w1 w2, SlVf za zb y w1 → Cells w1 w2 → SlVf za zb y w2 := fun _ _ _ ⟨g, e, r⟩ hc => ⟨g, e, r.cells hc⟩
def PtF (k : Nat) (z : Int) (v : Value) (w : World) : Prop := ∃ g, v = .pointer (some ⟨g, k, none⟩) ∧ w.cell? ⟨g, k, none⟩ = some (.int .i64 z)
theorem slread_newF (w : World) (vs : List Value) (t : TypeId) {cs : Array Value} (hc : cs = vs.toArray) : SlRead (w.alloc (.cells cs t)) (some ⟨w.heap.size, 0, none⟩) vs := by
  subst hc
  intro _
  exact ⟨w.heap.size, 0, rfl, by simp, fun j u hj => range_new (cs := vs) (heap1_0 w _) j u hj⟩
theorem PtF.mono {k : Nat} {z : Int} : ∀ y w1 w2, PtF k z y w1 → Cells w1 w2 → PtF k z y w2 := fun _ _ _ ⟨g, e, r⟩ hc => ⟨g, e, (hc.cell _ (cell_lt r)).trans r⟩
def FlF (D R S : Nat) (d : DM) (pv : Nat → Value) (q : Nat) (xs : List UInt8) (v : Value) (w : World) : Prop := ∃ A c, v = .slice A q c ∧ q ≤ c ∧ RowK w D R S d pv A xs
theorem FlF.mono {D R S : Nat} {d : DM} {pv : Nat → Value} {q : Nat} {xs : List UInt8} : ∀ y w1 w2, FlF D R S d pv q xs y w1 → Cells w1 w2 → FlF D R S d pv q xs y w2 :=
  fun _ _ _ ⟨A, c, e, h, r⟩ hc => ⟨A, c, e, h, r.r.cells hc, fun h0 a ha => ⟨(r.a h0 a ha).1, (r.a h0 a ha).2.1, Nat.lt_of_lt_of_le (r.a h0 a ha).2.2 hc.size⟩⟩
theorem ptF_of {za zb z : Int} {k g : Nat} {x : Value} {w : World} (hk : k < 2) (hz : z = if k = 0 then za else zb) (e : x = .slice (some ⟨g, 0, none⟩) 2 2) (r : SlRead w (some ⟨g, 0, none⟩) [.int .i64 za, .int .i64 zb]) (W : World) :
    ∃ y, (Instr.indexAt 38 x (.int .i64 (k : Int))).run Tryd.prog W = .ok y W ∧ PtF k z y w := by
  have e1 := idx_If g 0 2 2 k hk W
  rw [Nat.zero_add] at e1
  obtain ⟨b, o, hA, hl, hc⟩ := r (by simp)
  cases hA
  rw [e]
  refine ⟨_, e1, g, rfl, ?_⟩
  obtain rfl | rfl : k = 0 ∨ k = 1 := by omega
  · rw [hz]; exact hc 0 _ rfl
  · rw [hz]; exact hc 1 _ rfl
section
variable {P : Program} {ops : Array Oper} {l : List Sp} {a : Act} {w : World}
theorem owes_index_o (i : Nat) (dst : Option Tmp) (anc : List Nat) (says : Value → World → Prop) (t : TypeId) (x y : Operand) (vy : Value) (j : Nat) (hop : ∀ v, ops[i]?.map (fun o => (o.op, Region.wanted o (yielded ops (fr l anc a v).tmps))) = some (.indexAddr t x y, true))
    (hx : ∀ v, ((fr l anc a v).eval x, (fr l anc a v).eval y) = (v j, vy)) (hm : ∀ y w1 w2, says y w1 → Cells w1 w2 → says y w2)
    (he : ∀ (v : Nat → Value) (w' : World), Below w.heap.size w w' → Opens l anc v w' → ∃ r, (Instr.indexAt t (v j) vy).run P w' = .ok r w' ∧ says r w') : Owes P ops l a w (Sp.o i dst anc says) :=
  owes_pure_o i dst anc says _ hop hm fun v w' hb ho => by
    obtain ⟨r, h1, h2⟩ := he v w' hb ho
    refine ⟨r, w', fun o ho => ?_, Below.refl _ _, Cells.refl _, h2⟩
    have hx := hx v
    simp only [Prod.mk.injEq] at hx
    unfold execOp
    simp [ho, hx.1, hx.2, h1, Result.andThen]
theorem owes_load_o (i : Nat) (dst : Option Tmp) (anc : List Nat) (r : Value) (t : TypeId) (x : Operand) (j : Nat) (hop : ∀ v, ops[i]?.map (fun o => (o.op, Region.wanted o (yielded ops (fr l anc a v).tmps))) = some (.load t x, true))
    (hx : ∀ v, (fr l anc a v).eval x = v j) (he : ∀ (v : Nat → Value) (w' : World), Below w.heap.size w w' → Opens l anc v w' → (Instr.loadAt t (v j)).run P w' = .ok r w') : Owes P ops l a w (Sp.k i dst anc r) :=
  owes_pure i dst anc _ _ hop fun v w' hb ho o h => by
    unfold execOp
    simp [h, hx v, he v w' hb ho, Result.andThen]
end
/-- how long the j-th is -/
def szK (ls : List Int) (j : Nat) : Nat := (ls.getD j 0 % 800).toNat
/-- the struct behind so many saves -/
def mS (ls : List Int) : Nat → SM
  | 0 => ⟨0, 0, 0⟩
  | j + 1 => (mS ls j).next (szK ls j)
/-- what was saved last -/
def bS (ls : List Int) (z : Int) : Nat → List UInt8
  | 0 => []
  | j + 1 => fileL (wrap64 (z + (j : Int))) (szK ls j)
theorem mS_saves (ls : List Int) : ∀ j, (mS ls j).saves = j
  | 0 => rfl
  | j + 1 => by show (mS ls j).saves + 1 = _; rw [mS_saves ls j]
theorem szK_lt (ls : List Int) (j : Nat) : szK ls j < 800 := by unfold szK; omega
theorem bS_len (ls : List Int) (z : Int) (j : Nat) : (bS ls z j).length < 800 := by
  cases j with
  | zero => show ([] : List UInt8).length < 800; decide
  | succ j => show (fileL _ _).length < 800; rw [fileL_len]; exact szK_lt ls j
/-- the images so far -/
structure ImgAt (W : World) (B : Nat) (I : List UInt8) (k : Nat) : Prop where
  c : ∀ j, j < k → ∃ A c, W.cell? ⟨B, j, none⟩ = some (.slice A 1920 c) ∧ SlRead W A (bcells I) ∧ ∀ a, A = some a → a.block ≠ B
  v : ∀ j, j < 2 → ∃ v, W.cell? ⟨B, j, none⟩ = some v
  f : ∀ o, W.frozen? ⟨B, o, none⟩ = false
theorem ImgAt.lt {W : World} {B k : Nat} {I : List UInt8} (h : ImgAt W B I k) : B < W.heap.size := by
  obtain ⟨v, e⟩ := h.v 0 (by decide)
  exact cell_lt e
theorem ImgAt.below {W W' : World} {B k : Nat} {I : List UInt8} (h : ImgAt W B I k) (hb : Below W.heap.size W W') : ImgAt W' B I k :=
  ⟨fun j hj => by obtain ⟨A, c, e, r, n⟩ := h.c j hj; exact ⟨A, c, (hb.cell (p := ⟨B, j, none⟩) h.lt).trans e, r.below hb, n⟩,
   fun j hj => by obtain ⟨v, e⟩ := h.v j hj; exact ⟨v, (hb.cell (p := ⟨B, j, none⟩) h.lt).trans e⟩,
   fun o => (World.frozen?_of_block (hb.block B h.lt)).trans (h.f o)⟩
theorem idx_img (B k : Nat) (hk : k < 2) (w : World) : (Instr.indexAt 62 (.pointer (some ⟨B, 0, none⟩)) (.int .i64 (k : Int))).run Tryd.prog w = .ok (.pointer (some ⟨B, k, none⟩)) w := by
  obtain rfl | rfl : k = 0 ∨ k = 1 := by omega
  all_goals kernel_rfl
theorem image_n {w0 W : World} {D R S N : Nat} {pv : Nat → Value} {m : SM} {b : List UInt8} (h : CleanS w0 W D R S N pv m b) : Calls Tryd.prog 28 #[.pointer (some ⟨D, 0, none⟩)] W fun e W1 => ∃ A c, e = .returned (.slice A (N * 128) c) ∧ SlRead W1 A (bcells (imgL (cleanL N m b))) ∧ (∀ a, A = some a → W.heap.size ≤ a.block) ∧ Below W.heap.size W W1 := by
  refine (image_any h.s.dk).mono ?_
  rintro e W1 ⟨v, rfl, ho, hb⟩
  obtain ⟨A, c, rfl, _, _, hA⟩ := own_slice ho
  rw [clean_len, show durs (mkD (cleanL N m b) (-1)).ss = imgL (cleanL N m b) from durs_mk _] at ho
  exact ⟨A, c, by rw [clean_len], SlRead.of_own ho, fun a ha => (hA a ha).1, hb⟩
theorem set_turnF (w : World) (B o : Nat) (u : Value) : Turn (· = B) w (w.setCell ⟨B, o, none⟩ u) := Turn.of_grown (grown_setCell w _ _) (fun _ hk => (Option.some.inj hk).symm)
theorem ImgAt.set {W : World} {B k : Nat} {I : List UInt8} (h : ImgAt W B I k) (hk : k < 2) (A : Option Addr) (c : Nat) (hr : SlRead W A (bcells I)) (ha : ∀ a, A = some a → a.block ≠ B) :
    ImgAt (W.setCell ⟨B, k, none⟩ (.slice A 1920 c)) B I (k + 1) := by
  have ht := set_turnF W B k (.slice A 1920 c)
  refine ⟨fun j hj => ?_, fun j hj => ?_, fun o => by rw [frozen_setCell]; exact h.f o⟩
  · by_cases hjk : j = k
    · subst hjk
      obtain ⟨v, e⟩ := h.v j hk
      exact ⟨A, c, World.cell?_setCell_same W _ _ e, hr.turnM ht (fun _ a e => ha a e), ha⟩
    · obtain ⟨A', c', h1, h2, h3⟩ := h.c j (by omega)
      refine ⟨A', c', ?_, h2.turnM ht (fun _ a e => h3 a e), h3⟩
      rw [World.cell?_setCell_other _ _ _ _ (by intro e; have := congrArg Addr.off e; simp at this; omega)]
      exact h1
  · by_cases hjk : j = k
    · subst hjk
      obtain ⟨v, e⟩ := h.v j hj
      exact ⟨_, World.cell?_setCell_same W _ _ e⟩
    · obtain ⟨v, e⟩ := h.v j hj
      exact ⟨v, by rw [World.cell?_setCell_other _ _ _ _ (by intro e; have := congrArg Addr.off e; simp at this; omega)]; exact e⟩
set_option maxRecDepth 100000 in
set_option maxHeartbeats 1600000 in
theorem forget_walk (E : Nat → Addr) (As : Option Addr) (ls : List Int) (cs : Nat) (za zb zl zf : Int) (AK : Option Addr) (keep : List Int) (ck : Nat) (w0 : World) (hE : ErrD E w0) (hs0 : SlRead w0 As (ints .i64 ls)) (hk0 : SlRead w0 AK (ints .i64 keep)) (hkc : keep.length ≤ ck) (hkx : ∀ x ∈ keep, x ≤ 9223372036854775807) :
    Calls Tryd.prog 5 #[.slice As ls.length cs, .int .i64 za, .int .i64 zb, .int .i64 zl, .int .i64 zf, .slice AK keep.length ck] w0 fun e w' => e = .returned (.bool true) ∧ Below w0.heap.size w0 w' := by
  have hfi := first_any E w0 hE
  have HE := Lib.hid hE
  have HKP := Lib.hid (And.intro hk0 (And.intro hkc hkx))
  clear hE hk0 hkc hkx
  obtain ⟨ns, hns⟩ : ∃ n, n = ls.length := ⟨_, rfl⟩
  obtain ⟨nk, hnk⟩ : ∃ n, n = keep.length := ⟨_, rfl⟩
  rw [← hns, ← hnk]
  have HL := Lib.hid (And.intro hns hnk)
  clear hns hnk
  obtain ⟨K, hK, hK800⟩ := exists_mod zl 800 (by omega)
  obtain ⟨f, hf, hf40⟩ := exists_mod zf 40 (by omega)
  have hnu := fun w => number_nat zl 800 K w (by omega) hK
  have hnf := fun w => number_nat zf 40 f w (by omega) hf
  have HKf : Hid (K < 800 ∧ f < 40) := Lib.hid (by omega)
  clear hK hf hK800 hf40
  go_enter Tryd.func5, Tryd.ntmps5
  go_upto_region 4 with (go_at_call 9; refine hfi.mono ?_; rintro e w1 ⟨rfl, hb1⟩; have HB1 := Lib.hid hb1; clear hb1 hfi)
  by_cases h10 : 10 < ns
  · have d1 : (10 : Int) < (ns : Int) := by omega
    clear h10
    go_wp2_with fail
    go_ret
    exact ⟨rfl, HB1.out⟩
  have d1 : ¬ (10 : Int) < (ns : Int) := by omega
  by_cases h40 : 40 < nk
  · have d3 : (40 : Int) < (nk : Int) := by omega
    clear h40
    go_wp2_with fail
    go_ret
    exact ⟨rfl, HB1.out⟩
  have d3 : ¬ (40 : Int) < (nk : Int) := by omega
  have hns10 : ns ≤ 10 := by omega
  clear h10 h40
  go_upto_region 7 with (fail)
  obtain ⟨B, hB⟩ : ∃ B, B = w1.heap.size := ⟨_, rfl⟩
  rw [← hB]
  obtain ⟨IMG, hIMG⟩ : ∃ I, I = imgL (cleanL 15 (if newHead f (needS K) keep = true then (mS ls ns).next K else mS ls ns) (fileL 7 K)) := ⟨_, rfl⟩
  have HIMG := Lib.hid hIMG
  have hBl : w0.heap.size ≤ B := by rw [hB]; exact HB1.out.size
  have hba := below_alc w1 (.cells #[.slice none 0 0, .slice none 0 0] 62)
  refine wp_world (fun W => Below w0.heap.size w0 W ∧ ImgAt W B IMG 0) ⟨HB1.out.trans (hba.mono HB1.out.size), fun j hj => absurd hj (Nat.not_lt_zero _), fun j hj => ?_, fun o => by rw [hB]; exact thaw (heap1_0 w1 _) o⟩ ?_
  · obtain rfl | rfl : j = 0 ∨ j = 1 := by omega
    · exact ⟨.slice none 0 0, by rw [hB]; exact range_new (cs := [.slice none 0 0, .slice none 0 0]) (heap1_0 w1 _) 0 _ rfl⟩
    · exact ⟨.slice none 0 0, by rw [hB]; exact range_new (cs := [.slice none 0 0, .slice none 0 0]) (heap1_0 w1 _) 1 _ rfl⟩
  clear hIMG hB hba HB1 d1 d3
  rintro W1 ⟨hb1, hi1⟩
  have HBl := Lib.hid hBl
  clear hBl
  obtain ⟨zK, hzK⟩ : ∃ z : Int, z = (K : Int) := ⟨_, rfl⟩
  obtain ⟨zF, hzF⟩ : ∃ z : Int, z = (f : Int) := ⟨_, rfl⟩
  rw [← hzK] at hnu
  rw [← hzF] at hnf
  have HZ := Lib.hid (And.intro hzK hzF)
  have HI1 := Lib.hid (And.intro hb1 hi1)
  clear hzK hzF hb1 hi1
  go_upto_region 9 with (first | (go_at_call 10; refine (hnu _).mono ?_; rintro e w2 ⟨rfl, q2, rfl⟩; clear hnu) | (go_at_call 10; refine (hnf _).mono ?_; rintro e w3 ⟨rfl, q3, rfl⟩; clear hnf))
  have hbq : Below W1.heap.size W1 (W1.drewN (q2 + q3)) := Below.drewNr (q2 + q3)
  have HI2 := Lib.hid (And.intro (HI1.out.1.trans (hbq.mono HI1.out.1.size)) (HI1.out.2.below hbq))
  clear hbq HI1
  generalize W1.drewN (q2 + q3) = W2 at *
  go_wp2_with fail
  go_loopw [15] (fun x wr => ∃ k : Nat, k ≤ 2 ∧ x = .int .i64 (k : Int) ∧ Below w0.heap.size w0 wr ∧ ImgAt wr B IMG k) (fun x _ => 2 - (intOf x).toNat)
  case atStart => exact ⟨0, by omega, rfl, HI2.out⟩
  clear HI2
  case round =>
    obtain ⟨k, hk, rfl, hbr, hir⟩ := hrel
    obtain ⟨wo, rfl⟩ : ∃ wo : World, wo = wr := ⟨_, rfl⟩
    have hs1 := hs0.below hbr
    by_cases hlt : k < 2
    · have hlt' : (k : Int) < 2 := by omega
      have hEr := HE.out.below hbr
      have hnew := new_m (N := 15) (by decide) wo.heap.size wo (Nat.le_refl _)
      have HR := Lib.hid (And.intro hbr (And.intro hir (And.intro hs1 (And.intro hlt hEr))))
      clear hbr hir hs1 hlt hEr hk
      go_upto_region 15 with (go_at_call 11; refine hnew.mono ?_; rintro e Wa ⟨D, R, pv, rfl, hd, hb⟩; have HD := Lib.hid (And.intro hd hb); clear hd hb hnew)
      have hop := open_c (w0 := wo) (m := ⟨0, 0, 0⟩) (b := []) E HR.out.2.2.2.2 HD.out.2 HD.out.1 (fit_zero 15) (clean_keeps (fit_zero 15) (by decide)) (by decide)
      go_upto_region 18 with (go_at_call 13; refine hop.mono ?_; rintro e Wb ⟨S, pvb, rfl, hc, _, _⟩; have HC := Lib.hid hc; clear hc hop)
      obtain ⟨z, hz⟩ : ∃ z : Int, z = if k = 0 then za else zb := ⟨_, rfl⟩
      have HZk := Lib.hid hz
      clear hz
      go_wp2_with fail
      go_loopw [19] (fun x wj => ∃ (j : Nat) (pvj : Nat → Value), j ≤ ns ∧ x = .int .i64 (j : Int) ∧ CleanS wo wj D R S 15 pvj (mS ls j) (bS ls z j)) (fun x _ => ns - (intOf x).toNat)
      case atStart => exact ⟨0, pvb, by omega, rfl, HC.out⟩
      clear HC
      case round =>
        obtain ⟨j, pvj, hj, rfl, hC⟩ := hrel
        by_cases hjn : j < ns
        · have hjn' : (j : Int) < (ns : Int) := by omega
          obtain ⟨bs, os, xs, hOs, hcs, hgs⟩ := (HR.out.2.2.1.below hC.s.b).at_ (j := j) (by rw [← HL.out.1]; exact hjn)
          have hbsl := cell_lt hcs
          obtain ⟨q, hq, hq8⟩ := exists_mod xs 800 (by omega)
          have hsz : szK ls j = q := by unfold szK; rw [List.getD, hgs]; show (xs % 800).toNat = q; omega
          have hnq := fun w => number_nat xs 800 q w (by omega) hq
          subst hOs
          have HJ := Lib.hid (And.intro hC (And.intro hsz hj))
          clear hq hq8 hC hsz hgs hj
          go_upto_region 21 with (fail)
          refine wp_region_spec_tail 15 [Sp.k 0 (some 65) [] (.pointer (some ⟨S, 0, none⟩)),
            Sp.k 1 (some 66) [] (.int .i64 za),
            Sp.k 2 (some 67) [] (.int .i64 zb),
            Sp.o 3 (some 68) [1, 2] (SlVf za zb),
            Sp.k 4 (some 69) [] (.int .i64 (k : Int)),
            Sp.o 5 (some 70) [1, 2, 3, 4] (PtF k z),
            Sp.k 6 (some 71) [1, 2, 3, 4, 5] (.int .i64 z),
            Sp.k 7 (some 72) [] (.int .i64 (j : Int)),
            Sp.k 8 (some 73) [1, 2, 3, 4, 5, 6, 7] (.int .i64 (wrap64 (z + (j : Int)))),
            Sp.k 9 (some 74) [] (.slice (some ⟨bs, os, none⟩) ns cs),
            Sp.k 10 (some 75) [] (.int .i64 (j : Int)),
            Sp.k 11 (some 76) [9, 10] (.pointer (some ⟨bs, os + j, none⟩)),
            Sp.k 12 (some 77) [9, 10, 11] (.int .i64 xs),
            Sp.k 13 (some 78) [9, 10, 11, 12] (.int .i64 (q : Int)),
            Sp.o 14 (some 79) [1, 2, 3, 4, 5, 6, 7, 8, 9, 10, 11, 12, 13] (FlF D R S (mkD (cleanL 15 (mS ls j) (bS ls z j)) (-1)) pvj q (fileL (wrap64 (z + (j : Int))) q))] (by kernel_rfl) (by kernel_rfl)
            ⟨owes_move 0 (some 65) [] (.pointer (some ⟨S, 0, none⟩)) (Go.Operand.tmp 17) (fun v => by kernel_rfl) (fun v => by kernel_rfl),
            owes_move 1 (some 66) [] (.int .i64 za) (Go.Operand.tmp 1) (fun v => by kernel_rfl) (fun v => by kernel_rfl),
            owes_move 2 (some 67) [] (.int .i64 zb) (Go.Operand.tmp 2) (fun v => by kernel_rfl) (fun v => by kernel_rfl),
            owes_bsl 3 (some 68) [1, 2] (SlVf za zb) 38 3 2 #[(0, Go.Operand.tmp 66), (1, Go.Operand.tmp 67)] (#[(0, .int .i64 za), (1, .int .i64 zb)]) (#[.int .i64 za, .int .i64 zb]) (fun v => by kernel_rfl) (fun v => by kernel_rfl) (fun w => bsl_ab za zb w) SlVf.mono (fun w' hb => ⟨_, rfl, slread_newF _ _ _ rfl⟩),
            owes_move 4 (some 69) [] (.int .i64 (k : Int)) (Go.Operand.tmp 15) (fun v => by kernel_rfl) (fun v => by kernel_rfl),
            owes_index_o 5 (some 70) [1, 2, 3, 4] (PtF k z) 38 (Go.Operand.tmp 68) (Go.Operand.tmp 69) (.int .i64 (k : Int)) 3 (fun v => by kernel_rfl) (fun v => by kernel_rfl) PtF.mono (fun v w' hb ho => by
                obtain ⟨g3, e3, r3⟩ := ho.get 3 _ _ (SlVf za zb) rfl rfl
                exact ptF_of HR.out.2.2.2.1 HZk.out e3 r3 w'),
            owes_load_o 6 (some 71) [1, 2, 3, 4, 5] (.int .i64 z) 3 (Go.Operand.tmp 70) 5 (fun v => by kernel_rfl) (fun v => by kernel_rfl) (fun v w' hb ho => by
                obtain ⟨g5, e5, r5⟩ := ho.get 5 _ _ (PtF k z) rfl rfl
                rw [e5]
                exact load_i64 g5 k w' _ r5),
            owes_move 7 (some 72) [] (.int .i64 (j : Int)) (Go.Operand.tmp 19) (fun v => by kernel_rfl) (fun v => by kernel_rfl),
            owes_bin 8 (some 73) [1, 2, 3, 4, 5, 6, 7] (.int .i64 (wrap64 (z + (j : Int)))) Go.BinOp.add 3 (Go.Operand.tmp 71) (Go.Operand.tmp 72) 3 (.int .i64 z) (.int .i64 (j : Int)) (fun v => by kernel_rfl) (fun v => by kernel_rfl) (fun W => addw _ _ _ W _ _),
            owes_move 9 (some 74) [] (.slice (some ⟨bs, os, none⟩) ns cs) (Go.Operand.tmp 0) (fun v => by kernel_rfl) (fun v => by kernel_rfl),
            owes_move 10 (some 75) [] (.int .i64 (j : Int)) (Go.Operand.tmp 19) (fun v => by kernel_rfl) (fun v => by kernel_rfl),
            owes_index 11 (some 76) [9, 10] (.pointer (some ⟨bs, os + j, none⟩)) 38 (Go.Operand.tmp 74) (Go.Operand.tmp 75) (.slice (some ⟨bs, os, none⟩) ns cs) (.int .i64 (j : Int)) (fun v => by kernel_rfl) (fun v => by kernel_rfl) (fun w => idx_If bs os ns cs j hjn w),
            owes_load 12 (some 77) [9, 10, 11] (.int .i64 xs) 3 (Go.Operand.tmp 76) (.pointer (some ⟨bs, os + j, none⟩)) (fun v => by kernel_rfl) (fun v => by kernel_rfl) (fun w' hb => load_i64 bs (os + j) w' _ ((((Below.drewNr (w := wr) 1).trans hb).cell (p := ⟨bs, os + j, none⟩) hbsl).trans hcs)),
            owes_call 13 (some 78) [9, 10, 11, 12] (.int .i64 (q : Int)) 10 #[Go.Operand.tmp 77, Go.Operand.const (Go.Value.int Go.IntKind.i64 800)] #[3, 3] (fun v => by kernel_rfl) (fun _ _ => by kernel_rfl) (fun v w' hb ho => by
                exact ⟨#[.int .i64 xs, Go.Value.int Go.IntKind.i64 800], by kernel_rfl, (hnq w').mono (fun e w'' ⟨h1, k', h2⟩ => ⟨h1, by rw [h2]; exact Below.drewNr k'⟩)⟩),
            owes_call_o 14 (some 79) [1, 2, 3, 4, 5, 6, 7, 8, 9, 10, 11, 12, 13] (FlF D R S (mkD (cleanL 15 (mS ls j) (bS ls z j)) (-1)) pvj q (fileL (wrap64 (z + (j : Int))) q)) 23 #[Go.Operand.tmp 73, Go.Operand.tmp 78] #[3, 3] (fun v => by kernel_rfl) (fun _ _ => by kernel_rfl) FlF.mono (fun v w' hb ho => by
                exact ⟨#[.int .i64 (wrap64 (z + (j : Int))), .int .i64 (q : Int)], by kernel_rfl, (file_any (wrap64 (z + (j : Int))) q (by have := HJ.out.2.1; have := szK_lt ls j; omega) w').mono (fun e w'' ⟨A, c, h1, h2, h3⟩ => ⟨_, h1, h3, A, c, rfl, own_capU h2, RowK.own (HJ.out.1.below ((Below.drewNr (w := wr) 1).trans hb)).s h2⟩)⟩), trivial⟩ ?_
          intro v w' hb hall
          obtain ⟨AX, cX, e14, hcX, hrX⟩ := hall.open_ 14 _ _ (FlF D R S (mkD (cleanL 15 (mS ls j) (bS ls z j)) (-1)) pvj q (fileL (wrap64 (z + (j : Int))) q)) rfl
          clear hall
          simp only [putsL_k, putsL_o, putsL_nil, List.set_cons_zero, List.set_cons_succ]
          rw [e14]
          have hc' := HJ.out.1.below ((Below.drewNr (w := wr) 1).trans hb)
          have hsv := save_c E HR.out.2.2.2.2 hc' hrX cX (by rw [fileL_len]; exact hcX) (by rw [fileL_len]; have := HJ.out.2.1; have := szK_lt ls j; unfold roomN halfN; omega) (by rw [mS_saves]; have := HJ.out.2.2; omega)
          rw [fileL_len] at hsv
          clear hc' hrX hcX e14 hb hnq hbsl hcs
          have hw1 : wrap64 ((j : Int) + 1) = (j : Int) + 1 := wrap_smallF j (by have := HJ.out.2.2; omega)
          go_wp2_with (go_at_call 25; refine hsv.mono ?_; rintro e W2 ⟨rfl, pv2, hu2, hc2⟩; have HC2 := Lib.hid hc2; clear hsv hu2 hc2)
          refine ⟨?rel, ?measure⟩
          case rel => exact ⟨j + 1, pv2, hjn, by go_num, by have h := HC2.out; rw [← HJ.out.2.1] at h; exact h⟩
          case measure => exact meas_ltF j ns hjn
        · skip
          obtain rfl : j = ns := by omega
          obtain ⟨m, hm⟩ : ∃ m, m = mS ls j := ⟨_, rfl⟩
          obtain ⟨b, hb⟩ : ∃ b, b = bS ls z j := ⟨_, rfl⟩
          have hbl : b.length < 800 := by rw [hb]; exact bS_len ls z j
          have hms : m.saves = j := by rw [hm]; exact mS_saves ls j
          rw [← hm, ← hb] at hC
          rw [← hm] at HIMG
          clear hb hm
          have hfu := fuse_c hC f (by have := HKf.out; omega)
          rw [← HZ.out.2] at hfu
          have HCx := Lib.hid hC
          clear hC hj hjn HZk
          go_upto_region 24 with (go_at_call 19; refine hfu.mono ?_; rintro e W6 ⟨rfl, hT6, hS6⟩; have HT6 := Lib.hid hT6; have HS6 := Lib.hid hS6; clear hT6 hS6 hfu)
          have hfl := file_any 7 K (by have := HKf.out; omega) W6
          obtain ⟨b', hb'⟩ : ∃ b', b' = fileL 7 K := ⟨_, rfl⟩
          have HB' : Hid (b'.length = K) := Lib.hid (by rw [hb', fileL_len])
          have HFI := Lib.hid (fun w => file_any 7 K (by have := HKf.out; omega) w)
          rw [← hb', ← HZ.out.1] at hfl HFI
          rw [← hb'] at HIMG
          clear hb'
          have hfit := HCx.out.f
          have hb'r : b'.length ≤ roomN 15 := by rw [HB'.out]; have := HKf.out; unfold roomN halfN; omega
          have hsv7 : m.saves < 4294967295 := by omega
          obtain ⟨r, d', n', hsave, hdl, hleft, hr, hrn⟩ := save_crash hfit b' hb'r hsv7 (by decide) f keep
          obtain ⟨m2, b2, hf2, hk2, em2, eb2⟩ := left_open hfit hb'r hsv7 hleft
          have hpl : PL d' 2000 := by
            have := PL_saveM (PL_mk (cleanL 15 m b) (f : Int) 0) m b'
            rw [hsave] at this
            exact this.mono (by have h1 := hfit.f.2.2; unfold needS; unfold roomN halfN at h1 hb'r; omega)
          have hsv := fun W (hbW : Below W6.heap.size W6 W) A c (hrow : RowK W D R S (mkD (cleanL 15 m b) (f : Int)) pvj A b') (hc : b'.length ≤ c) => save_s E HR.out.2.2.2.2 (by have h := HS6.out.below hbW; rw [HZ.out.2] at h; exact h) (PL_mk _ _ _) (by rw [clean_len]; exact hfit.f) hrow c hc
          rw [hsave, HB'.out] at hsv
          have hnew2 : r = none → b2 = b' := fun e => by
            have h1 := hrn e
            rw [eb2]
            have : newHead f (needS b'.length) keep = true := (if_neg (by omega)).trans (if_neg (by omega))
            rw [if_pos this]
          rw [HB'.out] at em2 eb2
          have hor : b2 = b ∨ b2 = b' := by
            rw [eb2]
            split
            · exact .inr rfl
            · exact .inl rfl
          have HM2 : Hid (Fit 15 m2 b2 ∧ Keeps 15 (crashL d'.ss keep) m2 b2 ∧ b2.length < 800) := Lib.hid ⟨hf2, hk2, by rcases hor with e | e <;> rw [e]; exact hbl; rw [HB'.out]; exact HKf.out.1⟩
          have HIM : Hid (b2 = b' → imgL (cleanL 15 m2 b2) = IMG) := Lib.hid (fun e => by rw [HIMG.out, e, em2])
          have HPL := Lib.hid hpl
          have Hnew := Lib.hid (And.intro hnew2 hr)
          clear hfit hsv7 hb'r hsave hdl hleft hrn hf2 hk2 em2 eb2 hpl hnew2 hor hr hbl hms
          go_upto_region 25 with (first | (go_at_call 23; refine hfl.mono ?_; rintro e W7 ⟨AB, cB, rfl, ho7, hb7⟩; have hsv2 := hsv W7 hb7 AB cB (by have h := RowK.own HS6.out ho7; rw [HZ.out.2] at h; exact h) (own_capU ho7); clear ho7 hb7 hfl hsv) | (go_at_call 25; refine hsv2.mono ?_; rintro e W8 ⟨rfl, pv8, hu8, hs8⟩; have HD8 := Lib.hid (And.intro hs8.dk (And.intro hs8.b HPL.out)); clear hu8 hs8 hsv2))
          have hcr := crash_c HD8.out.1 HD8.out.2.1 HD8.out.2.2 keep AK ck (HKP.out.1.below HR.out.1) HKP.out.2.1 HKP.out.2.2
          rw [← HL.out.2] at hcr
          go_upto_region 26 with (go_at_call 21; refine hcr.mono ?_; rintro e W9 ⟨rfl, pv9, hT9⟩; have HT9 := Lib.hid hT9; clear hT9 hcr)
          have hb9 := HT9.out.base HD8.out.1 HD8.out.2.1
          have hop2 := open_c E HR.out.2.2.2.2 hb9 HT9.out.dk HM2.out.1 HM2.out.2.1 (by decide)
          clear hb9
          go_upto_region 29 with (go_at_call 13; refine hop2.mono ?_; rintro e Wc ⟨S2, pvc, rfl, hcc, _, _⟩; have HCc := Lib.hid hcc; clear hcc hop2)
          have hld := load_c2 HCc.out
          obtain ⟨n2, hn2⟩ : ∃ n2, n2 = b2.length := ⟨_, rfl⟩
          rw [← hn2] at hld
          have HN2 := Lib.hid hn2
          clear hn2
          go_upto_region 32 with (go_at_call 16; refine hld.mono ?_; rintro e Wd ⟨AL, cL, rfl, hrl, hbd⟩; have HCd := Lib.hid (HCc.out.below hbd); have HRd := Lib.hid hrl; clear hbd hrl hld)
          have hf3 := HFI.out Wd
          have hs1 := fun W (hbW : Below Wd.heap.size Wd W) A c (ho : W.ownsRow Wd.heap.size 5 1 (.slice A K c) K (bcells b')) => same_rows A b' cL c n2 K W (HRd.out.below hbW).r (SlRead.of_own ho) HN2.out HB'.out.symm (by have := HM2.out.2.2; omega) (by rw [HB'.out]; have := HKf.out; omega)
          have hwy : Hid (b2 ≠ b' → r = some 0) := Lib.hid (fun e => Hnew.out.2.resolve_left fun e2 => e (Hnew.out.1 e2))
          by_cases hq : b2 = b'
          · have HIM2 := Lib.hid (HIM.out hq)
            rw [decide_eq_true hq] at hs1
            clear hq hwy HIM
            go_upto_region 34 with (first | (go_at_call 23; refine hf3.mono ?_; rintro e We ⟨AF, cF, rfl, hoe, hbe⟩; have hs2 := hs1 We hbe AF cF hoe; have HBe := Lib.hid hbe; clear hoe hbe hf3 hs1) | (go_at_call 18; refine hs2.mono ?_; rintro e Wf ⟨rfl, hbf⟩; have HCe := Lib.hid (HCd.out.below (HBe.out.trans (hbf.mono HBe.out.size))); clear hbf hs2))
            have him := image_n HCe.out
            refine wp_region_lit ?_
            refine wpList_run (by kernel_rfl) (.int .i64 (k : Int)) (Wf) (exec_move rfl (by kernel_rfl)) ?_
            refine wpList_run (by kernel_rfl) (.pointer (some ⟨D, 0, none⟩)) (Wf) (exec_move rfl (by kernel_rfl)) ?_
            refine wpList_call (by kernel_rfl) 28 #[Go.Operand.tmp 121] #[25] #[.pointer (some ⟨D, 0, none⟩)] _ rfl (by kernel_rfl) (by kernel_rfl) (him) ?_
            rintro e Wg ⟨AI, cI, rfl, hri, hai, hbg⟩
            refine ⟨_, rfl, ?_⟩
            refine wpList_run (by kernel_rfl) (.pointer (some ⟨B, k, none⟩)) (Wg) (exec_index (vx := .pointer (some ⟨B, 0, none⟩)) (vy := .int .i64 (k : Int)) rfl (by kernel_rfl) (idx_img B k HR.out.2.2.2.1 Wg)) ?_
            have hbB := (HR.out.2.1.lt : B < wo.heap.size)
            have hcg := HCe.out.below hbg
            have hig := HR.out.2.1.below hcg.s.b
            obtain ⟨vB, hcB⟩ := hig.v k HR.out.2.2.2.1
            have hfB := hig.f k
            have hset := hig.set HR.out.2.2.2.1 AI cI (by rw [HIM2.out] at hri; exact hri) (fun a ha e => by have h1 := hai a ha; have h2 := HCe.out.s.b.size; omega)
            have hbs := (set_turnF Wg B k (.slice AI 1920 cI)).below (HR.out.1.trans (hcg.s.b.mono HR.out.1.size)) (Nat.le_trans HR.out.1.size hcg.s.b.size) (fun q e => by rw [e]; exact HBl.out)
            refine wpList_skip rfl (Wg.setCell ⟨B, k, none⟩ (.slice AI (15 * 128) cI)) (exec_store (vx := .pointer (some ⟨B, k, none⟩)) (vy := .slice AI (15 * 128) cI) rfl (by kernel_rfl) (store_slice B k Wg hcB hfB 41 (fun w => by kernel_rfl) AI _ cI)) ?_
            refine wpList_nil ?_
            simp only [put_list, put_none, List.set_cons_zero, List.set_cons_succ]
            have hw1 : wrap64 ((k : Int) + 1) = (k : Int) + 1 := wrap_smallF k (by have := HR.out.2.2.2.1; omega)
            have HN := Lib.hid (And.intro hbs hset)
            clear hbs hset hcB hfB hig hcg hbB hai hri hbg him
            generalize Wg.setCell ⟨B, k, none⟩ (.slice AI (15 * 128) cI) = Wn at *
            go_wp2_with fail
            refine ⟨?rel, ?measure⟩
            case rel => exact ⟨k + 1, HR.out.2.2.2.1, by go_num, HN.out.1, HN.out.2⟩
            case measure => exact meas_ltF k 2 HR.out.2.2.2.1
          · rw [decide_eq_false hq] at hs1
            have hr0 := hwy.out hq
            subst hr0
            clear hwy hq HIM
            rw [show eo E (some 0) = errV (E 0) from rfl]
            go_wp2_with (first | (go_at_call 23; refine hf3.mono ?_; rintro e We ⟨AF, cF, rfl, hoe, hbe⟩; have hs2 := hs1 We hbe AF cF hoe; have HBe := Lib.hid hbe; clear hoe hbe hf3 hs1) | (go_at_call 18; refine hs2.mono ?_; rintro e Wf ⟨rfl, hbf⟩; have HCe := Lib.hid (HCd.out.below (HBe.out.trans (hbf.mono HBe.out.size))); clear hbf hs2))
            go_ret
            exact ⟨rfl, HR.out.1.trans (HCe.out.s.b.mono HR.out.1.size)⟩
    · skip
      obtain rfl : k = 2 := by omega
      obtain ⟨A0, c0, e0, r0, _⟩ := hir.c 0 (by decide)
      obtain ⟨A1, c1, e1, r1, _⟩ := hir.c 1 (by decide)
      have hil : (1920 : Nat) = IMG.length := by rw [HIMG.out, img_len, cleanL_len]
      have hsm := same_row A1 c0 c1 1920 wo r0 r1 hil (by rw [← hil]; decide)
      clear hil hir r0 r1 hlt
      go_wp2_with (go_at_call 18; refine hsm.mono ?_; rintro e Wz ⟨rfl, hbz⟩; have HZZ := Lib.hid (hbr.trans (hbz.mono hbr.size)); clear hbz hsm)
      go_ret
      exact ⟨rfl, HZZ.out⟩
end Go.Proofs.YtbeeehfaeknhmaaDoor
