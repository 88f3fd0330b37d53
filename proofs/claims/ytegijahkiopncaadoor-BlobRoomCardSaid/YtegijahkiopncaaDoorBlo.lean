import Derived.Test.YtegijahkiopncaaDoorBln
/-
  blob: Tick, All.
-/
namespace Go.Proofs.YtegijahkiopncaaDoor
open Go.RowKit
theorem exec_mkf {P : Program} {a : Act} {o : Oper} {fn : Fn} {x : Operand} {vx : Value} {w : World} (ho : o.op = .makeFunc fn #[] #[x]) (hx : a.eval x = vx) : (execOp a.eval o).run P w = .ok (.value (.func fn #[] #[vx])) w := by
  unfold execOp
  simp [ho, hx, Instr.makeFunc]
theorem load_x {W : World} {X S : Nat} (h : W.heap[X]? = some (.cells #[.pointer (some ⟨S, 0, none⟩)] 30 (0, 0))) : (Instr.loadAt 30 (.pointer (some ⟨X, 0, none⟩))).run Tryd.prog W = .ok (.pointer (some ⟨S, 0, none⟩)) W := by
  have h1 : W.cell? ⟨X, 0, none⟩ = some (.pointer (some ⟨S, 0, none⟩)) := cell_heap h rfl
  have h2 := Tryd.underlying30
  go_simp
/-- what Tick's region wants -/
def TkP (X S : Nat) (q l : Int) (V : Value) (W : World) : Prop := W.heap[X]? = some (.cells #[.pointer (some ⟨S, 0, none⟩)] 30 (0, 0)) ∧ W.heap[S]? = some (.cells (stA q l V) 59 (0, 0))
theorem TkP.turn {X S : Nat} {q l : Int} {V : Value} {W W' w : World} {es : List Be} {g : Nat} (h : TkP X S q l V W) (ht : Turn (fun x => x = g ∨ tF es x) W W') (hR : TkR es g X S q l V w) : TkP X S q l V W' := by
  obtain ⟨cur0, hg0⟩ := hR.gty
  refine ⟨(ht.block X (lt_heap h.1) ?_).trans h.1, (ht.block S (lt_heap h.2) ?_).trans h.2⟩
  · rintro (hx | ⟨j, y, hy, hx⟩)
    · exact ty_ne hR.hX hg0 (by decide) hx
    · exact ty_ne hR.hX (hR.ats j y hy) (by decide) hx
  · rintro (hx | ⟨j, y, hy, hx⟩)
    · exact ty_ne hR.hS hg0 (by decide) hx
    · exact ty_ne hR.hS (hR.ats j y hy) (by decide) hx
theorem pw_iff {R : Be → Be → Prop} (hs : ∀ a b, R a b → R b a) (es : List Be) : (∀ (i j : Nat) (a b : Be), i ≠ j → es[i]? = some a → es[j]? = some b → R a b) ↔ es.Pairwise R := by
  rw [List.pairwise_iff_getElem]
  constructor
  · intro h i j hi hj hij
    exact h i j _ _ (by omega) (List.getElem?_eq_getElem hi) (List.getElem?_eq_getElem hj)
  · intro h i j a b hij ha hb
    obtain ⟨hi, rfl⟩ := List.getElem?_eq_some_iff.1 ha
    obtain ⟨hj, rfl⟩ := List.getElem?_eq_some_iff.1 hb
    rcases Nat.lt_or_gt_of_ne hij with h1 | h1
    · exact h i j hi hj h1
    · exact hs _ _ (h j i hj hi h1)
/-- what stays, behind its tick -/
def ticked (es : List Be) (l : Int) : List Be := (es.filter (Be.stays l)).map Be.tick
theorem ticked_get {es : List Be} {l : Int} {i : Nat} {x : Be} (h : (ticked es l)[i]? = some x) : ∃ (j : Nat) (e : Be), es[j]? = some e ∧ x = e.tick := by
  have hm := List.mem_of_getElem? h
  obtain ⟨e, he, rfl⟩ := List.mem_map.1 hm
  obtain ⟨j, hj⟩ := List.getElem?_of_mem (List.mem_filter.1 he).1
  exact ⟨j, e, hj, rfl⟩
theorem kept_whole (es : List Be) (l : Int) : kept es l es.length = es.filter (Be.stays l) := by unfold kept; rw [List.take_length]
section
variable {E : Nat → Addr} {w0 w : World} {S : Nat} {q l : Int} {V : Value} {es : List Be}
set_option maxRecDepth 100000 in
set_option maxHeartbeats 1600000 in
theorem s_tick (h : Sto E w0 w S q l V es) (hl : es.length ≤ 16) (hpos : 0 < es.length) (hid : ∀ (j : Nat) (e : Be), es[j]? = some e → 0 ≤ e.idle ∧ e.idle ≤ 1000) :
    Calls Tryd.prog 21 #[.pointer (some ⟨S, 0, none⟩)] w fun r w' => r = .returned (.int .i64 ((es.length : Int) - ((ticked es l).length : Int))) ∧ ∃ V', Sto E w0 w' S q l V' (ticked es l) ∧ Turn (stF S V es) w w' ∧ V'.ownBlock = V.ownBlock := by
  obtain ⟨g, c, hV⟩ : ∃ g c, V = .slice (some ⟨g, 0, none⟩) es.length c := by
    rcases h.st.own.2 with ⟨_, h2⟩ | ⟨g, c, cur, e1, _⟩
    · omega
    · exact ⟨g, c, e1⟩
  obtain ⟨X, hXe⟩ : ∃ X, X = w.heap.size := ⟨_, rfl⟩
  have hb0 := below_alc w (.cells #[.pointer (some ⟨S, 0, none⟩)] 30)
  obtain ⟨W2, hW2⟩ : ∃ W2, W2 = w.alloc (.cells #[.pointer (some ⟨S, 0, none⟩)] 30) := ⟨_, rfl⟩
  rw [← hW2] at hb0
  have h2 := h.below hb0
  have hX2 : W2.heap[X]? = some (.cells #[.pointer (some ⟨S, 0, none⟩)] 30 (0, 0)) := by rw [hW2, hXe]; exact heap1_0 w _
  have hown2 := h2.st.own
  rw [hV] at hown2
  have hTR : ∀ W, TkP X S q l V W → W2.heap.size ≤ W.heap.size → (∀ k, k < W2.heap.size → W.heap[k]? = W2.heap[k]?) → TkR es g X S q l V W := fun W hw hsz hk => by
    obtain ⟨cur, hc⟩ := own_cells hown2 (k := g) rfl
    exact ⟨by omega, Nat.lt_of_lt_of_le (lt_heap hc) hsz, ⟨cur, (hk g (lt_heap hc)).trans hc⟩, hw.1, hw.2, h2.st.gne, hid, fun j e he => (hk e.g (lt_heap (h2.st.ent j e he))).trans (h2.st.ent j e he)⟩
  have hS : TkP X S q l V W2.drew := ⟨hX2, h2.st.st⟩
  have HR := Lib.hid (hTR W2.drew hS (Nat.le_refl _) (fun _ _ => rfl))
  have hdel := Lib.hid (delete_t HR.out c hown2)
  rw [kept_whole] at hdel
  obtain ⟨len, hlen⟩ : ∃ x, x = es.length := ⟨_, rfl⟩
  obtain ⟨k1, hk1⟩ : ∃ x, x = (es.filter (Be.stays l)).length := ⟨_, rfl⟩
  rw [← hlen] at hV
  rw [← hlen, ← hk1] at hdel
  have hkl : k1 ≤ len := by rw [hk1, hlen]; exact List.length_filter_le _ _
  have HV := Lib.hid hV
  have H2 := Lib.hid (And.intro h h2)
  have HB := Lib.hid hb0
  have HL := Lib.hid (And.intro hlen hk1)
  have hl16 : len ≤ 16 := by omega
  have hcV : W2.cell? ⟨S, 2, none⟩ = some (.slice (some ⟨g, 0, none⟩) len c) := by rw [← hV]; exact load_st2 S W2 q l V h2.st.st
  have hcX : W2.cell? ⟨X, 0, none⟩ = some (.pointer (some ⟨S, 0, none⟩)) := cell_heap hX2 rfl
  have htl : ((es.length : Int) - ((ticked es l).length : Int)) = (len : Int) - (k1 : Int) := by rw [hlen, hk1]; simp [ticked]
  rw [htl]
  clear h h2 hl hpos hid hTR hlen hk1 hX2 hown2 htl
  go_enter Tryd.func21, Tryd.ntmps21
  go_upto_region 1 with (fail)
  rw [← hW2, ← hXe]
  clear hW2 hXe
  go_upto_region 2 with (fail)
  refine wp_region_held_cut (S := TkP X S q l V) 7 (by kernel_rfl) (by kernel_rfl) (hS) (fun hHeld => ?_)
  refine held_cell 0 30 (Go.Operand.tmp 1) (some 9) (.pointer (some ⟨X, 0, none⟩)) (.pointer (some ⟨S, 0, none⟩)) (by kernel_rfl) (by kernel_rfl) (fun W hw => load_x hw.1) (by kernel_rfl) (by kernel_rfl) (by kernel_rfl) (fun _ _ _ _ _ h => h) hHeld ?_
  refine held_cell 1 30 (Go.Operand.tmp 1) (some 10) (.pointer (some ⟨X, 0, none⟩)) (.pointer (some ⟨S, 0, none⟩)) (by kernel_rfl) (by kernel_rfl) (fun W hw => load_x hw.1) (by kernel_rfl) (by kernel_rfl) (by kernel_rfl) (fun _ _ _ _ _ h => h) hHeld ?_
  refine held_nil 2 (Go.Operand.tmp 10) (some 11) ⟨S, 0, none⟩ (by kernel_rfl) (by kernel_rfl) (by kernel_rfl) (by kernel_rfl) (by kernel_rfl) (fun _ _ _ _ _ h => h) hHeld ?_
  refine held_field 3 59 (Go.Operand.tmp 11) 2 (some 12) (.pointer (some ⟨S, 0, none⟩)) (.pointer (some ⟨S, 2, none⟩)) (by kernel_rfl) (by kernel_rfl) (fun w => by kernel_rfl) (by kernel_rfl) (by kernel_rfl) (by kernel_rfl) (fun _ _ _ _ _ h => h) hHeld ?_
  refine held_cell 4 57 (Go.Operand.tmp 12) (some 13) (.pointer (some ⟨S, 2, none⟩)) (.slice (some ⟨g, 0, none⟩) len c) (by kernel_rfl) (by kernel_rfl) (fun W hw => by rw [← HV.out]; exact load_stV hw.2) (by kernel_rfl) (by kernel_rfl) (by kernel_rfl) (fun _ _ _ _ _ h => h) hHeld ?_
  refine held_any 5 (Go.Op.makeFunc (Go.Fn.func 34) #[] #[Go.Operand.tmp 1]) (some 14) (.func (.func 34) #[] #[.pointer (some ⟨X, 0, none⟩)]) (by kernel_rfl) (by kernel_rfl) (by kernel_rfl) (by kernel_rfl) (fun _ _ _ _ _ h => h) hHeld (fun o ho w hw => exec_mkf ho (by kernel_rfl)) ?_
  refine held_call 6 33 #[Go.Operand.tmp 13, Go.Operand.tmp 14] #[57, 71] (some 15) #[.slice (some ⟨g, 0, none⟩) len c, .func (.func 34) #[] #[.pointer (some ⟨X, 0, none⟩)]] _ (by kernel_rfl) (by kernel_rfl) (by kernel_rfl) (by kernel_rfl) (hdel.out) ?_
  rintro r W4 ⟨rfl, hown4, hat4, ht4⟩
  refine ⟨_, rfl, hHeld.turn ht4 HR.out, fun hHeld => ?_⟩
  refine wpAnyH_done (by kernel_rfl) ?_ _
  show wpList _ _ _ _ _ _
  simp only [Act.put, List.setIfInBounds_toArray, List.set_cons_zero, List.set_cons_succ, List.drop_succ_cons, List.drop_zero]
  have HT4 := Lib.hid (And.intro hown4 (And.intro hat4 ht4))
  have hst4 := hHeld.2
  have hfz := thaw_heap hst4 2
  have hc4 := load_st2 S W4 q l V hst4
  have hcX4 : W4.cell? ⟨X, 0, none⟩ = some (.pointer (some ⟨S, 0, none⟩)) := cell_heap hHeld.1 rfl
  have hne : X ≠ S := ty_ne hHeld.1 hHeld.2 (by decide)
  have hcX5 : ∀ u, (W4.setCell ⟨S, 2, none⟩ u).cell? ⟨X, 0, none⟩ = some (.pointer (some ⟨S, 0, none⟩)) := fun u => (W4.cell?_setCell_other ⟨S, 2, none⟩ ⟨X, 0, none⟩ _ (fun y => hne (congrArg Addr.block y).symm)).trans hcX4
  have hw5 : wrap64 ((len : Int) - (k1 : Int)) = (len : Int) - (k1 : Int) := by unfold wrap64; omega
  have HST4 := Lib.hid hst4
  clear hown4 hat4 ht4 hHeld hst4 hS hcV hcX hdel hne
  go_wp2_with fail
  go_ret
  obtain ⟨hown4, hat4, ht4⟩ := HT4.out
  obtain ⟨h, h2⟩ := H2.out
  have hst4 := HST4.out
  have hset : Turn (· = S) W4 (W4.setCell ⟨S, 2, none⟩ (.slice (some ⟨g, 0, none⟩) k1 c)) := set_turnH W4 S 2 _
  have hVo : V.ownBlock = some g := by rw [HV.out]; rfl
  have hF : ∀ x, ((x = g ∨ tF es x) ∨ x = S) → stF S V es x := by
    rintro x ((rfl | ⟨j, e, he, hx⟩) | rfl)
    · exact .inr (.inl hVo)
    · exact .inr (.inr ⟨j, e, he, .inl hx⟩)
    · exact .inl rfl
  have t24 : Turn (fun x => (x = g ∨ tF es x) ∨ x = S) W2 (W4.setCell ⟨S, 2, none⟩ (.slice (some ⟨g, 0, none⟩) k1 c)) :=
    ((Turn.of_below (F := fun x => (x = g ∨ tF es x) ∨ x = S) ((Below.refl W2.heap.size W2).drew)).trans ht4 (fun x hx => .inl (.inl hx))).trans hset (fun x hx => .inl (.inr hx))
  have hkp : ∀ (k : Nat) (cs : Array Value) (t : TypeId), W4.heap[k]? = some (.cells cs t (0, 0)) → t ≠ 59 → (W4.setCell ⟨S, 2, none⟩ (.slice (some ⟨g, 0, none⟩) k1 c)).heap[k]? = some (.cells cs t (0, 0)) := fun k cs t hk hn => (hset.block k (lt_heap hk) (ty_ne hk hst4 hn)).trans hk
  have hsts : StS (W4.setCell ⟨S, 2, none⟩ (.slice (some ⟨g, 0, none⟩) k1 c)) S q l (.slice (some ⟨g, 0, none⟩) k1 c) (ticked es l) := by
    have e1 : (ticked es l).length = k1 := by rw [HL.out.2]; simp [ticked]
    have e2 : (ticked es l).map Be.ptr = (es.filter (Be.stays l)).map Be.ptr := by
      unfold ticked
      rw [List.map_map]
      rfl
    refine ⟨st_set hst4 _, ?_, fun i x hx => ?_, fun i x hx => ?_, ?_, ?_⟩
    · rw [e1, e2]
      refine own_keep hown4 fun k hk => ?_
      obtain ⟨cur, hc⟩ := own_cells hown4 hk
      exact (hkp k _ _ hc (by decide)).trans hc.symm
    · obtain ⟨j, e, he, rfl⟩ := ticked_get hx
      exact hkp _ _ _ (hat4 j e he) (by decide)
    · obtain ⟨j, e, he, rfl⟩ := ticked_get hx
      show (W4.setCell ⟨S, 2, none⟩ (.slice (some ⟨g, 0, none⟩) k1 c)).ownsRow 0 5 1 e.D e.bs.length (ints .u8 e.bs)
      have hb := h2.st.byt j e he
      refine own_keep hb fun k hk => t24.block k (hb.lt k hk).2 (fun hx => ?_)
      obtain ⟨cur, hc⟩ := own_cells hb hk
      rcases hx with (hx | ⟨m, y, hy, hx⟩) | hx
      · obtain ⟨cur2, hc2⟩ := own_cells h2.st.own hVo
        exact ty_ne hc hc2 (by decide) hx
      · exact ty_ne hc (h2.st.ent m y hy) (by decide) hx
      · exact ty_ne hc h2.st.st (by decide) hx
    · rw [pw_iff (R := fun a b => a.g ≠ b.g) (fun a b h => Ne.symm h)]
      unfold ticked
      rw [List.pairwise_map]
      exact ((pw_iff (R := fun a b => a.g ≠ b.g) (fun a b h => Ne.symm h) es).1 h2.st.gne).sublist List.filter_sublist
    · rw [pw_iff (R := fun a b => ∀ k, a.D.ownBlock = some k → b.D.ownBlock ≠ some k) (fun a b h k hk hk2 => h k hk2 hk)]
      unfold ticked
      rw [List.pairwise_map]
      exact ((pw_iff (R := fun a b => ∀ k, a.D.ownBlock = some k → b.D.ownBlock ≠ some k) (fun a b h k hk hk2 => h k hk2 hk) es).1 h2.st.dne).sublist List.filter_sublist
  refine ⟨rfl, .slice (some ⟨g, 0, none⟩) k1 c, h2.step hsts t24 hF (fun x hx => .inl ?_), (Turn.of_below (F := stF S V es) HB.out).trans t24 (fun x hx => .inl (hF x hx)), hVo.symm⟩
  rcases hx with hx | hx | ⟨i, y, hy, hx⟩
  · exact .inl hx
  · exact .inr (.inl (hVo.trans hx))
  · obtain ⟨j, e, he, rfl⟩ := ticked_get hy
    exact .inr (.inr ⟨j, e, he, hx⟩)
/-- the ids, cell by cell -/
def idsOf (es : List Be) : List Value := es.flatMap fun e => (arr8 32 e.f).toList
theorem push_id (ty : TypeId) (W : World) (base : Nat) (v : Value) (n : Nat) (xs : List Value) (hown : W.ownsRow base 26 32 v n xs) (a : Addr) (c : Nat) (f : Nat → BitVec 8)
    (hnews : ∀ j u, (arr8 32 f).toList[j]? = some u → W.cell? (a.add j) = some u) (hn : n ≤ 1000) (hbase : base ≤ W.heap.size) :
    ∃ v' w', (Builtin.append_ #[48, 48] ty #[v, .slice (some a) 1 c]).run Tryd.prog W = .ok v' w' ∧ w'.ownsRow base 26 32 v' (n + 1) (xs ++ (arr8 32 f).toList) ∧ W.grownBy w' v.ownBlock ∧ (∀ k, v'.ownBlock = some k → v.ownBlock = some k ∨ W.heap.size ≤ k) := by
  obtain ⟨i, hi, hz⟩ := Option.map_eq_some_iff.1 (show (Tryd.prog.info? 26).map (fun i => (i.size, i.bytes, i.zero)) = some (32, 32, some (.agg (arr8 32 k0))) by kernel_rfl)
  simp only [Prod.mk.injEq] at hz
  obtain ⟨v', w', h1, h2, h3, _, h4⟩ := run_append_own2 (P := Tryd.prog) W base 48 ty 26 i (.agg (arr8 32 k0)) 32 32 Tryd.underlying48 hi hz.2.2 hz.1 hz.2.1 (by show (arr8 32 k0).size = 32; rw [arr8_size]) (by omega) v n xs hown a 1 c (arr8 32 f).toList (by rw [Array.length_toList, arr8_size]) hnews (by
    intro u hu
    have := @arr8_all 32 f
    rw [Array.all_eq_true] at this
    obtain ⟨j, hj, rfl⟩ := List.getElem_of_mem hu
    simpa using this j (by simpa using hj)) (by unfold maxLen; omega) (by omega) hbase
  exact ⟨v', w', h1, h2, h3, h4⟩
set_option maxRecDepth 100000 in
set_option maxHeartbeats 1600000 in
theorem s_all (h : Sto E w0 w S q l V es) (hl : es.length ≤ 16) :
    Calls Tryd.prog 22 #[.pointer (some ⟨S, 0, none⟩)] w fun r w' => ∃ v, r = .returned v ∧ w'.ownsRow w.heap.size 26 32 v es.length (idsOf es) ∧ Below w.heap.size w w' := by
  obtain ⟨A, c, hV, _⟩ := own_slice h.st.own
  have hst : w.cell? ⟨S, 2, none⟩ = some V := load_st2 S w q l V h.st.st
  have hrow : ∀ (i : Nat) (e : Be), es[i]? = some e → ∃ g, A = some ⟨g, 0, none⟩ ∧ w.cell? ⟨g, i, none⟩ = some (.pointer (some ⟨e.g, 0, none⟩)) ∧ g < w.heap.size := by
    intro i e he
    have hlt := (List.getElem?_eq_some_iff.1 he).1
    rcases h.st.own.2 with ⟨_, h0⟩ | ⟨g, c', cur, e1, _, hg, _⟩
    · omega
    · rw [hV] at e1
      simp only [Value.slice.injEq] at e1
      have ho := h.st.own
      rw [hV, e1.1] at ho
      exact ⟨g, e1.1, row_cell ho he, lt_heap hg⟩
  have HR := Lib.hid (And.intro hrow h.st.ent)
  obtain ⟨len, hlen⟩ : ∃ x, x = es.length := ⟨_, rfl⟩
  rw [hV, ← hlen] at hst
  have HL := Lib.hid hlen
  have hl16 : len ≤ 16 := by omega
  rw [← hlen]
  clear h hrow hlen hl hV
  go_enter Tryd.func22, Tryd.ntmps22
  go_wp2_with fail
  go_loopg [3, 11] len (fun gg s3 s11 wr => ∃ kk : Nat, kk ≤ len ∧ len - kk ≤ gg ∧ s11 = .int .i64 (kk : Int) ∧ (∃ v : Value, s3 = v ∧ Hid (wr.ownsRow w.heap.size 26 32 v kk (idsOf (es.take kk)))) ∧ Below w.heap.size w wr)
  case atStart => exact ⟨0, Nat.zero_le _, by omega, rfl, ⟨_, rfl, by rw [List.take_zero]; exact World.ownsRow_nil _ _ _ _⟩, Below.refl _ _⟩
  case round =>
    obtain ⟨kk, hkk, hgg, rfl, ⟨v, hv, hown⟩, hb⟩ := hrel
    obtain rfl := hv.symm
    clear hv
    by_cases hlt : kk < len
    · have hk1 : (kk : Int) < (len : Int) := by omega
      obtain ⟨e, he⟩ : ∃ e, es[kk]? = some e := ⟨es[kk]'(by rw [← HL.out]; exact hlt), List.getElem?_eq_getElem _⟩
      obtain ⟨g, rfl, hc1, hg⟩ := HR.out.1 kk e he
      have hc : wr.cell? ⟨g, kk, none⟩ = some (.pointer (some ⟨e.g, 0, none⟩)) := (hb.cell (p := ⟨g, kk, none⟩) hg).trans hc1
      have ha : e.at wr := heap_below (HR.out.2 kk e he) hb
      have HB := Lib.hid (And.intro hown.out hb)
      have HE := Lib.hid he
      clear hc1 hown he
      go_upto_region 5 with (fail)
      obtain ⟨hown, hb⟩ := HB.out
      obtain ⟨ids0, hids⟩ : ∃ x, x = idsOf (es.take kk) := ⟨_, rfl⟩
      rw [← hids] at hown
      refine wp_region_lit ?_
      try simp only [put_list, List.set_cons_zero, List.set_cons_succ]
      refine wpList_run (by kernel_rfl) (v) (wr) (exec_move rfl (by kernel_rfl)) ?_
      try simp only [put_list, List.set_cons_zero, List.set_cons_succ]
      refine wpList_run (by kernel_rfl) (.pointer (some ⟨e.g, 0, none⟩)) (wr) (exec_move rfl (by kernel_rfl)) ?_
      try simp only [put_list, List.set_cons_zero, List.set_cons_succ]
      refine wpList_run (by kernel_rfl) (.pointer (some ⟨e.g, 0, none⟩)) (wr) (exec_nil rfl (by kernel_rfl)) ?_
      try simp only [put_list, List.set_cons_zero, List.set_cons_succ]
      refine wpList_run (by kernel_rfl) (.pointer (some ⟨e.g, 0, none⟩)) (wr) (exec_field (vx := .pointer (some ⟨e.g, 0, none⟩)) rfl (by kernel_rfl) (by kernel_rfl)) ?_
      try simp only [put_list, List.set_cons_zero, List.set_cons_succ]
      refine wpList_run (by kernel_rfl) (.agg (arr8 32 e.f)) (wr) (exec_load (vx := .pointer (some ⟨e.g, 0, none⟩)) rfl (by kernel_rfl) (load_idB wr e.g e.f (en_id ha))) ?_
      try simp only [put_list, List.set_cons_zero, List.set_cons_succ]
      refine wpList_run (by kernel_rfl) (.slice (some ⟨wr.heap.size, 0, none⟩) 1 1) ((wr.alloc (.cells (arr8 32 e.f) 26))) (exec_bsl (vs := #[(0, .agg (arr8 32 e.f))]) rfl (by kernel_rfl) (by kernel_rfl)) ?_
      obtain ⟨v3, W3, hr3, ho3, hg3, hk3⟩ := push_id 48 (wr.alloc (.cells (arr8 32 e.f) 26)) w.heap.size v kk ids0 (hown.alloc _) ⟨wr.heap.size, 0, none⟩ 1 e.f (fun j u hu => by rw [Addr.add_lit]; exact range_new (cs := (arr8 32 e.f).toList) (by simpa using heap1_0 wr _) j u hu) (by omega) (by have := hb.size; simp; omega)
      try simp only [put_list, List.set_cons_zero, List.set_cons_succ]
      refine wpList_run (by kernel_rfl) (v3) (W3) (exec_append rfl rfl (vs := v) (vx := .slice (some ⟨wr.heap.size, 0, none⟩) 1 1) (by kernel_rfl) (hr3)) ?_
      try simp only [put_list, List.set_cons_zero, List.set_cons_succ]
      refine wpList_run (by kernel_rfl) (v3) (W3) (exec_assign rfl (by kernel_rfl)) ?_
      refine wpList_nil ?_
      simp only [put_list, List.set_cons_zero, List.set_cons_succ]
      have hfin : Below w.heap.size w W3 := (hb.trans ((below_alc wr _).mono hb.size)).grown hg3 (Nat.le_trans hb.size (below_alc wr _).size) (fun k hk => by
        have hk' : v.ownBlock = some k := hk
        exact (hown.lt k hk').1)
      have hids2 : idsOf (es.take (kk + 1)) = ids0 ++ (arr8 32 e.f).toList := by
        rw [hids, List.take_add_one, HE.out]
        simp [idsOf]
      rw [← hids2] at ho3
      have H3 := Lib.hid (And.intro ho3 hfin)
      clear ho3 hfin hg3 hk3 hr3 hown hb hids hids2 ha hc
      go_wp2_with fail
      go_roundg (len - (kk + 1))
      case measure => omega
      case rel => exact ⟨kk + 1, by omega, by omega, by go_num, ⟨_, rfl, H3.out.1⟩, H3.out.2⟩
    · have hk1 : ¬ (kk : Int) < (len : Int) := by omega
      obtain rfl : kk = len := by omega
      have ht : es.take kk = es := List.take_of_length_le (by have := HL.out; omega)
      rw [ht] at hown
      go_wp2
      go_ret
      exact ⟨_, rfl, hown.out, hb⟩
end
end Go.Proofs.YtegijahkiopncaaDoor
