import Derived.Test.YtionjhlllpipjaaDoorDvb
/-
  The document's disk: Write.
-/
namespace Go.Proofs.YtionjhlllpipjaaDoor
open Go.RowKit

theorem info_T1 : (Tryd.prog.info? 32).map (fun i => (i.size, i.bytes)) = some (1, 24) := by kernel_rfl
theorem zero_T1 (i : TypeInfo) (h : Tryd.prog.info? 32 = some i) : i.zero = some (.slice none 0 0) := by
  have : (Tryd.prog.info? 32).bind (·.zero) = some (.slice none 0 0) := by kernel_rfl
  rw [h] at this
  exact this
theorem app_T (W : World) (base : Nat) (v : Value) (n : Nat) (xs : List Value) (hown : W.ownsRow base 32 1 v n xs) (a : Addr) (m c : Nat) (news : List Value) (hl : news.length = m)
    (hnews : ∀ j u, news[j]? = some u → W.cell? (a.add j) = some u) (h1 : ∀ u ∈ news, u.oneCell' = true) (hn : n + m ≤ 100000) (hbase : base ≤ W.heap.size) :
    ∃ v' w', (Builtin.append_ #[62, 62] 62 #[v, .slice (some a) m c]).run Tryd.prog W = .ok v' w' ∧ w'.ownsRow base 32 1 v' (n + m) (xs ++ news) ∧ W.grownBy w' v.ownBlock ∧ (∀ q, v'.ownBlock = some q → v.ownBlock = some q ∨ W.heap.size ≤ q) := by
  obtain ⟨i, hi, hz⟩ := Option.map_eq_some_iff.1 info_T1
  simp only [Prod.mk.injEq] at hz
  obtain ⟨v', w', h1, h2, h3, _, h4⟩ := run_append_own2 (P := Tryd.prog) W base 62 62 32 i (.slice none 0 0) 1 24 Tryd.underlying62 hi (zero_T1 i hi) hz.1 hz.2 rfl (by omega) v n xs hown a m c news (by omega) hnews h1 (by unfold maxLen; omega) (by omega) hbase
  exact ⟨v', w', h1, h2, h3, h4⟩
theorem bsl_T0 (w : World) : (Instr.buildSlice 62 0 #[]).run Tryd.prog w = .ok (.slice (some ⟨w.heap.size, 0, none⟩) 0 0) (w.alloc (.cells #[] 32)) := by kernel_rfl
theorem bsl_T1 (A : Option Addr) (n c : Nat) (w : World) : (Instr.buildSlice 62 1 #[(0, .slice A n c)]).run Tryd.prog w = .ok (.slice (some ⟨w.heap.size, 0, none⟩) 1 1) (w.alloc (.cells #[.slice A n c] 32)) := by kernel_rfl
theorem bytes_B2 (A : Option Addr) (b : List UInt8) (c : Nat) (w : World) (h : SlRead w A (bcells b)) (hb : b.length = 128) : Calls Tryd.prog 28 #[.slice A 128 c] w fun e w' => ∃ v, e = .returned v ∧ w'.ownsRow w.heap.size 5 1 v 128 (bcells b) ∧ Below w.heap.size w w' := by
  have h2 := bytes_B A b c w h (by omega)
  rwa [hb] at h2
theorem ver_own {w : World} {base n : Nat} {P : Nat → Prop} {A : Option Addr} {c : Nat} {cs : List Value} {l : List (List UInt8)} (h : w.ownsRow base 32 1 (.slice A n c) n cs) (hP : ∀ q, base ≤ q → P q) (hl : l.length ≤ n)
    (hc : ∀ (j : Nat) (b : List UInt8), l[j]? = some b → ∃ Ab cb, cs[j]? = some (Value.slice Ab 128 cb) ∧ 128 ≤ cb ∧ SlRead w Ab (bcells b) ∧ ∀ a, Ab = some a → P a.block ∧ a.block < w.heap.size) : VerR w P A l := fun j b hb => by
  obtain ⟨Ab, cb, h1, h2, h3, h4⟩ := hc j b hb
  have hj := (List.getElem?_eq_some_iff.1 hb).1
  rcases own_cells h with ⟨e, _⟩ | ⟨g, c', e, hg, hgl, hr, _⟩
  · omega
  · cases e
    exact ⟨g, 0, Ab, cb, rfl, hP g hg, hgl, hr j _ h1, h2, h3, h4⟩
section
variable {w : World} {n X T cT : Nat} {P : Nat → Prop} {vs : List (List (List UInt8))} {left : Int} {gone : Bool}
set_option maxRecDepth 100000 in
set_option maxHeartbeats 800000 in
theorem dwrite_off (h : DdS w n X T cT P vs left true) (i : Int) (v : Value) : Calls Tryd.prog 14 #[.pointer (some ⟨X, 0, none⟩), .int .i64 i, v] w fun e w' => e = .returned (.int .i64 101) ∧ w' = w := by
  have hc2 := h.c2
  clear h
  go_enter Tryd.func14, Tryd.ntmps14
  go_wp2_with fail
  go_ret
  exact ⟨rfl, rfl⟩
set_option maxRecDepth 100000 in
set_option maxHeartbeats 800000 in
theorem dwrite_out (h : DdS w n X T cT P vs left false) (i : Int) (A : Option Addr) (m c : Nat) (hi : (i < 0 ∨ (vs.length : Int) ≤ i) ∨ m ≠ 128) : Calls Tryd.prog 14 #[.pointer (some ⟨X, 0, none⟩), .int .i64 i, .slice A m c] w fun e w' => e = .returned (.int .i64 102) ∧ w' = w := by
  have hc2 := h.c2
  have hc0 := h.c0
  clear h
  by_cases h0 : i < 0
  · clear hi
    go_enter Tryd.func14, Tryd.ntmps14
    go_wp2_with fail
    go_ret
    exact ⟨rfl, rfl⟩
  by_cases h1 : (vs.length : Int) ≤ i
  · clear hi
    go_enter Tryd.func14, Tryd.ntmps14
    go_wp2_with fail
    go_ret
    exact ⟨rfl, rfl⟩
  · have h2 : ((m : Int) == 128) = false := by simp; omega
    have h3 : ¬ (m : Int) = 128 := by omega
    clear hi
    go_enter Tryd.func14, Tryd.ntmps14
    go_wp2_with fail
    go_ret
    exact ⟨rfl, rfl⟩
set_option maxRecDepth 100000 in
set_option maxHeartbeats 3200000 in
theorem dwrite_in (h : DdS w n X T cT P vs left false) (hPn : ∀ q, w.heap.size ≤ q → P q) (i : Nat) (l : List (List UInt8)) (hl : vs[i]? = some l) (hln : l.length < 2000) (Ab : Option Addr) (cb0 : Nat) (b : List UInt8) (hblen : b.length = 128) (hbr : SlRead w Ab (bcells b)) :
    Calls Tryd.prog 14 #[.pointer (some ⟨X, 0, none⟩), .int .i64 (i : Int), .slice Ab 128 cb0] w fun e w' =>
      e = .returned (.int .i64 (if left = 0 then 101 else 0)) ∧ DdS w' n X T cT P (vs.set i (l ++ [b])) (burnL left) (burnG false left) ∧ Turn (fun q => q = X ∨ q = T) w w' := by
  have hc2 := h.c2
  have c0 := h.c0
  have hi := (List.getElem?_eq_some_iff.1 hl).1
  have hXl := h.ltX
  have hTl := h.ltT
  obtain ⟨hp0, hp1, hp2⟩ := h.pos l (List.mem_of_getElem? hl)
  obtain ⟨A0, c, cT1, hlc, hver⟩ := h.sec i l hl
  obtain ⟨g, og, _, _, rfl, _, hgl, _⟩ := hver 0 l[0] (List.getElem?_eq_getElem hp0)
  have hlen := h.len.2
  -- the old versions' cells
  obtain ⟨cs, hcs, hcl, hc1⟩ : ∃ cs : List Value, (∀ j u, cs[j]? = some u → w.cell? ⟨g, og + j, none⟩ = some u) ∧ cs.length = l.length ∧ (∀ j b', l[j]? = some b' → ∃ Ab cb, cs[j]? = some (Value.slice Ab 128 cb) ∧ 128 ≤ cb ∧ SlRead w Ab (bcells b') ∧ ∀ a, Ab = some a → P a.block ∧ a.block < w.heap.size) := by
    refine ⟨(List.range l.length).map fun j => (w.cell? ⟨g, og + j, none⟩).getD undef, fun j u hj => ?_, by simp, fun j b' hb' => ?_⟩
    · have hjl : j < l.length := by have := (List.getElem?_eq_some_iff.1 hj).1; simpa using this
      obtain ⟨g', o', Ab', cb', e, _, _, h3, _⟩ := hver j l[j] (List.getElem?_eq_getElem hjl)
      cases e
      rw [List.getElem?_map, List.getElem?_range hjl, Option.map_some, h3] at hj
      rw [h3]
      exact hj
    · have hjl := (List.getElem?_eq_some_iff.1 hb').1
      obtain ⟨g', o', Ab', cb', e, _, _, h3, h4, h5, h6⟩ := hver j b' hb'
      cases e
      exact ⟨Ab', cb', by rw [List.getElem?_map, List.getElem?_range hjl, Option.map_some, h3]; rfl, h4, h5, h6⟩
  have hone : ∀ u ∈ cs, u.oneCell' = true := fun u hu => by
    obtain ⟨j, hj, e⟩ := List.getElem_of_mem hu
    obtain ⟨Ab', cb', e2, _⟩ := hc1 j l[j] (List.getElem?_eq_getElem (by omega))
    rw [List.getElem?_eq_getElem hj, e] at e2
    cases e2
    rfl
  have hbA : Below w.heap.size w (w.drew.alloc (.cells #[] 32)) := (Below.drewNr (w := w) 1).trans ((below_alc w.drew _).mono (by simp))
  have own0 : World.ownsRow (w.drew.alloc (.cells #[] 32)) w.heap.size 32 1 (.slice (some ⟨w.drew.heap.size, 0, none⟩) 0 0) 0 [] := ⟨by simp, .inr ⟨w.drew.heap.size, 0, #[], rfl, Nat.le_refl _, heap_alloc_new _ _, Nat.le_refl _, by unfold maxLen; omega, by simp, by simp⟩⟩
  obtain ⟨v2, w2, hap2, hown2, hg2, hat2⟩ := app_T (w.drew.alloc (.cells #[] 32)) w.heap.size (.slice (some ⟨w.drew.heap.size, 0, none⟩) 0 0) 0 [] own0 ⟨g, og, none⟩ l.length c cs hcl (fun j u hj => by rw [Addr.add_mid]; exact (hbA.cell (p := ⟨g, og + j, none⟩) hgl).trans (hcs j u hj)) hone (by omega) (by simp)
  rw [Nat.zero_add, List.nil_append] at hown2
  have hb2 : Below w.heap.size w w2 := (Turn.of_grown (F := fun q => q = w.heap.size) hg2 (fun k hk => by simp [Value.ownBlock] at hk; rw [← hk])).below hbA hbA.size (fun q e => by omega)
  obtain ⟨rv, hrv⟩ : ∃ rv : Int, rv = (if left = 0 then 101 else 0) := ⟨_, rfl⟩
  rw [← hrv]
  have HRV := Lib.hid hrv
  clear hrv
  have hilt : (i : Int) < (vs.length : Int) := by omega
  have d0 : ¬ (i : Int) < 0 := by omega
  have d1 : ¬ (vs.length : Int) ≤ (i : Int) := by omega
  have HD := Lib.hid h
  have HV := Lib.hid (And.intro hPn (And.intro hc1 hp2))
  clear h hver hcs hl hlc hPn hc1 hp2 own0 hone hg2 hat2
  go_enter Tryd.func14, Tryd.ntmps14
  go_upto_region 5 with (fail)
  refine wp_region_held_cut (S := fun V => Below w.heap.size w V) 18 (by kernel_rfl) (by kernel_rfl) (Below.drewNr (w := w) 1) (fun hHeld => ?_)
  refine held_move 0 (Go.Operand.tmp 0) (some 29) (.pointer (some ⟨X, 0, none⟩)) (by kernel_rfl) (by kernel_rfl) (by kernel_rfl) (by kernel_rfl) (by kernel_rfl) (fun _ _ _ _ _ h => h) hHeld ?_
  refine held_nil 1 (Go.Operand.tmp 29) (some 30) ⟨X, 0, none⟩ (by kernel_rfl) (by kernel_rfl) (by kernel_rfl) (by kernel_rfl) (by kernel_rfl) (fun _ _ _ _ _ h => h) hHeld ?_
  refine held_field 2 51 (Go.Operand.tmp 30) 0 (some 31) (.pointer (some ⟨X, 0, none⟩)) (.pointer (some ⟨X, 0, none⟩)) (by kernel_rfl) (by kernel_rfl) (fun w => by kernel_rfl) (by kernel_rfl) (by kernel_rfl) (by kernel_rfl) (fun _ _ _ _ _ h => h) hHeld ?_
  refine held_cell 3 49 (Go.Operand.tmp 31) (some 32) (.pointer (some ⟨X, 0, none⟩)) (.slice (some ⟨T, 0, none⟩) vs.length cT) (by kernel_rfl) (by kernel_rfl) (fun V hV => load_slice X 0 V 49 (fun w => by kernel_rfl) _ ((hV.cell (p := ⟨X, 0, none⟩) hXl).trans c0)) (by kernel_rfl) (by kernel_rfl) (by kernel_rfl) (fun _ _ _ _ _ h => h) hHeld ?_
  refine held_move 4 (Go.Operand.tmp 1) (some 33) (.int .i64 (i : Int)) (by kernel_rfl) (by kernel_rfl) (by kernel_rfl) (by kernel_rfl) (by kernel_rfl) (fun _ _ _ _ _ h => h) hHeld ?_
  refine held_move 6 (Go.Operand.tmp 0) (some 35) (.pointer (some ⟨X, 0, none⟩)) (by kernel_rfl) (by kernel_rfl) (by kernel_rfl) (by kernel_rfl) (by kernel_rfl) (fun _ _ _ _ _ h => h) hHeld ?_
  refine held_nil 7 (Go.Operand.tmp 35) (some 36) ⟨X, 0, none⟩ (by kernel_rfl) (by kernel_rfl) (by kernel_rfl) (by kernel_rfl) (by kernel_rfl) (fun _ _ _ _ _ h => h) hHeld ?_
  refine held_field 8 51 (Go.Operand.tmp 36) 0 (some 37) (.pointer (some ⟨X, 0, none⟩)) (.pointer (some ⟨X, 0, none⟩)) (by kernel_rfl) (by kernel_rfl) (fun w => by kernel_rfl) (by kernel_rfl) (by kernel_rfl) (by kernel_rfl) (fun _ _ _ _ _ h => h) hHeld ?_
  refine held_cell 9 49 (Go.Operand.tmp 37) (some 38) (.pointer (some ⟨X, 0, none⟩)) (.slice (some ⟨T, 0, none⟩) vs.length cT) (by kernel_rfl) (by kernel_rfl) (fun V hV => load_slice X 0 V 49 (fun w => by kernel_rfl) _ ((hV.cell (p := ⟨X, 0, none⟩) hXl).trans c0)) (by kernel_rfl) (by kernel_rfl) (by kernel_rfl) (fun _ _ _ _ _ h => h) hHeld ?_
  refine held_move 10 (Go.Operand.tmp 1) (some 39) (.int .i64 (i : Int)) (by kernel_rfl) (by kernel_rfl) (by kernel_rfl) (by kernel_rfl) (by kernel_rfl) (fun _ _ _ _ _ h => h) hHeld ?_
  refine held_index 11 49 (Go.Operand.tmp 38) (Go.Operand.tmp 39) (some 40) (.slice (some ⟨T, 0, none⟩) vs.length cT) (.int .i64 (i : Int)) (.pointer (some ⟨T, i, none⟩)) (by kernel_rfl) (by kernel_rfl) (fun w => idxT3 T vs.length cT i hi w) (by kernel_rfl) (by kernel_rfl) (by kernel_rfl) (fun _ _ _ _ _ h => h) hHeld ?_
  refine held_cell 12 62 (Go.Operand.tmp 40) (some 41) (.pointer (some ⟨T, i, none⟩)) (.slice (some ⟨g, og, none⟩) l.length c) (by kernel_rfl) (by kernel_rfl) (fun V hV => load_slice T i V 62 (fun w => by kernel_rfl) _ ((hV.cell (p := ⟨T, i, none⟩) hTl).trans cT1)) (by kernel_rfl) (by kernel_rfl) (by kernel_rfl) (fun _ _ _ _ _ h => h) hHeld ?_
  refine held_move 14 (Go.Operand.tmp 2) (some 43) (.slice Ab 128 cb0) (by kernel_rfl) (by kernel_rfl) (by kernel_rfl) (by kernel_rfl) (by kernel_rfl) (fun _ _ _ _ _ h => h) hHeld ?_
  refine held_run 5 (Go.Op.buildSlice 62 0 #[]) 62 (some 34) (.slice (some ⟨w.drew.heap.size, 0, none⟩) 0 0) ((w.drew.alloc (.cells #[] 32))) (by kernel_rfl) (by kernel_rfl) (by kernel_rfl) (fun o ho ht => exec_bsl (vs := #[]) ho (by kernel_rfl) (bsl_T0 _)) (hbA) ?_
  intro hHeld
  refine held_run 13 (Go.Op.call { callee := Go.Callee.builtin Go.Builtin.append, args := #[Go.Operand.tmp 34, Go.Operand.tmp 41], argTypes := #[62, 62] }) 62 (some 42) (v2) (w2) (by kernel_rfl) (by kernel_rfl) (by kernel_rfl) (fun o ho ht => exec_append ho ht (vs := .slice (some ⟨w.drew.heap.size, 0, none⟩) 0 0) (vx := .slice (some ⟨g, og, none⟩) l.length c) (by kernel_rfl) (hap2)) (hb2) ?_
  intro hHeld
  refine held_call 15 28 #[Go.Operand.tmp 43] #[32] (some 44) #[.slice Ab 128 cb0] _ (by kernel_rfl) (by kernel_rfl) (by kernel_rfl) (by kernel_rfl) (bytes_B2 Ab b cb0 w2 (hbr.below hb2) hblen) ?_
  rintro e Y1 ⟨v3, rfl, hown3, hbY⟩
  obtain ⟨Av, cv, rfl, hcv, _, hAv⟩ := own_slice hown3
  have hbY2 := hb2.trans (hbY.mono hb2.size)
  have hk2 := own_kept hown2 (fun k hk => hbY.block k (hown2.lt k hk).2)
  have hb2s := hb2.size
  have hbYs := hbY.size
  obtain ⟨v4, w4, hap4, hown4, hg4, hat4⟩ := app_T (Y1.alloc (.cells #[.slice Av 128 cv] 32)) w.heap.size v2 l.length cs (hk2.alloc _) ⟨Y1.heap.size, 0, none⟩ 1 1 [.slice Av 128 cv] rfl (fun q u hu => by rw [Addr.add_mid]; exact range_new (heap1_0 Y1 _) q u hu) (by intro u hu; rw [List.mem_singleton.1 hu]; rfl) (by omega) (by simp; omega)
  obtain ⟨A4, c4, rfl, hc4, _, hA4⟩ := own_slice hown4
  have hbA4 : Below w.heap.size w (Y1.alloc (.cells #[.slice Av 128 cv] 32)) := hbY2.trans ((below_alc Y1 _).mono hbY2.size)
  have hT4 : Turn (fun q => ∃ k, v2.ownBlock = some k ∧ k = q) (Y1.alloc (.cells #[.slice Av 128 cv] 32)) w4 := Turn.of_grown (F := fun q => ∃ k, v2.ownBlock = some k ∧ k = q) hg4 (fun k hk => ⟨k, hk, rfl⟩)
  have hb4 : Below w.heap.size w w4 := hT4.below hbA4 hbA4.size (fun q hq => by obtain ⟨k, hk, rfl⟩ := hq; exact (hown2.lt k hk).1)
  refine ⟨_, rfl, hbY2, fun hHeld => ?_⟩
  refine held_run 16 (Go.Op.buildSlice 62 1 #[(0, Go.Operand.tmp 44)]) 62 (some 45) (.slice (some ⟨Y1.heap.size, 0, none⟩) 1 1) ((Y1.alloc (.cells #[.slice Av 128 cv] 32))) (by kernel_rfl) (by kernel_rfl) (by kernel_rfl) (fun o ho ht => exec_bsl (vs := #[(0, .slice Av 128 cv)]) ho (by kernel_rfl) (bsl_T1 _ _ _ _)) (hbA4) ?_
  intro hHeld
  refine held_run 17 (Go.Op.call { callee := Go.Callee.builtin Go.Builtin.append, args := #[Go.Operand.tmp 42, Go.Operand.tmp 45], argTypes := #[62, 62] }) 62 (some 46) (.slice A4 (l.length + 1) c4) (w4) (by kernel_rfl) (by kernel_rfl) (by kernel_rfl) (fun o ho ht => exec_append ho ht (vs := v2) (vx := .slice (some ⟨Y1.heap.size, 0, none⟩) 1 1) (by kernel_rfl) (hap4)) (hb4) ?_
  intro hHeld
  refine wpAnyH_done (by kernel_rfl) ?_ _
  show wpList _ _ _ _ _ _
  simp only [Act.put, List.setIfInBounds_toArray, List.set_cons_zero, List.set_cons_succ, List.drop_succ_cons, List.drop_zero]
  have hd4 := HD.out.below hb4
  obtain ⟨hPn, hc1, hp2⟩ := HV.out
  have hver4 : VerR w4 P A4 (l ++ [b]) := ver_own hown4 hPn (by simp) (fun j b' hb' => by
    by_cases hj : j < l.length
    · rw [List.getElem?_append_left hj] at hb'
      obtain ⟨Ab', cb', e1, e2, e3, e4⟩ := hc1 j b' hb'
      exact ⟨Ab', cb', by rw [List.getElem?_append_left (by omega)]; exact e1, e2, e3.below hb4, fun a ha => ⟨(e4 a ha).1, Nat.lt_of_lt_of_le (e4 a ha).2 hb4.size⟩⟩
    · have hj2 : j = l.length := by have := (List.getElem?_eq_some_iff.1 hb').1; simp at this; omega
      subst hj2
      rw [List.getElem?_append_right (Nat.le_refl _), Nat.sub_self] at hb'
      cases hb'
      refine ⟨Av, cv, by rw [List.getElem?_append_right (by omega), hcl, Nat.sub_self]; rfl, hcv, ?_, fun a ha => ⟨hPn _ (Nat.le_trans hb2s (hAv a ha).1), Nat.lt_of_lt_of_le (hAv a ha).2 (by have := hT4.size; simp at this; omega)⟩⟩
      have h1 := (SlRead.of_own hown3).below (below_alc Y1 (.cells #[.slice Av 128 cv] 32))
      exact h1.turnM hT4 (fun _ a ha hh => by
        obtain ⟨k, hk, e⟩ := hh
        have h2 := (hAv a ha).1
        have h3 := (hown2.lt k hk).2
        omega))
  have hset := hd4.sect i hi A4 c4 (l ++ [b]) (by simpa using hc4) hver4 ⟨by simp, by simp; omega, fun x hx => by rcases List.mem_append.1 hx with h | h; exact hp2 x h; rw [List.mem_singleton.1 h]; exact hblen⟩
  rw [List.length_append, List.length_singleton] at hset
  have hbu := burn_any hset.1
  obtain ⟨_, _, hcT4, _⟩ := hd4.sec i vs[i] (List.getElem?_eq_getElem hi)
  have hfT4 := (hd4.fr i).2
  have HF := Lib.hid ((Turn.of_below (F := fun q => q = X ∨ q = T) hb4).trans hset.2 (fun q hq => .inl (.inr hq)))
  clear hset hver4 hd4 hHeld hown4 hown3 hg4 hat4 hT4 hap4 hbA4 hk2 hb2s hbYs hA4 hAv hbY2 hbY hown2 hap2 hb2 hbA hPn hc1 hp2
  by_cases h0 : left = 0
  · rw [decide_eq_false (by simpa using h0)] at hbu
    have HR := Lib.hid (HRV.out.trans (if_pos h0))
    clear h0
    go_wp2_with fail
    refine hbu.mono ?_
    rintro e W9 ⟨rfl, hd9, ht9⟩
    have HG := Lib.hid (And.intro hd9 (HF.out.trans ht9 (fun q hq => .inl (.inl hq))))
    clear hd9 ht9 hbu
    go_wp2_with fail
    go_ret
    exact ⟨by rw [HR.out]; rfl, HG.out⟩
  · rw [decide_eq_true h0] at hbu
    have HR := Lib.hid (HRV.out.trans (if_neg h0))
    clear h0
    go_wp2_with fail
    refine hbu.mono ?_
    rintro e W9 ⟨rfl, hd9, ht9⟩
    have HG := Lib.hid (And.intro hd9 (HF.out.trans ht9 (fun q hq => .inl (.inl hq))))
    clear hd9 ht9 hbu
    go_wp2_with fail
    go_ret
    exact ⟨by rw [HR.out]; rfl, HG.out⟩
end
end Go.Proofs.YtionjhlllpipjaaDoor
