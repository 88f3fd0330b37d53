import Derived.Test.YtffkjbbhbpaacaaGreatDoorCoc
/-
  code: Read; what the laws' read makes of it.
-/
namespace Go.Proofs.YtffkjbbhbpaacaaGreatDoor
open Go.RowKit

/-- behind Try -/
def Tried (E : Nat → Addr) (G : Nat → Prop) (P : Option (Nat × Int) → World → Prop) (R : Nat) (A : Option Addr) (xs : List Int) (c : Nat) (W2 : World) (v : Value) (V : World) : Prop :=
  Turn (fun q => G q ∨ q = R) W2 V ∧
  ((v = .nilIface ∧ ∃ p, RdS V R A xs p c ∧ P (if p < xs.length then some (3, (p : Int)) else none) V) ∨
   ∃ bt k z, v = atV bt ∧ W2.heap.size + 2 ≤ bt ∧ bt < V.heap.size ∧ k < 19 ∧ AtAt bt z (errV (E k)) V ∧ P (some (k, z)) V)

theorem load_rd (b o : Nat) (w : World) (v : Value) (h : w.cell? ⟨b, o, none⟩ = some v) : (Instr.loadAt 68 (.pointer (some ⟨b, o, none⟩))).run Tryz.prog w = .ok v w := by
  have h2 := Tryz.underlying68
  go_simp
theorem exec_boxR {P : Program} {a : Act} {o : Oper} {t : TypeId} {x : Operand} {w w' : World} {vx v : Value} (ho : o.op = .box t x) (hx : a.eval x = vx) (hr : (Instr.box t vx).run P w = .ok v w') : (execOp a.eval o).run P w = .ok (.value v) w' := by
  unfold execOp; simp only [ho, hx, Sem.run_bind, hr]; rfl
set_option maxRecDepth 100000 in
set_option maxHeartbeats 1600000 in
theorem cread_any (E : Nat → Addr) (k : FuncId) (cap : Array Value) (A : Option Addr) (xs : List Int) (ca : Nat) (w : World) (G : Nat → Prop) (P : Option (Nat × Int) → World → Prop)
    (hk : ∀ args w, (callFunc k args).run Tryz.prog w = .ok (.enter k args) w) (hA : SlRead w A (ints .u8 xs)) (hl : xs.length ≤ 100000)
    (hT : 0 < xs.length → w.cell? ⟨0, 0, none⟩ = some (errV (E 3))) (hTG : ¬ G 0) (hG : ∀ q, G q → q < w.heap.size)
    (hP : ∀ o W W', P o W → w.heap.size ≤ W.heap.size → Turn (fun q => w.heap.size ≤ q) W W' → P o W')
    (hf : ∀ w1 R A1 c1, Below w.heap.size w w1 → RdS w1 R A1 xs 0 c1 → w.heap.size ≤ R → (∀ a, A1 = some a → w.heap.size ≤ a.block) →
      Calls Tryz.prog k (#[.pointer (some ⟨R, 0, none⟩)] ++ cap) w1 fun e w2 => ∃ o, Turn (fun q => G q ∨ q = R) w1 w2 ∧ EndsAs E R A1 xs c1 w1.heap.size o e w2 ∧ P o w2) :
    Calls Tryz.prog 21 #[.slice A xs.length ca, .func (.func k) #[] cap] w fun e w' => ∃ o v, e = .returned v ∧ TellR E o v w' ∧ P o w' ∧ Turn G w w' := by
  have hmf : ∀ (fn : Fn) (first cap : Array Value) (w : World), (Instr.makeFunc fn first cap).run Tryz.prog w = .ok (.func fn first cap) w := fun _ _ _ _ => rfl
  go_enter Tryz.func21, Tryz.ntmps21
  go_upto_region 1 with (fail)
  refine wp_world (fun W => Below w.heap.size w W ∧ W.cell? ⟨w.heap.size, 0, none⟩ = some (.func (.func k) #[] cap) ∧ W.heap.size = w.heap.size + 1) ⟨below_alc w _, by simp [go_sem], by simp⟩ ?_
  rintro W0 ⟨hb0, hF0, hs0⟩
  obtain ⟨B, hB⟩ : ∃ B, B = w.heap.size := ⟨_, rfl⟩
  rw [← hB] at hb0 hF0 hs0 hG hP hf ⊢
  have HB := Lib.hid hB
  have hA0 := hA.below (by rw [← hB]; exact hb0 : Below w.heap.size w W0)
  clear hA hB
  have HS0 := Lib.hid hs0
  clear hs0
  go_wp2_with fail
  refine (cloneI_any A xs ca W0 hA0 (by omega)).mono ?_
  rintro e W1 ⟨v1, rfl, hown, hb1⟩
  obtain ⟨A1, c1, rfl, hn1, _, hnew⟩ := own_slice hown
  have hrd := own_read hown
  have hF1 := (hb1.cell (p := ⟨B, 0, none⟩) (by rw [HS0.out]; simp)).trans hF0
  have hbB : Below B w W1 := hb0.trans (hb1.mono (by rw [HS0.out]; omega))
  have hsz1 : B + 1 ≤ W1.heap.size := by have := hb1.size; rw [HS0.out] at this; exact this
  have hnew' : ∀ a, A1 = some a → B + 1 ≤ a.block ∧ a.block < W1.heap.size := fun a ha => by have := hnew a ha; rw [HS0.out] at this; exact this
  clear hown hnew hb1 hb0 hF0 hA0
  go_wp2_with fail
  obtain ⟨W2, hW2⟩ : ∃ W2, W2 = (W1.alloc (.cells #[.slice A1 xs.length c1, .int .i64 0] 97)).alloc (.cells #[.pointer (some ⟨W1.heap.size, 0, none⟩)] 68) := ⟨_, rfl⟩
  have hs2 : W2.heap.size = W1.heap.size + 2 := by rw [hW2]; simp
  have hb2 : Below W1.heap.size W1 W2 := by rw [hW2]; exact (below_alc W1 _).alloc (by simp) _
  have hRd : RdS W2 W1.heap.size A1 xs 0 c1 := by
    refine ⟨?_, ?_, ?_, hrd.below hb2, fun _ a ha e => ?_, Nat.zero_le _, hn1⟩
    · rw [hW2]; simp [go_sem]
    · rw [hW2]; simp [go_sem]
    · rw [hW2]; simp [go_sem]
    · have := (hnew' a ha).2; omega
  have hC2 : W2.cell? ⟨W1.heap.size + 1, 0, none⟩ = some (.pointer (some ⟨W1.heap.size, 0, none⟩)) := by rw [hW2]; simp [go_sem]
  have hF2 := (hb2.cell (p := ⟨B, 0, none⟩) (show B < W1.heap.size by omega)).trans hF1
  have hbB2 : Below B w W2 := hbB.trans (hb2.mono (by omega))
  rw [← hW2]
  clear hW2
  obtain ⟨R, hR⟩ : ∃ R, R = W1.heap.size := ⟨_, rfl⟩
  rw [← hR] at hs2 hRd hC2 hsz1 hnew' ⊢
  clear hrd hF1 hbB hb2 hR
  have hw2 : B ≤ W2.heap.size := by omega
  have hts := tried_size W2
  have htb := tried_below W2
  refine (try_both 46 #[.pointer (some ⟨B, 0, none⟩), .pointer (some ⟨R + 1, 0, none⟩)] W2 (fun V => Tried E G P R A1 xs c1 W2 .nilIface V) (fun rt rp V => Tried E G P R A1 xs c1 W2 (.iface rt rp) V) (fun _ _ => by kernel_rfl) ?_).mono ?_
  · refine read1_any k cap B (R + 1) R (tried W2) _ ((htb.cell (p := ⟨B, 0, none⟩) (show B < W2.heap.size by omega)).trans hF2) ((htb.cell (p := ⟨R + 1, 0, none⟩) (show R + 1 < W2.heap.size by omega)).trans hC2) hk ?_
    refine (hf (tried W2) R A1 c1 ?_ (hRd.below htb) (by omega) (fun a ha => by have := (hnew' a ha).1; omega)).mono ?_
    · rw [HB.out]; exact (by rw [← HB.out]; exact hbB2.trans (htb.mono hw2))
    rintro e V ⟨o, ht, he, hp⟩
    have hKs := ht.size
    have hK : Kept W2.heap.size V := by
      have hc : ∀ q, W2.heap.size ≤ q → q < W2.heap.size + 2 → V.heap[q]? = (tried W2).heap[q]? := fun q h1 h2 => ht.block q (by omega) (fun hq => by
        rcases hq with hq | hq
        · have := hG q hq; omega
        · omega)
      refine ⟨(World.cell?_of_block (hc W2.heap.size (Nat.le_refl _) (show W2.heap.size < W2.heap.size + 2 by omega))).trans ?_, (World.frozen?_of_block (hc W2.heap.size (Nat.le_refl _) (show W2.heap.size < W2.heap.size + 2 by omega))).trans ?_, (World.cell?_of_block (hc (W2.heap.size + 1) (Nat.le_succ _) (show W2.heap.size + 1 < W2.heap.size + 2 by omega))).trans ?_, (World.frozen?_of_block (hc (W2.heap.size + 1) (Nat.le_succ _) (show W2.heap.size + 1 < W2.heap.size + 2 by omega))).trans ?_⟩ <;> simp [tried, go_sem]
    have ht2 : Turn (fun q => G q ∨ q = R) W2 V := (Turn.of_below htb).trans ht (fun q hq => .inl hq)
    rcases he with ⟨rfl, p, hr, rfl⟩ | ⟨bt, kk, z, rfl, hlo, hkk, hat, rfl⟩
    · exact ⟨.inl rfl, hK, by omega, .inl ⟨rfl, ht2, .inl ⟨rfl, p, hr, hp⟩⟩⟩
    · exact ⟨.inr ⟨_, rfl⟩, hK, by omega, .inr ⟨_, _, rfl, ht2, .inr ⟨bt, kk, z, rfl, by omega, cell_lt hat.p, hkk, hat, hp⟩⟩⟩
  rintro e W4 ⟨v, V, rfl, hv, hsV, ht4⟩
  have hv : Tried E G P R A1 xs c1 W2 v V := by
    rcases hv with ⟨rfl, h⟩ | ⟨rt, rp, rfl, h⟩
    · exact h
    · exact h
  obtain ⟨htV, hv⟩ := hv
  have hGB : ∀ q, G q → q < B := hG
  have ht5 : Turn G w W4 := by
    have h1 : Turn (fun q => G q ∨ B ≤ q) w W2 := ⟨hbB2.os, hbB2.tape, hbB2.output, hbB2.size, fun q hq hF => hbB2.block q (by rcases Nat.lt_or_ge q B with h | h; exact h; exact absurd (.inr h) hF)⟩
    have h2 := (h1.trans htV (fun q hq => .inl (by rcases hq with hq | hq; exact .inl hq; exact .inr (by omega)))).trans ht4 (fun q hq => .inl (.inr (by omega)))
    exact ⟨h2.os, h2.tape, h2.output, h2.size, fun q hq hF => h2.block q hq (fun hh => by
        rcases hh with hh | hh
        · exact hF hh
        · have := HB.out; omega)⟩
  have hsV4 := ht4.size
  have hkeep : ∀ q, q < V.heap.size → q ≠ W2.heap.size → q ≠ W2.heap.size + 1 → W4.heap[q]? = V.heap[q]? := fun q h1 h2 h3 => ht4.block q h1 (fun h => by rcases h with h | h <;> contradiction)
  have hP4 : ∀ o, P o V → P o W4 := fun o hp => hP o V W4 hp (by omega) (ht4.mono (fun q hq => by omega))
  have hC4 : W4.cell? ⟨R + 1, 0, none⟩ = some (.pointer (some ⟨R, 0, none⟩)) :=
    (World.cell?_of_block (hkeep (R + 1) (by omega) (by omega) (by omega))).trans ((htV.cell (k := R + 1) (by omega) (fun h => by rcases h with h | h; exact absurd (hG _ h) (by omega); omega)).trans hC2)
  have HT5 := Lib.hid ht5
  rcases hv with ⟨rfl, p, hr, hp⟩ | ⟨bt, kk, z, rfl, hlo, hbV, hkk, hat, hp⟩
  · have hr4 : RdS W4 R A1 xs p c1 := hr.turn ht4 (fun h => by omega) (fun a ha h => by have := (hnew' a ha).2; omega)
    have hp4 := hP4 _ hp
    have r0 := hr4.c0
    have r1 := hr4.c1
    have hle := hr4.le
    by_cases hlt : p < xs.length
    · have hte : W4.cell? ⟨0, 0, none⟩ = some (errV (E 3)) := (ht5.cell (cell_lt (hT (by omega))) hTG).trans (hT (by omega))
      rw [if_pos hlt] at hp4
      have hfin : ∀ V, Below W4.heap.size W4 V → P (some (3, (p : Int))) V ∧ Turn G w V := fun V hd => ⟨hP _ W4 _ hp4 (by omega) (Turn.of_below hd), ht5.trans (Turn.of_below (F := G) hd) (fun q hq => .inl hq)⟩
      have HF := Lib.hid hfin
      clear hfin hp4 hp hr4 hr ht5 htV ht4 hkeep hP4 hP hf hT hRd hG hGB hnew' hbB2
      go_wp2_with fail
      go_quiet (fail)
      go_upto_region 6 with (fail)
      refine wp_world (fun W => Below W4.heap.size W4 W) (Below.drewNr _) ?_
      intro W5 hb5
      have hRs : R + 1 < W5.heap.size := by have := hb5.size; omega
      have hC5 := (hb5.cell (p := ⟨R + 1, 0, none⟩) (show R + 1 < W4.heap.size by omega)).trans hC4
      have r5 := (hb5.cell (p := ⟨R, 1, none⟩) (show R < W4.heap.size by omega)).trans r1
      have hte5 := (hb5.cell (p := ⟨0, 0, none⟩) (cell_lt hte)).trans hte
      have hTs := cell_lt hte5
      have HF5 := Lib.hid (HF.out _ (hb5.trans (((Below.drewNr (w := W5) 1).alloc (by simp) (.cells #[.int .i64 (p : Int), errV (E 3)] 101)).mono hb5.size)))
      clear hC4 r1 hte HF
      refine wp_region_noPanic ?_
      refine wp_region_held_drew (S := fun V => Below W5.heap.size W5 V) (by kernel_rfl) ((Below.drewNr (w := W5) 1)) (fun hHeld => ?_)
      refine held_cell 0 68 (Go.Operand.tmp 5) (some 26) (.pointer (some ⟨R + 1, 0, none⟩)) (.pointer (some ⟨R, 0, none⟩)) (by kernel_rfl) (by kernel_rfl) (fun V hV => load_rd (R + 1) 0 V _ ((hV.cell (p := ⟨R + 1, 0, none⟩) hRs).trans hC5)) (by kernel_rfl) (by kernel_rfl) (by kernel_rfl) (fun _ _ _ _ _ h => h) hHeld ?_
      refine held_nil 1 (Go.Operand.tmp 26) (some 27) ⟨R, 0, none⟩ (by kernel_rfl) (by kernel_rfl) (by kernel_rfl) (by kernel_rfl) (by kernel_rfl) (fun _ _ _ _ _ h => h) hHeld ?_
      refine held_field 2 97 (Go.Operand.tmp 27) 1 (some 28) (.pointer (some ⟨R, 0, none⟩)) (.pointer (some ⟨R, 1, none⟩)) (by kernel_rfl) (by kernel_rfl) (fun w => by kernel_rfl) (by kernel_rfl) (by kernel_rfl) (by kernel_rfl) (fun _ _ _ _ _ h => h) hHeld ?_
      refine held_cell 3 3 (Go.Operand.tmp 28) (some 29) (.pointer (some ⟨R, 1, none⟩)) (.int .i64 (p : Int)) (by kernel_rfl) (by kernel_rfl) (fun V hV => load_i64 R 1 V _ ((hV.cell (p := ⟨R, 1, none⟩) (show R < W5.heap.size by omega)).trans r5)) (by kernel_rfl) (by kernel_rfl) (by kernel_rfl) (fun _ _ _ _ _ h => h) hHeld ?_
      refine held_cell 4 46 (Go.Operand.global 0) (some 30) (.pointer (some ⟨0, 0, none⟩)) (errV (E 3)) (by kernel_rfl) (by kernel_rfl) (fun V hV => load_err 0 0 V _ ((hV.cell (p := ⟨0, 0, none⟩) hTs).trans hte5)) (by kernel_rfl) (by kernel_rfl) (by kernel_rfl) (fun _ _ _ _ _ h => h) hHeld ?_
      refine held_build 5 101 #[(0, Go.Operand.tmp 29), (1, Go.Operand.tmp 30)] (some 31) #[(0, .int .i64 (p : Int)), (1, errV (E 3))] (.agg #[.int .i64 (p : Int), errV (E 3)]) (by kernel_rfl) (by kernel_rfl) (fun w => by kernel_rfl) (by kernel_rfl) (by kernel_rfl) (by kernel_rfl) (fun _ _ _ _ _ h => h) hHeld ?_
      refine held_run 6 (Go.Op.box 101 (Go.Operand.tmp 31)) 99 (some 32) (.pointer (some ⟨W5.drew.heap.size, 0, none⟩)) (W5.drew.alloc (.cells #[.int .i64 (p : Int), errV (E 3)] 101)) (by kernel_rfl) (by kernel_rfl) (by kernel_rfl) (fun o ho ht => exec_boxR ho (vx := .agg #[.int .i64 (p : Int), errV (E 3)]) (by kernel_rfl) (by kernel_rfl)) (hHeld.alloc (by simp) _) ?_
      intro hHeld
      refine held_any 7 (Go.Op.makeInterface 99 (Go.Operand.tmp 32)) (some 33) (atV W5.heap.size) (by kernel_rfl) (by kernel_rfl) (by kernel_rfl) (by kernel_rfl) (fun _ _ _ _ _ h => h) hHeld (fun o ho w _ => by unfold execOp; simp only [ho]; kernel_rfl) ?_
      refine held_assign 8 (Go.Operand.tmp 33) (some 4) (atV W5.heap.size) (by kernel_rfl) (by kernel_rfl) (by kernel_rfl) (by kernel_rfl) (by kernel_rfl) (fun _ _ _ _ _ h => h) hHeld ?_
      refine wpAnyH_done (by kernel_rfl) ?_ _
      refine NoPanic.normal ?_
      try simp only [Act.put, List.setIfInBounds_toArray, List.set_cons_zero, List.set_cons_succ]
      try simp only [put_list, List.set_cons_zero, List.set_cons_succ]
      go_wp2_with fail
      go_ret
      exact ⟨some (3, (p : Int)), atV W5.heap.size, rfl, ⟨by decide, W5.heap.size, rfl, AtAt.new W5.drew _ _⟩, HF5.out.1, HF5.out.2⟩
    · rw [if_neg hlt] at hp4
      have HF := Lib.hid (fun m => And.intro (hP _ W4 (W4.drewN m) hp4 (by omega) (Turn.of_below (Below.drewNr m))) (ht5.trans (Turn.of_below (F := G) (Below.drewNr m)) (fun q hq => .inl hq)))
      clear hp4 hp hr4 hr ht5 htV ht4 hkeep hP4 hP hf hT hRd hG hGB hnew' hbB2
      go_wp2_with fail
      go_quiet (fail)
      go_wp2_with fail
      go_ret
      exact ⟨none, _, rfl, rfl, (HF.out _).1, (HF.out _).2⟩
  · have hat4 : AtAt bt z (errV (E kk)) W4 := ⟨(World.cell?_of_block (hkeep bt hbV (by omega) (by omega))).trans hat.p, (World.cell?_of_block (hkeep bt hbV (by omega) (by omega))).trans hat.e⟩
    have HF := Lib.hid (And.intro (hP4 _ hp) (And.intro hat4 ht5))
    clear hp ht5 htV ht4 hkeep hP4 hP hf hT hRd hG hGB hnew' hbB2 hat hat4
    go_wp2_with fail
    go_ret
    exact ⟨some (kk, z), _, rfl, ⟨hkk, bt, rfl, HF.out.2.1⟩, HF.out.1, HF.out.2.2⟩
end Go.Proofs.YtffkjbbhbpaacaaGreatDoor
