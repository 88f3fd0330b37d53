import Derived.Test.YtgdnolondfnbkaaDoorHeg
/-
  The document's Header.
-/
namespace Go.Proofs.YtgdnolondfnbkaaDoor
open Go.RowKit

theorem load_u32 (b o : Nat) (w : World) (v : Value) (h : w.cell? ⟨b, o, none⟩ = some v) : (Instr.loadAt 24 (.pointer (some ⟨b, o, none⟩))).run Tryd.prog w = .ok v w := by
  have h2 := Tryd.underlying24
  go_simp
theorem put_turn {w w0 w' : World} {N : Nat} {v : Value} (ho : ∀ g, v.ownBlock = some g → N ≤ g) (hb : Below w.heap.size w w0) (hg : w0.grownBy w' v.ownBlock) : Turn (fun q => N ≤ q) w w' :=
  (Turn.of_below hb).trans (Turn.of_grown (F := fun q => N ≤ q) hg (fun k hk => ho k hk)) (fun _ hq => .inl hq)
theorem put_own {w w0 : World} {N : Nat} {v v' : Value} (hN : N ≤ w.heap.size) (ho : ∀ g, v.ownBlock = some g → N ≤ g) (hb : Below w.heap.size w w0) (hat : v'.ownBlock = v.ownBlock ∨ ∃ g, v'.ownBlock = some g ∧ w0.heap.size ≤ g) : ∀ g, v'.ownBlock = some g → N ≤ g := fun g hg => by
  rcases hat with h | ⟨k, hk, h⟩
  · exact ho g (by rw [← h]; exact hg)
  · rw [hk] at hg
    injection hg with hg
    have := hb.size
    omega
set_option maxRecDepth 100000 in
set_option maxHeartbeats 1600000 in
theorem dheader_any (dh : List Int) (pn n : Int) (w : World) (hl : dh.length = 32) :
    Calls Tryd.prog 13 #[hdV dh pn n] w fun e w' => ∃ v, e = .returned v ∧ w'.ownsRow w.heap.size 5 1 v 40 (ints .u8 (hdB dh pn n)) ∧ Below w.heap.size w w' := by
  have hsl := slice_dh
  have h40 := hdB_len dh pn n hl
  obtain ⟨zs3, hz3⟩ : ∃ zs, zs = hdB dh pn n := ⟨_, rfl⟩
  have hz32 : zs3 = (dh ++ le4 pn) ++ le4 n := hz3
  rw [← hz3] at h40 ⊢
  have HZ := Lib.hid hz32
  clear hz3 hz32
  have hle : (le4 pn).length = 4 := rfl
  obtain ⟨zs2, hz2⟩ : ∃ zs, zs = dh ++ le4 pn := ⟨_, rfl⟩
  have h36 : zs2.length = 36 := by rw [hz2]; simp [hl, hle]
  have HZ2 := Lib.hid hz2
  clear hz2 hle
  go_enter Tryd.func13, Tryd.ntmps13
  go_upto_region 1 with (fail)
  obtain ⟨Hb, hHb⟩ : ∃ H, H = w.heap.size := ⟨_, rfl⟩
  obtain ⟨N, hN⟩ : ∃ N, N = w.heap.size + 1 := ⟨_, rfl⟩
  refine wp_world (fun V => Below w.heap.size w V ∧ HdS V Hb dh pn n ∧ V.heap.size = N) ⟨below_alc w _, by rw [hHb]; exact HdS.new w dh pn n _ hl, by rw [hN]; simp⟩ ?_
  rintro V ⟨hbV, hH, hVs⟩
  rw [← hHb]
  have hnum : w.heap.size ≤ Hb ∧ Hb < N := by omega
  have HB := bytes_any (some ⟨Hb, 0, none⟩) dh 32 V hH.k (by omega)
  rw [hl] at HB
  have HL := Lib.hid hl
  have HVs := Lib.hid hVs
  clear hHb hN hl hVs
  go_wp2_with fail
  refine HB.mono ?_
  rintro e V1 ⟨v, rfl, hown, hb1⟩
  obtain ⟨Av, cv, rfl, _, _, hAv⟩ := own_slice hown
  have hNV : N ≤ V1.heap.size := by have := hb1.size; have := HVs.out; omega
  have hob1 : ∀ g, (Value.slice Av 32 cv).ownBlock = some g → N ≤ g := fun g hg => by
    have h1 : V.heap.size ≤ g := by
      rcases Av with _ | a
      · simp [Value.ownBlock] at hg
      · simp [Value.ownBlock] at hg
        have := (hAv a rfl).1
        omega
    have := HVs.out
    omega
  have hown1 : V1.drew.ownsRow N 5 1 (.slice Av 32 cv) dh.length (ints .u8 dh) := by
    rw [HL.out, ← HVs.out]; exact own_kept hown (fun _ _ => rfl)
  have hH1 := hH.below hb1
  have hlt1 : Hb < V1.heap.size := by omega
  have cp := hH1.p
  have cn := hH1.n
  have hb1w := hbV.trans (hb1.mono hbV.size)
  have P1 := put32_any pn N dh (.slice Av 32 cv) V1.drew hown1 hNV (by have := HL.out; omega)
  rw [← HZ2.out] at P1
  have P2 : ∀ (v : Value) (Y : World), Y.ownsRow N 5 1 v zs2.length (ints .u8 zs2) → N ≤ Y.heap.size → _ := fun v Y h1 h2 => put32_any n N zs2 v Y h1 h2 (by omega)
  rw [show zs2 ++ le4 n = zs3 by rw [HZ2.out, HZ.out]] at P2
  clear hH hH1 hb1 hbV hown hAv HB
  go_upto_region 2 with (fail)
  refine wp_region_noPanic ?_
  refine wp_region_held_drew (S := fun Y => Turn (fun q => N ≤ q) V1 Y) (by kernel_rfl) (Turn.of_below (Below.drewNr (w := V1) 1)) (fun hHeld => ?_)
  refine held_move 0 (Go.Operand.tmp 3) (some 7) (.slice Av 32 cv) (by kernel_rfl) (by kernel_rfl) (by kernel_rfl) (by kernel_rfl) (by kernel_rfl) (fun _ _ _ _ _ h => h) hHeld ?_
  refine held_field 1 26 (Go.Operand.tmp 1) 1 (some 8) (.pointer (some ⟨Hb, 0, none⟩)) (.pointer (some ⟨Hb, 32, none⟩)) (by kernel_rfl) (by kernel_rfl) (fun w => by kernel_rfl) (by kernel_rfl) (by kernel_rfl) (by kernel_rfl) (fun _ _ _ _ _ h => h) hHeld ?_
  refine held_cell 2 24 (Go.Operand.tmp 8) (some 9) (.pointer (some ⟨Hb, 32, none⟩)) (.int .u32 pn) (by kernel_rfl) (by kernel_rfl) (fun Y hY => load_u32 Hb 32 Y _ ((hY.cell hlt1 (by omega)).trans cp)) (by kernel_rfl) (by kernel_rfl) (by kernel_rfl) (fun _ _ _ _ _ h => h) hHeld ?_
  refine held_field 4 26 (Go.Operand.tmp 1) 2 (some 11) (.pointer (some ⟨Hb, 0, none⟩)) (.pointer (some ⟨Hb, 33, none⟩)) (by kernel_rfl) (by kernel_rfl) (fun w => by kernel_rfl) (by kernel_rfl) (by kernel_rfl) (by kernel_rfl) (fun _ _ _ _ _ h => h) hHeld ?_
  refine held_cell 5 24 (Go.Operand.tmp 11) (some 12) (.pointer (some ⟨Hb, 33, none⟩)) (.int .u32 n) (by kernel_rfl) (by kernel_rfl) (fun Y hY => load_u32 Hb 33 Y _ ((hY.cell hlt1 (by omega)).trans cn)) (by kernel_rfl) (by kernel_rfl) (by kernel_rfl) (fun _ _ _ _ _ h => h) hHeld ?_
  refine held_call 3 30 #[Go.Operand.tmp 7, Go.Operand.tmp 9] #[27, 24] (some 10) #[.slice Av 32 cv, .int .u32 pn] _ (by kernel_rfl) (by kernel_rfl) (by kernel_rfl) (by kernel_rfl) (P1) ?_
  rintro e Y1 ⟨v2, rfl, hown2, w1, hbw1, hg1, hat1⟩
  obtain ⟨A2, c2, rfl, _⟩ := ownsRow_form hown2
  have ht1 := put_turn hob1 hbw1 hg1
  have hob2 := put_own (w := V1.drew) hNV hob1 hbw1 hat1
  have hs1 : V1.heap.size ≤ Y1.heap.size := ht1.size
  refine ⟨_, rfl, hHeld.trans ht1 (fun q hq => .inl hq), fun hHeld => ?_⟩
  refine held_call 6 30 #[Go.Operand.tmp 10, Go.Operand.tmp 12] #[27, 24] (some 13) #[.slice A2 zs2.length c2, .int .u32 n] _ (by kernel_rfl) (by kernel_rfl) (by kernel_rfl) (by kernel_rfl) (P2 _ _ hown2 (by omega)) ?_
  rintro e Y2 ⟨v3, rfl, hown3, w2, hbw2, hg2, hat2⟩
  obtain ⟨A3, c3, rfl, _⟩ := ownsRow_form hown3
  have ht2 := put_turn hob2 hbw2 hg2
  refine ⟨_, rfl, hHeld.trans ht2 (fun q hq => .inl hq), fun hHeld => ?_⟩
  refine held_assign 7 (Go.Operand.tmp 13) (some 2) (.slice A3 zs3.length c3) (by kernel_rfl) (by kernel_rfl) (by kernel_rfl) (by kernel_rfl) (by kernel_rfl) (fun _ _ _ _ _ h => h) hHeld ?_
  refine wpAnyH_done (by kernel_rfl) ?_ _
  refine NoPanic.normal ?_
  simp only [put_list, List.set_cons_zero, List.set_cons_succ]
  have HF := Lib.hid (And.intro (ownsRow_lower hown3 (show w.heap.size ≤ N by omega)) (hHeld.below hb1w hb1w.size (fun q hq => by omega)))
  go_wp2_with fail
  go_ret
  refine ⟨_, rfl, ?_⟩
  have h := HF.out
  show Y2.ownsRow w.heap.size 5 1 (.slice A3 zs3.length c3) 40 _ ∧ _
  rw [h40] at h ⊢
  exact h
end Go.Proofs.YtgdnolondfnbkaaDoor
