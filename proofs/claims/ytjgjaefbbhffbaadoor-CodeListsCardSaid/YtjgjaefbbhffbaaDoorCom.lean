import Derived.Test.YtjgjaefbbhffbaaDoorCol
/-
  CodeBools' walk.
-/
namespace Go.Proofs.YtjgjaefbbhffbaaDoor
open Go.RowKit

theorem le4_word (m : Int) (a : Int) (h : 0 ≤ m ∧ m < 4294967296) : wordI (a :: le4 m) 1 = m := by
  show m % 256 + m / 256 % 256 * 256 + m / 65536 % 256 * 65536 + m / 16777216 % 256 * 16777216 = m
  omega
theorem le4_byts (m : Int) : Byts (le4 m) := by
  intro x hx
  simp only [le4, List.mem_cons, List.not_mem_nil, or_false] at hx
  rcases hx with rfl | rfl | rfl | rfl <;> omega
theorem PB.later {Bo Ko n : Nat} {v m : Int} {o : Option (Nat × Int)} {W W' : World} (h : PB Bo Ko v m o W) (ht : Turn (fun q => n ≤ q) W W') (hB : Bo < n) (hK : Ko < n) : PB Bo Ko v m o W' := by
  rcases h with ⟨h1, h2, h3, h4⟩ | ⟨h1, h2, h3, h4⟩
  · exact .inl ⟨h1, h2.turn ht (by omega), h3.turn ht (by omega), h4⟩
  · exact .inr ⟨h1, h2.turn ht (by omega), h3.turn ht (by omega), h4⟩
set_option maxRecDepth 100000 in
set_option maxHeartbeats 3200000 in
theorem bools_walk (E : Nat → Addr) (n m : Int) (w : World) (hn : (Lit.int .i64 n).wf = true) (hm : 0 ≤ m ∧ m < 4294967296) (hE : ErrsAt E w) :
    Calls Tryd.prog 8 #[.int .i64 n, .int .u32 m] w fun e w' => e = .returned (.bool true) ∧ Below w.heap.size w w' := by
  have hnw := wf_i64 hn
  clear hn
  go_enter Tryd.func8, Tryd.ntmps8
  go_wp2_with fail
  refine (first_any w).mono ?_
  rintro e W0 ⟨rfl, hb0⟩
  have hs0 := hb0.size
  have hw : WrS (W0.alloc (.cells #[.slice none 0 0] 26)) w.heap.size W0.heap.size [] (.slice none 0 0) := ⟨by simp [go_sem], by simp [go_sem], World.ownsRow_nil _ _ _ _, by simp [Value.ownBlock], hs0⟩
  have hb0a : Below w.heap.size w (W0.alloc (.cells #[.slice none 0 0] 26)) := hb0.alloc hs0 _
  go_wp2_with fail
  refine (wu8_any n w.heap.size W0.heap.size [] _ _ hw (by simp; omega) (by simp)).mono ?_
  rintro e W1 ⟨rfl, v1, hw1, ht1, _⟩
  have hb1 : Below w.heap.size w W1 := ht1.below hb0a hb0a.size (fun q hq => (hw.ltF hq).1)
  clear hw hb0 ht1 hb0a
  rw [List.nil_append] at hw1
  go_wp2_with fail
  refine (wu32_any m w.heap.size W0.heap.size [n % 256] _ _ hw1 hb1.size (by simp)).mono ?_
  rintro e W2 ⟨rfl, v2, hw2, ht2, _⟩
  have hb2 : Below w.heap.size w W2 := ht2.below hb1 hb1.size (fun q hq => (hw1.ltF hq).1)
  clear hw1 ht2 hb1
  have hl5 : ([n % 256] ++ le4 m).length = 5 := rfl
  have hx5 : Byts ([n % 256] ++ le4 m) := by
    intro x hx
    rcases List.mem_append.1 hx with h | h
    · obtain rfl : x = n % 256 := by simpa using h
      omega
    · exact le4_byts m x h
  have hv0 : byteI ([n % 256] ++ le4 m) 0 = n % 256 := rfl
  have hw5 : wordI ([n % 256] ++ le4 m) 1 = m := le4_word m _ hm
  generalize [n % 256] ++ le4 m = xs at *
  go_wp2_with fail
  refine (wbytes_any _ _ xs v2 W2 hw2 (by omega)).mono ?_
  rintro e W3 ⟨v3, rfl, hown, hb3⟩
  obtain ⟨A, c, rfl, _, _, hAlt0⟩ := own_slice hown
  have hAlt : ∀ a, A = some a → a.block < W3.heap.size := fun a ha => (hAlt0 a ha).2
  have hrd := SlRead.of_own hown
  clear hAlt0
  have hbA := hb2.trans (hb3.mono hb2.size)
  clear hown hw2 hb2 hb3
  rw [hl5]
  go_upto_region 12 with (fail)
  obtain ⟨B, hB⟩ : ∃ B, B = W3.heap.size := ⟨_, rfl⟩
  refine wp_world (fun V => Below w.heap.size w V ∧ SlRead V A (ints .u8 xs) ∧ VarS V B (.bool false) ∧ VarS V (B + 1) (.int .u32 0) ∧ V.heap.size = B + 2) ?_ ?_
  · subst hB
    have hbb : Below W3.heap.size W3 ((W3.alloc (.cells #[.bool false] 4)).alloc (.cells #[.int .u32 0] 35)) := (below_alc W3 _).alloc (by simp) _
    exact ⟨hbA.trans (hbb.mono hbA.size), hrd.below hbb, ⟨by simp [go_sem], by simp [go_sem]⟩, ⟨by simp [go_sem], by simp [go_sem]⟩, by simp⟩
  rintro V ⟨hbV, hrV, hVB, hVK, hVs⟩
  have hBn : w.heap.size ≤ B := by rw [hB]; exact hbA.size
  rw [← hB] at hAlt ⊢
  clear hB hbA hrd
  have hEV := hE.below hbV
  have hE3 := hEV.c 3 (by decide)
  have hEl := cell_lt (hE.c 3 (by decide))
  go_wp2_with fail
  rw [← hl5]
  refine (lread_any E 43 #[.pointer (some ⟨B, 0, none⟩), .pointer (some ⟨B + 1, 0, none⟩)] A xs c V (fun q => q = B ∨ q = B + 1) (PB B (B + 1) (n % 256) m) (fun _ _ => by kernel_rfl) hrV (by omega) (fun _ => hE3)
    (fun h => by have : 4 < w.heap.size := hEl; omega) (fun q hq => by omega) (fun o W W' hp _ ht => hp.later ht (by omega) (by omega)) ?_).mono ?_
  · intro w1 R A1 c1 hb1 hR hRV hA1
    exact bools1_any hR (hEV.below hb1) hx5 hl5 hv0 hw5 (hVB.below hb1) (hVK.below hb1) (by omega) (by omega) (by omega) (fun a ha => by have := hA1 a ha; omega) (fun a ha => by have := hA1 a ha; omega)
  rintro e W4 ⟨u, rfl, o, htell, hp, ht⟩
  have hb4 : Below w.heap.size w W4 := ht.below hbV hbV.size (fun q hq => by omega)
  have hr4 := hrV.turn ht (fun _ a ha => by have := hAlt a ha; omega)
  rcases hp with ⟨rfl, hB4, hK4, hv⟩ | ⟨rfl, hB4, hK4, hv⟩
  · obtain rfl : u = .nilIface := htell
    have cB := hB4.c
    have cK := hK4.c
    have han := i64_and255 n
    have HB := Lib.hid hb4
    rcases hv with hv | hv
    · rw [hv] at han cB
      rw [decide_eq_false (by decide)] at cB
      clear hb4 hv hv0
      go_wp2_with fail
      go_ret
      exact ⟨rfl, HB.out⟩
    · rw [hv] at han cB
      rw [decide_eq_true rfl] at cB
      clear hb4 hv hv0
      go_wp2_with fail
      go_ret
      exact ⟨rfl, HB.out⟩
  · obtain ⟨_, bt, rfl, hat⟩ := htell
    have cB := hB4.c
    have cK := hK4.c
    have han := i64_and255 n
    obtain ⟨b, o, rfl, hlt, hc⟩ := hr4 (by simp; omega)
    have cb := hc 0 _ (ints_get .u8 xs 0 _ (byteI_get (by omega)))
    rw [Nat.add_zero, hv0] at cb
    have hE4 := hE.below hb4
    have hsz := hb4.size
    have HB := Lib.hid hb4
    clear hb4 hc hr4 hv0 hEV hE3 ht
    have hwr : wrap64 (n % 256) = n % 256 := by unfold wrap64; omega
    generalize n % 256 = v at *
    go_wp2_with fail
    refine (placed_any 105 0 W4 (by decide)).mono ?_
    rintro e W5 ⟨rfl, hb5⟩
    have hE5 := hE4.below hb5
    have hat5 := hat.below hb5
    have cB := (hb5.cell (p := ⟨B, 0, none⟩) hB4.lt).trans cB
    have cK := (hb5.cell (p := ⟨B + 1, 0, none⟩) hK4.lt).trans cK
    have cb := (hb5.cell (p := ⟨b, o, none⟩) hlt).trans cb
    have HB := Lib.hid (HB.out.trans (hb5.mono hsz))
    have l0 := cell_lt cB
    have l1 := cell_lt cK
    have l2 := cell_lt cb
    clear hb5
    go_wp2_with fail
    refine (same_at E bt 4 0 (by decide) W5 hE5 hat5).mono ?_
    rintro e W6 ⟨rfl, hb6⟩
    have cB := (hb6.cell (p := ⟨B, 0, none⟩) l0).trans cB
    have cK := (hb6.cell (p := ⟨B + 1, 0, none⟩) l1).trans cK
    have cb := (hb6.cell (p := ⟨b, o, none⟩) l2).trans cb
    have HB := Lib.hid (HB.out.trans (hb6.mono HB.out.size))
    clear hb6
    go_wp2_with fail
    go_ret
    exact ⟨rfl, HB.out⟩
end Go.Proofs.YtjgjaefbbhffbaaDoor
