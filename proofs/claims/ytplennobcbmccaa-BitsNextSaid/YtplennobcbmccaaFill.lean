import Derived.Test.YtplennobcbmccaaFirst
namespace Go.Proofs.Ytplennobcbmccaa
open Go.RowKit

theorem next_ex (b a : Nat) (l : List Bool) (s : Int) (w : World) (h : IsMap w b a l) (ht : trues l < l.length) (hs : s ≤ 9223372036854775807) :
    Calls Try.prog 8 #[.pointer (some ⟨b, 0, none⟩), .int .i64 s] w fun e w' => ∃ q : Nat, e = .returned (.int .i64 q) ∧ q < l.length ∧ l.getD q false = false ∧ ∃ m, w' = w.drewN m := by
  obtain ⟨d, hd⟩ := exists_next l s.toNat ht
  refine (next_at b a l s d w h ht hd hs).mono ?_
  rintro e w' ⟨rfl, m, rfl⟩
  have hq : (s.toNat + d) % l.length < l.length := Nat.mod_lt _ (by have := hd.lt; omega)
  refine ⟨_, rfl, hq, ?_, m, rfl⟩
  have := hd.no
  simp [hq] at this ⊢
  exact this

theorem front_le_trues (l : List Bool) : front l ≤ trues l := by
  unfold front trues
  induction l with
  | nil => simp
  | cons x l ih => cases x <;> simp <;> exact ih

theorem front_full (l : List Bool) (h : trues l = l.length) : front l = l.length := by
  unfold front trues at *
  induction l with
  | nil => rfl
  | cons x l ih =>
    have hle := List.countP_le_length (p := id) (l := l)
    cases x with
    | false => simp at h; omega
    | true =>
      simp only [List.countP_cons_of_pos, id, List.length_cons] at h
      simp only [List.takeWhile_cons, id, if_true, List.length_cons]
      rw [ih (by omega)]

/-- what a round of the law hands on -/
structure FillAt (w : World) (b a N k : Nat) (i : Value) (wr : World) (l : List Bool) : Prop where
  i : i = .int .i64 k
  le : k ≤ N
  len : l.length = N
  map : IsMap wr b a l
  ks : trues l = k
  below : Below w.heap.size w wr

theorem set_getD (l : List Bool) (q : Nat) (h : q < l.length) : (l.set q true).getD q false = true := by simp [h]

set_option maxHeartbeats 1600000 in
theorem fill_walk (n : Int) (A : Option Addr) (xs : List Int) (cap : Nat) (w : World) (hr : SlRead w A (xs.map (.int .i64))) (hx : ∀ x ∈ xs, x ≤ 9223372036854775807) (hcap : xs.length ≤ 9223372036854775807) :
    Calls Try.prog 3 #[.int .i64 n, .slice A xs.length cap] w fun e w' => e = .returned (.bool true) ∧ Below w.heap.size w w' := by
  obtain ⟨N, hN, hN40⟩ := exists_mod n 40 (by omega)
  by_cases hbig : xs.length > 40
  · clear hN
    go_enter Try.func3, Try.ntmps3
    go_wp2_with (go_at_call 5; refine (first_any _).mono ?_; rintro e w1 ⟨rfl, hb⟩)
    go_ret
    exact ⟨rfl, by assumption⟩
  have HN := Lib.hid hN; clear hN
  go_enter Try.func3, Try.ntmps3
  go_wp2_with fail
  refine (first_any _).mono ?_
  rintro e w1 ⟨rfl, hb1⟩
  go_wp2_with fail
  refine (number_nat _ _ N _ (by omega) HN.out).mono ?_
  rintro e w' ⟨rfl, m1, rfl⟩
  go_wp2_with fail
  refine (new_any _ _ (by omega)).mono ?_
  rintro e w2 ⟨b, a, rfl, h2, hb2, ha2, hbb2⟩
  have hs1 := hb1.size
  simp only [World.heap_drewN] at ha2 hbb2
  have B2 := (hb1.trans (Below.drewNr m1)).trans (hb2.mono (by simpa using hs1))
  have hn0 : (List.replicate N false).length = N := by simp
  have ht0 : trues (List.replicate N false) = 0 := by simp [trues, List.countP_replicate]
  go_wp2_with fail
  go_loopg [7] (N + 1) (fun g i wr => ∃ k l, k + g = N + 1 ∧ FillAt w b a N k i wr l)
  case atStart => exact ⟨0, _, by omega, rfl, by omega, hn0, h2, ht0, B2⟩
  case round =>
    obtain ⟨k, l, hg, rfl, hkN, hl, hm, hks, hbw⟩ := hrel
    have hgk : gk - 1 < gk := by omega
    have hfr := front_le_trues l
    by_cases hlt : k < N
    · have hmod : 0 < xs.length → k % xs.length < xs.length := fun h => Nat.mod_lt _ h
      have hfrom : (xs.length = 0 ∧ xs = []) ∨ (0 < xs.length ∧ ∃ fb fo z, A = some ⟨fb, fo, none⟩ ∧ z ≤ 9223372036854775807 ∧ wr.cell? ⟨fb, fo + k % xs.length, none⟩ = some (.int .i64 z)) := by
        rcases Nat.eq_zero_or_pos xs.length with h | h
        · exact Or.inl ⟨h, List.eq_nil_of_length_eq_zero h⟩
        · right
          obtain ⟨fb, fo, rfl, _, hc⟩ := hr.below hbw (by simpa using h)
          refine ⟨h, fb, fo, xs[k % xs.length]'(hmod h), rfl, hx _ (List.getElem_mem _), hc _ _ (by simp [hmod h])⟩
      rcases hfrom with ⟨hz, hxs⟩ | ⟨hz, fb, fo, z, rfl, hzle, hzc⟩
      focus
        subst hxs
        simp only [List.length_nil]
        go_wp2_with fail
        refine (next_ex b a l _ _ hm (by omega) (by omega)).mono ?_
      rotate_left 1
      focus
        have hlne : ((xs.length : Int) == 0) = false := by simp only [beq_eq_false_iff_ne]; omega
        go_wp2_with fail
        refine (next_ex b a l _ _ hm (by omega) (by omega)).mono ?_
      all_goals
        rintro e w' ⟨q, rfl, hq, hqf, m2, rfl⟩
        have hql : (q : Int) < N := by omega
        have HQ := Lib.hid (And.intro hq hqf); clear hq hqf
        go_wp2_with fail
        refine (has_any b a l q _ (hm.drewN _)).mono ?_
        rintro e w' ⟨rfl, m3, rfl⟩
        obtain ⟨hq, hqf⟩ := HQ.out
        have hqv : (decide (0 ≤ (q : Int)) && l.getD (q : Int).toNat false) = false := by simp only [Int.toNat_natCast, hqf, Bool.and_false]
        simp only [hqv]
        clear hq hqf
        go_wp2_with fail
        refine (set_any b a l q _ (hm.drewN _)).mono ?_
        intro e w3 h3
        obtain ⟨hq, hqf⟩ := HQ.out
        obtain ⟨rfl, h3, hb3⟩ := h3.yes hq hqf
        have B3 := (hbw.trans (Below.drewNr _)).trans (hb3 w.heap.size (by omega) (by omega))
        have htr := Map.set_trues l q hq hqf
        have hgd := set_getD l q hq
        have hsl : (l.set q true).length = l.length := by simp
        generalize l.set q true = l' at *
        clear hb3 hq hqf HQ
        have hqv : (decide (0 ≤ (q : Int)) && l'.getD (q : Int).toNat false) = true := by simp only [Int.toNat_natCast, hgd]; simp
        have HH := Lib.hid (And.intro hqv (And.intro htr hsl)); clear hqv htr hsl hgd
        go_wp2_with fail
        refine (has_any b a l' q _ h3).mono ?_
        rintro e w' ⟨rfl, m4, rfl⟩
        rw [HH.out.1]
        go_wp2_with fail
        refine (count_any b a l' _ (h3.drewN _)).mono ?_
        rintro e w' ⟨rfl, m5, rfl⟩
        rw [HH.out.2.1]
        have hfr2 := front_le_trues l'
        rw [HH.out.2.1] at hfr2
        go_wp2_with fail
        refine (front_any b a l' _ (h3.drewN _)).mono ?_
        rintro e w' ⟨rfl, m6, rfl⟩
        go_wp2_with fail
        go_roundg (gk - 1)
        case measure => exact hgk
        case rel => exact ⟨trues l + 1, l', by omega, by go_num, by omega, by rw [HH.out.2.2]; exact hl, h3.drewN _, HH.out.2.1, B3.trans (Below.drewNr _)⟩
    · have hkN2 : trues l = N := by omega
      have hfull : trues l = l.length := by omega
      have hff := front_full l hfull
      have HH := Lib.hid (And.intro hfull (And.intro hl hff))
      clear hfull hl hff
      go_wp2_with fail
      refine (next_full _ _ _ _ _ hm HH.out.1).mono ?_
      rintro e w' ⟨rfl, m2, rfl⟩
      go_wp2_with fail
      refine (front_any b a l _ (hm.drewN _)).mono ?_
      rintro e w' ⟨rfl, m3, rfl⟩
      rw [HH.out.2.2, HH.out.2.1]
      go_wp2_with fail
      refine (set_any b a l N _ (hm.drewN _)).mono ?_
      intro e w3 h3
      obtain ⟨rfl, h3, hb3⟩ := h3.no (by rintro ⟨_, h, _⟩; rw [HH.out.2.1] at h; omega)
      have B3 := (hbw.trans (Below.drewNr _)).trans (hb3 w.heap.size (by omega) (by omega))
      clear hb3
      go_wp2_with fail
      refine (set_any b a l _ _ h3).mono ?_
      intro e w4 h4
      obtain ⟨rfl, h4, hb4⟩ := h4.no (by rintro ⟨h, _, _⟩; omega)
      have B4 := B3.trans (hb4 w.heap.size (by omega) (by omega))
      clear hb4
      go_wp2_with fail
      refine (has_any b a l N _ h4).mono ?_
      rintro e w' ⟨rfl, m4, rfl⟩
      have hv : (decide (0 ≤ (N : Int)) && l.getD (N : Int).toNat false) = false := by simp [← HH.out.2.1]
      rw [hv]
      clear hv
      go_wp2_with fail
      go_ret
      exact ⟨rfl, B4.trans (Below.drewNr _)⟩
end Go.Proofs.Ytplennobcbmccaa
