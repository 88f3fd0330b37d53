import Derived.Test.YtplennobcbmccaaFill
namespace Go.Proofs.Ytplennobcbmccaa
open Go.RowKit

theorem front_next (l : List Bool) (h : trues l < l.length) : NextAt l 0 (front l) := by
  have hlt : front l < l.length := by
    have := front_le_trues l
    omega
  refine ⟨hlt, ?_, fun j hj => ?_⟩
  · rw [Nat.zero_add, Nat.mod_eq_of_lt hlt]
    exact front_no l hlt
  · rw [Nat.zero_add, Nat.mod_eq_of_lt (by omega)]
    exact front_yes l j hj

theorem next_zero (b a : Nat) (l : List Bool) (s : Int) (w : World) (h : IsMap w b a l) (ht : trues l < l.length) (hs : s ≤ 0) :
    Quiets Try.prog 8 #[.pointer (some ⟨b, 0, none⟩), .int .i64 s] w (.int .i64 (front l : Nat)) := by
  have hz : s.toNat = 0 := by omega
  have hn := front_next l ht
  have := next_at b a l s (front l) w h ht (by rw [hz]; exact hn) (by omega)
  rwa [hz, Nat.zero_add, Nat.mod_eq_of_lt hn.lt] at this

set_option maxHeartbeats 3200000 in
theorem bnext_walk (n f : Int) (A : Option Addr) (xs : List Int) (cap : Nat) (w : World) (hr : SlRead w A (xs.map (.int .i64))) (hcap : xs.length ≤ 9223372036854775807) :
    Calls Try.prog 4 #[.int .i64 n, .slice A xs.length cap, .int .i64 f] w fun e w' => e = .returned (.bool true) ∧ Below w.heap.size w w' := by
  obtain ⟨N, hN, hN30⟩ := exists_mod n 30 (by omega)
  by_cases hbig : xs.length > 60
  · clear hN
    go_enter Try.func4, Try.ntmps4
    go_wp2_with (go_at_call 5; refine (first_any _).mono ?_; rintro e w1 ⟨rfl, hb⟩)
    go_ret
    exact ⟨rfl, by assumption⟩
  have HN := Lib.hid hN; clear hN
  go_enter Try.func4, Try.ntmps4
  go_wp2_with fail
  refine (first_any _).mono ?_
  rintro e w1 ⟨rfl, hb1⟩
  go_wp2_with fail
  refine (number_nat _ _ N _ (by omega) HN.out).mono ?_
  rintro e w' ⟨rfl, m1, rfl⟩
  go_wp2_with fail
  obtain ⟨M, hM⟩ : ∃ M : Nat, (N : Int) + 1 = M := ⟨N + 1, by omega⟩
  rw [hM]
  have hM0 : 0 < M := by omega
  have hM30 : M ≤ 30 := by omega
  clear hM HN hN30
  refine (new_any M _ (by omega)).mono ?_
  rintro e w2 ⟨b, a, rfl, h2, hb2, ha2, hbb2⟩
  have hs1 := hb1.size
  simp only [World.heap_drewN] at ha2 hbb2
  have B2 := (hb1.trans (Below.drewNr m1)).trans (hb2.mono (by simpa using hs1))
  have hn0 : (List.replicate M false).length = M := by simp
  clear hb1 hb2
  go_wp2_with fail
  go_loopg [9] (xs.length + 1) (fun g i wr => ∃ (k : Nat) (l : List Bool), k + g = xs.length + 1 ∧ i = .int .i64 k ∧ k ≤ xs.length ∧ l.length = M ∧ IsMap wr b a l ∧ Below w.heap.size w wr)
  case atStart => exact ⟨0, _, by omega, rfl, by omega, hn0, h2, B2⟩
  clear h2 B2 hn0
  case round =>
    obtain ⟨k, l, hg, rfl, hk, hl, hm, hbw⟩ := hrel
    by_cases hlt : k < xs.length
    · have hgk : gk - 1 < gk := by omega
      obtain ⟨fb, fo, rfl, _, hc⟩ := hr.below hbw (by simp; omega)
      have hc' := hc k _ (by rw [List.getElem?_map, List.getElem?_eq_getElem hlt]; rfl)
      clear hc
      go_wp2_with fail
      refine (number_any _ _ _ (by omega)).mono ?_
      rintro e w' ⟨rfl, m2, rfl⟩
      go_wp2_with fail
      refine (set_any b a l _ _ (hm.drewN _)).mono ?_
      rintro e w3 ⟨rfl, h3, hb3⟩
      have B3 := (hbw.trans (Below.drewNr m2)).trans (hb3 w.heap.size (by omega) (by omega))
      have HL := Lib.hid hl; clear hl hb3
      go_wp2_with fail
      go_roundg (gk - 1)
      case measure => exact hgk
      case rel => exact ⟨k + 1, _, by omega, by go_num, by omega, by split <;> simp [HL.out], h3, B3⟩
    · obtain ⟨F, hF, hFM⟩ := exists_mod f (3 * M) (by omega)
      have HF := Lib.hid hF; clear hF
      have HL := Lib.hid hl; clear hl
      go_wp2_with fail
      refine (number_nat _ _ F _ (by omega) HF.out).mono ?_
      rintro e w' ⟨rfl, m2, rfl⟩
      by_cases hfull : trues l = l.length
      · have hM2 : trues l = M := hfull.trans HL.out
        have HU := Lib.hid (And.intro hfull hM2); clear hfull hM2
        go_wp2_with fail
        refine (next_full _ _ l _ _ (hm.drewN _) HU.out.1).mono ?_
        rintro e w' ⟨rfl, m3, rfl⟩
        go_wp2_with fail
        refine (count_any b a l _ (hm.drewN _)).mono ?_
        rintro e w' ⟨rfl, m4, rfl⟩
        rw [HU.out.2]
        go_wp2_with fail
        refine (next_full _ _ l _ _ (hm.drewN _) HU.out.1).mono ?_
        rintro e w' ⟨rfl, m5, rfl⟩
        go_wp2_with fail
        go_ret
        exact ⟨rfl, hbw.trans (Below.drewNr _)⟩
      · have ht : trues l < l.length := by have := trues_le l; omega
        obtain ⟨d, hd⟩ := exists_next l F ht
        have hfe : ((trues l : Int) == (M : Int)) = false := by
          have := HL.out
          simp only [beq_eq_false_iff_ne]; omega
        have hlne : ((M : Int) == 0) = false := by simp only [beq_eq_false_iff_ne]; omega
        obtain ⟨q, hq⟩ : ∃ q, q = (F + d) % l.length := ⟨_, rfl⟩
        have hqM : q < M := by rw [hq, HL.out]; exact Nat.mod_lt _ hM0
        have hqf : l.getD q false = false := by
          have h1 := hd.no
          rw [← hq] at h1
          have hql : q < l.length := by rw [HL.out]; exact hqM
          simp [hql] at h1 ⊢
          exact h1
        have HQ := Lib.hid (And.intro hq hqf); clear hq hqf
        have hd1 : decide ((q : Int) < 0) = false := by simp
        have hd2 : decide (M ≤ q) = false := by simp; omega
        have HT := Lib.hid (And.intro ht hd); clear ht hd hfull
        go_wp2_with fail
        refine (next_at b a l (F : Int) d _ (hm.drewN _) HT.out.1 HT.out.2 (by omega)).mono ?_
        rintro e w' ⟨rfl, m3, rfl⟩
        simp only [Int.toNat_natCast]
        rw [← HQ.out.1]
        go_wp2_with fail
        refine (count_any b a l _ (hm.drewN _)).mono ?_
        rintro e w' ⟨rfl, m4, rfl⟩
        go_wp2_with fail
        refine (has_any b a l q _ (hm.drewN _)).mono ?_
        rintro e w' ⟨rfl, m5, rfl⟩
        rw [show (decide (0 ≤ (q : Int)) && l.getD (q : Int).toNat false) = false by simp only [Int.toNat_natCast, HQ.out.2, Bool.and_false]]
        go_wp2_with fail
        go_loopg [11] (d + 1) (fun g i wr' => ∃ (j r m : Nat), j + g = d + 1 ∧ j ≤ d ∧ r = (F + j) % M ∧ i = .int .i64 r ∧ wr' = wr.drewN m)
        case atStart => exact ⟨0, F % M, _, by omega, by omega, rfl, by simp, rfl⟩
        case round =>
          obtain ⟨j, r, m, hg, hj, hr', rfl, rfl⟩ := hrel
          have hrM : r < M := by rw [hr']; exact Nat.mod_lt _ hM0
          by_cases hjd : j = d
          · have hrq : r = q := by rw [hr', HQ.out.1, hjd, HL.out]
            subst hrq
            clear hr' hjd
            go_wp2_with fail
            refine (next_zero b a l _ _ (hm.drewN _) HT.out.1 (by omega)).mono ?_
            rintro e w' ⟨rfl, m6, rfl⟩
            go_wp2_with fail
            refine (next_zero b a l _ _ (hm.drewN _) HT.out.1 (by omega)).mono ?_
            rintro e w' ⟨rfl, m7, rfl⟩
            go_wp2_with fail
            refine (next_zero b a l _ _ (hm.drewN _) HT.out.1 (by omega)).mono ?_
            rintro e w' ⟨rfl, m8, rfl⟩
            go_wp2_with fail
            refine (front_any b a l _ (hm.drewN _)).mono ?_
            rintro e w' ⟨rfl, m9, rfl⟩
            go_wp2_with fail
            go_ret
            exact ⟨rfl, hbw.trans (Below.drewNr _)⟩
          · have hyes := HT.out.2.yes j (by omega)
            rw [HL.out, ← hr'] at hyes
            have hrq : ((r : Int) != (q : Int)) = true := by
              simp only [bne_iff_ne, ne_eq, Int.natCast_inj]
              intro e
              rw [e, HQ.out.2] at hyes
              exact absurd hyes (by simp)
            have hgk2 : gk - 1 < gk := by omega
            have hjd2 : j + 1 ≤ d := by omega
            have HS := Lib.hid (And.intro (mod_step F j M r hr') hyes)
            clear hr' hjd hyes
            go_wp2_with fail
            refine (has_any b a l r _ (hm.drewN _)).mono ?_
            rintro e w' ⟨rfl, m5, rfl⟩
            rw [show (decide (0 ≤ (r : Int)) && l.getD (r : Int).toNat false) = true by simp only [Int.toNat_natCast, HS.out.2]; simp]
            go_wp2_with fail
            go_roundg (gk - 1)
            case measure => exact hgk2
            case rel => exact ⟨j + 1, (F + (j + 1)) % M, _, by omega, by omega, rfl, by rw [HS.out.1], rfl⟩
end Go.Proofs.Ytplennobcbmccaa
