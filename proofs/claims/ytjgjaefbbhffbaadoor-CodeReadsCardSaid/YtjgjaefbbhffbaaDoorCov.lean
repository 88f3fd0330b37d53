import Derived.Test.YtjgjaefbbhffbaaDoorCou
/-
  CodeReads' walk.
-/
namespace Go.Proofs.YtjgjaefbbhffbaaDoor
open Go.RowKit

theorem byts_wf {xs : List Int} (h : ∀ x ∈ xs, (Lit.int .u8 x).wf = true) : Byts xs := fun x hx => by
  have := h x hx
  simp [Lit.wf, IntKind.min, IntKind.max, IntKind.bits, IntKind.signed] at this
  omega
theorem PR.later {Gd X Nb len : Nat} {A0 : Option Addr} {xs : List Int} {c0 n : Nat} {o : Option (Nat × Int)} {W W' : World} (h : PR Gd X Nb len A0 xs c0 o W) (ht : Turn (fun q => n ≤ q) W W') (hG : Gd < n) (hX : X < n) (hN : Nb < n) (hA : 0 < xs.length → ∀ a, A0 = some a → a.block < n) : PR Gd X Nb len A0 xs c0 o W' := by
  obtain ⟨h1, N, p, cc, pl, z, h2, h3, h4⟩ := h
  exact ⟨h1.turn ht (by omega), N, p, cc, pl, z, h2.turn ht (by omega), h3.turn0 ht (by omega) (fun h0 a ha => by have := hA h0 a ha; omega), h4⟩
theorem AtAt.turnX {X bt p c : Nat} {A : Option Addr} {xs : List Int} {z : Int} {v : Value} {W W' : World} (h : AtAt bt z v W) (hd : RdS W X A xs p c) (ht : Turn (· = X) W W') : AtAt bt z v W' := by
  have hne : ¬ bt = X := fun e => by
    have h1 := h.p
    rw [e, hd.c0] at h1
    cases h1
  exact ⟨(ht.cell (cell_lt h.p) hne).trans h.p, (ht.cell (cell_lt h.p) hne).trans h.e⟩
set_option maxRecDepth 100000 in
set_option maxHeartbeats 6400000 in
theorem reads_walk (E : Nat → Addr) (A0 : Option Addr) (xs : List Int) (ca : Nat) (AL : Option Addr) (len cap : Nat) (g : Nat → Nat → Int) (w : World) (hA : SlRead w A0 (ints .u8 xs)) (hca : xs.length ≤ ca) (hxb : Byts xs) (hfi : FiRead w AL len 2 .i64 g) (hcap : len ≤ maxLen) (hxcap : xs.length ≤ maxLen) (hE : ErrsAt E w) :
    Calls Tryd.prog 4 #[.slice A0 xs.length ca, .slice AL len cap] w fun e w' => e = .returned (.bool true) ∧ Below w.heap.size w w' := by
  unfold maxLen at hcap hxcap
  have hAlt : 0 < xs.length → ∀ a, A0 = some a → a.block < w.heap.size := fun h0 a ha => by
    obtain ⟨b, o, e, hlt, _⟩ := hA (by simpa using h0)
    rw [e] at ha; cases ha; exact hlt
  have hLlt : 0 < len → ∀ a, AL = some a → a.block < w.heap.size := fun h0 a ha => by
    obtain ⟨b, o, e, hlt, _⟩ := hfi h0
    rw [e] at ha; cases ha; exact hlt
  go_enter Tryd.func4, Tryd.ntmps4
  go_upto_region 1 with (fail)
  refine wp_world (fun V => Below w.heap.size w V ∧ VarS V w.heap.size (.slice AL len cap)) ⟨below_alc w _, ⟨by simp [go_sem], by simp [go_sem]⟩⟩ ?_
  rintro W0 ⟨hb0, hL0⟩
  go_wp2_with fail
  refine (first_any W0).mono ?_
  rintro e W1 ⟨rfl, hb⟩
  have hL1 := hL0.below hb
  have hb1 := hb0.trans (hb.mono hb0.size)
  have cL := hL1.c
  clear hL0 hb hb0
  by_cases hl : xs.length ≤ 100
  case neg =>
    go_wp2_with fail
    go_ret
    exact ⟨rfl, hb1⟩
  by_cases hll : len ≤ 30
  case neg =>
    go_wp2_with fail
    go_ret
    exact ⟨rfl, hb1⟩
  go_upto_region 9 with (fail)
  obtain ⟨X, hX⟩ : ∃ X, X = W1.heap.size := ⟨_, rfl⟩
  obtain ⟨Xc, hXc⟩ : ∃ Y, Y = X + 1 := ⟨_, rfl⟩
  obtain ⟨Gd, hGd⟩ : ∃ Y, Y = Xc + 1 := ⟨_, rfl⟩
  obtain ⟨Nb, hNb⟩ : ∃ Y, Y = Gd + 1 := ⟨_, rfl⟩
  have hw1 := hL1.lt
  refine wp_world (fun V => Below w.heap.size w V ∧ VarS V w.heap.size (.slice AL len cap) ∧ DrS V X A0 xs 0 ca 0 false 0 ∧ VarS V Xc (.pointer (some ⟨X, 0, none⟩)) ∧ VarS V Gd (.bool true) ∧ VarS V Nb (.int .i64 0) ∧ V.heap.size = X + 4) ?_ ?_
  · have hsz := hb1.size
    subst hNb hGd hXc hX
    have hbb : Below W1.heap.size W1 ((((W1.alloc (.cells #[.slice A0 xs.length ca, .int .i64 0, .int .i64 0, .bool false, .int .i64 0] 44)).alloc (.cells #[.pointer (some ⟨W1.heap.size, 0, none⟩)] 40)).alloc (.cells #[.bool true] 4)).alloc (.cells #[.int .i64 0] 3)) := (((below_alc W1 _).alloc (by simp) _).alloc (by simp; omega) _).alloc (by simp; omega) _
    have hbw := hb1.trans (hbb.mono hsz)
    have hAr := hA.below hbw
    have hLv := hL1.below hbb
    refine ⟨hbw, hLv, ⟨⟨by simp [go_sem], by simp [go_sem], by simp [go_sem], hAr, fun h0 a ha => by have := hAlt h0 a ha; omega, Nat.zero_le _, hca⟩, ?_, fun o => by simp [go_sem]⟩, ⟨by simp [go_sem], by simp [go_sem]⟩, ⟨by simp [go_sem], by simp [go_sem]⟩, ⟨by simp [go_sem], by simp [go_sem]⟩, by simp⟩
    intro j v hv
    rcases j with _ | _ | _ | j
    · simp [frow] at hv; subst hv; simp [go_sem]
    · simp [frow] at hv; subst hv; simp [go_sem]
    · simp [frow] at hv; subst hv; simp [go_sem]
    · simp [frow] at hv
  rintro V ⟨hbV, hLV, hDV, hXV, hGV, hNV, hsV⟩
  rw [← hX, ← hXc, ← hGd, ← hNb]
  have hnum : w.heap.size < X ∧ X < Xc ∧ Xc < Gd ∧ Gd < Nb ∧ Nb < V.heap.size := by omega
  clear hX hXc hGd hNb hw1 hL1 hb1 cL hsV
  have hEV := hE.below hbV
  have hTr : ¬ (4 = Gd ∨ 4 = X ∨ 4 = Nb) := by have : 4 < w.heap.size := cell_lt (hE.c 3 (by decide)); omega
  go_wp2_with fail
  refine (lread_any E 22 #[.pointer (some ⟨w.heap.size, 0, none⟩), .pointer (some ⟨Gd, 0, none⟩), .pointer (some ⟨Xc, 0, none⟩), .pointer (some ⟨Nb, 0, none⟩)] A0 xs ca V (fun q => q = Gd ∨ q = X ∨ q = Nb) (fun o V => PR Gd X Nb len A0 xs ca o V) (fun _ _ => by kernel_rfl) (hA.below hbV) (by omega) (fun _ => hEV.c 3 (by decide)) hTr (fun q hq => by omega) (fun o W W' hp _ ht => hp.later ht (by omega) (by omega) (by omega) (fun h0 a ha => by have := hAlt h0 a ha; omega)) ?_).mono ?_
  · intro w1 R A1 c1 hb1 hR hRV hA1
    have hbw := hbV.trans (hb1.mono hbV.size)
    refine reads1_any (g := g) (A0 := A0) (c0 := ca) ⟨hLV.below hb1, hfi.below hbw, hGV.below hb1, hXV.below hb1, hNV.below hb1, hR, hDV.below hb1, Turn.of_below (Below.refl _ _)⟩ ⟨by omega, by omega, by omega, by omega, by omega, by omega, by omega, by omega, by omega, by omega, by omega, by omega, by omega, by omega, fun a ha => by have := hA1 a ha; omega, fun h0 a ha => by have := hAlt h0 a ha; omega, fun h0 a ha => by have := hLlt h0 a ha; omega⟩ (fun U hU => hE.below (hU.below hbw hbw.size (fun q hq => by unfold FR at hq; omega))) hxb hl hll
  rintro e W4 ⟨u, rfl, o, htell, hp, ht⟩
  have hb4 : Below w.heap.size w W4 := ht.below hbV hbV.size (fun q hq => by omega)
  have hE4 := hE.below hb4
  have cL := (hLV.turn ht (by omega)).c
  have cX := (hXV.turn ht (by omega)).c
  have lX := cell_lt cX
  obtain ⟨hG4, N, p, cc, pl, z, hN4, hD4, hcase⟩ := hp
  have cG := hG4.c
  have cN := hN4.c
  clear hLV hDV hXV hGV hNV hEV ht hbV
  rcases hcase with ⟨hNl, rfl, rfl, rfl, rfl⟩ | ⟨hNl, k, hk, rfl, rfl, rfl⟩
  · rw [hNl] at cN
    clear hNl hN4 hG4
    by_cases hp : p < xs.length
    · rw [if_pos hp] at htell
      obtain ⟨_, bt, rfl, hat⟩ := htell
      go_wp2_with fail
      refine (fine_yes hD4 rfl).mono ?_
      rintro e W5 ⟨rfl, hb5⟩
      have hD5 := hD4.below hb5
      have hb5w := hb4.trans (hb5.mono hb4.size)
      have cX := (hb5.cell (p := ⟨Xc, 0, none⟩) lX).trans cX
      have hat5 := hat.below hb5
      clear hD4 hb5 cG cN cL hat
      go_wp2_with fail
      refine (over_trail hD5 hp).mono ?_
      rintro e W6 ⟨rfl, ht6⟩
      have hb6 : Below w.heap.size w W6 := ht6.below hb5w hb5w.size (fun q hq => by omega)
      have hE6 := hE.below hb6
      have hat6 := hat5.turnX hD5.r ht6
      have HS := same_at E bt 3 (p : Int) (by decide) W6 hE6 hat6
      clear hD5 hb5w ht6 cX hE6 hat5 hat6
      go_wp2_with fail
      refine HS.mono ?_
      rintro e W7 ⟨rfl, hb7⟩
      have HF := Lib.hid (hb6.trans (hb7.mono hb6.size))
      go_wp2_with fail
      go_ret
      exact ⟨rfl, HF.out⟩
    · rw [if_neg hp] at htell
      obtain rfl : u = .nilIface := htell
      go_wp2_with fail
      refine (fine_yes hD4 rfl).mono ?_
      rintro e W5 ⟨rfl, hb5⟩
      have hD5 := hD4.below hb5
      have hb5w := hb4.trans (hb5.mono hb4.size)
      have cX := (hb5.cell (p := ⟨Xc, 0, none⟩) lX).trans cX
      clear hD4 hb5 cG cN cL
      go_wp2_with fail
      refine (over_end hD5 (by omega)).mono ?_
      rintro e W6 ⟨rfl, ht6⟩
      have hb6 : Below w.heap.size w W6 := ht6.below hb5w hb5w.size (fun q hq => by omega)
      have hE6 := hE.below hb6
      have HS := same_any E .nilIface 0 0 (.inl ⟨rfl, rfl⟩) W6 hE6
      clear hD5 hb5w ht6 cX hE6
      go_wp2_with fail
      refine HS.mono ?_
      rintro e W7 ⟨rfl, hb7⟩
      have HF := Lib.hid (hb6.trans (hb7.mono hb6.size))
      go_wp2_with fail
      go_ret
      exact ⟨rfl, HF.out⟩
  · have hq : ((N : Int) == (len : Int)) = false := by simp; omega
    clear hNl hN4 hG4
    obtain ⟨_, bt, rfl, hat⟩ := htell
    have hk0 : (101 + (k : Int)) ≠ 0 := by omega
    go_wp2_with fail
    refine (fine_no hD4 hk0).mono ?_
    rintro e W5 ⟨rfl, hb5⟩
    have hD5 := hD4.below hb5
    have hb5w := hb4.trans (hb5.mono hb4.size)
    have cX := (hb5.cell (p := ⟨Xc, 0, none⟩) lX).trans cX
    have hat5 := hat.below hb5
    clear hD4 hb5 cG cN cL hat
    go_wp2_with fail
    refine (over_bad hD5 hk0).mono ?_
    rintro e W6 ⟨rfl, ht6⟩
    have hb6 : Below w.heap.size w W6 := ht6.below hb5w hb5w.size (fun q hq => by omega)
    have hE6 := hE.below hb6
    have hat6 := hat5.turnX hD5.r ht6
    have HS := same_at E bt k z hk W6 hE6 hat6
    clear hD5 hb5w ht6 cX hE6 hat5 hat6
    go_wp2_with fail
    refine HS.mono ?_
    rintro e W7 ⟨rfl, hb7⟩
    have HF := Lib.hid (hb6.trans (hb7.mono hb6.size))
    go_wp2_with fail
    go_ret
    exact ⟨rfl, HF.out⟩
end Go.Proofs.YtjgjaefbbhffbaaDoor
