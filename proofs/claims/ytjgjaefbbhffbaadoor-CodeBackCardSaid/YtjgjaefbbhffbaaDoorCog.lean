import Derived.Test.YtjgjaefbbhffbaaDoorCof
import Derived.Test.YtjgjaefbbhffbaaDoorOfi
/-
  CodeWrites' walk.
-/
namespace Go.Proofs.YtjgjaefbbhffbaaDoor
open Go.RowKit

/-- two Writers side by side -/
structure WP (w : World) (W X : Nat) (xs ys : List Int) (v u : Value) (V : World) : Prop where
  a : WrS V w.heap.size W xs v
  b : WrS V w.heap.size X ys u
  ap : ∀ k, WFoot W v k → ¬ WFoot X u k
  bel : Below w.heap.size w V
theorem WP.n1 {w : World} {W X : Nat} {xs ys : List Int} {v u : Value} {V : World} (h : WP w W X xs ys v u V) : w.heap.size ≤ V.heap.size := h.bel.size
theorem WP.aparA {w : World} {W X : Nat} {xs ys : List Int} {v u : Value} {V : World} (h : WP w W X xs ys v u V) {k : Nat} (hk : k < w.heap.size) : ¬ WFoot W v k := fun hf => by have := (h.a.ltF hf).1; omega
theorem WP.aparB {w : World} {W X : Nat} {xs ys : List Int} {v u : Value} {V : World} (h : WP w W X xs ys v u V) {k : Nat} (hk : k < w.heap.size) : ¬ WFoot X u k := fun hf => by have := (h.b.ltF hf).1; omega
theorem WP.below {w : World} {W X : Nat} {xs ys : List Int} {v u : Value} {V V' : World} (h : WP w W X xs ys v u V) (hb : Below V.heap.size V V') : WP w W X xs ys v u V' :=
  ⟨h.a.below hb, h.b.below hb, h.ap, h.bel.trans (hb.mono h.n1)⟩
theorem WP.left {w : World} {W X : Nat} {xs ys zs : List Int} {v u : Value} {V V' : World} {e : Ending} (h : WP w W X xs ys v u V) (hp : PutP V w.heap.size W zs v e V') : e = .returned (.tuple #[]) ∧ ∃ v', WP w W X zs ys v' u V' := by
  obtain ⟨he, v', h1, h2, h3⟩ := hp
  refine ⟨he, v', h1, h.b.turn h2 (fun k hk hf => h.ap k hf hk), fun k hk hx => ?_, h2.below h.bel h.n1 (fun q hq => (h.a.ltF hq).1)⟩
  rcases hk with rfl | hk
  · exact h.ap k (.inl rfl) hx
  · rcases h3 with h3 | ⟨g, h3, hg⟩
    · exact h.ap k (.inr (h3 ▸ hk)) hx
    · rw [h3] at hk; cases hk; have := (h.b.ltF hx).2; omega
theorem WP.swap {w : World} {W X : Nat} {xs ys : List Int} {v u : Value} {V : World} (h : WP w W X xs ys v u V) : WP w X W ys xs u v V := ⟨h.b, h.a, fun k h1 h2 => h.ap k h2 h1, h.bel⟩
theorem WP.right {w : World} {W X : Nat} {xs ys zs : List Int} {v u : Value} {V V' : World} {e : Ending} (h : WP w W X xs ys v u V) (hp : PutP V w.heap.size X zs u e V') : e = .returned (.tuple #[]) ∧ ∃ u', WP w W X xs zs v u' V' := by
  obtain ⟨he, u', h2⟩ := h.swap.left hp
  exact ⟨he, u', h2.swap⟩
theorem fi2_cell {w : World} {b o len k : Nat} {g : Nat → Nat → Int} (h : FiRead w (some ⟨b, o, none⟩) len 2 .i64 g) (hk : k < len) (j : Nat) (hj : j < 2) : w.cell? ⟨b, o + k * 2 + j, none⟩ = some (.int .i64 (g k j)) := by
  obtain ⟨b', o', e, _, hc⟩ := h (by omega)
  simp only [Option.some.injEq, Addr.mk.injEq] at e
  obtain ⟨rfl, rfl, _⟩ := e
  rw [Nat.add_assoc]
  exact hc k j hk hj
theorem idx_doC (b o n c i : Nat) (hi : i < n) (w : World) : (Instr.indexAt 22 (.slice (some ⟨b, o, none⟩) n c) (.int .i64 (i : Int))).run Tryd.prog w = .ok (.pointer (some ⟨b, o + i * 2, none⟩)) w :=
  idx_slice 22 32 2 Tryd.underlying22 (fun w => by kernel_rfl) b o n c i hi w
theorem num_lit (x n z : Int) (w : World) (hn : 0 < n ∧ n ≤ 4611686018427387904) (h : x % n = z) : Quiets Tryd.prog 10 #[.int .i64 x, .int .i64 n] w (.int .i64 z) := by
  have := number_any x n w hn
  rwa [h] at this
theorem same_eq (A B : Option Addr) (xs : List Int) (ca cb : Nat) (w : World) (hA : SlRead w A (ints .u8 xs)) (hB : SlRead w B (ints .u8 xs)) (hx : xs.length ≤ 100000000) :
    Quiets Tryd.prog 19 #[.slice A xs.length ca, .slice B xs.length cb] w (.bool true) := by
  have h := sameBytes_any A B xs xs ca cb w hA hB (by omega) (by omega)
  rw [show decide (xs = xs) = true by simp] at h
  exact h

set_option maxRecDepth 100000 in
set_option maxHeartbeats 3200000 in
theorem writes_walk (A Ab : Option Addr) (len cap : Nat) (g : Nat → Nat → Int) (ys : List Int) (cb : Nat) (w : World) (hl0 : FiRead w A len 2 .i64 g) (hy0 : SlRead w Ab (ints .u8 ys)) (hcap : len ≤ maxLen) (hycap : ys.length ≤ maxLen) :
    Calls Tryd.prog 3 #[.slice A len cap, .slice Ab ys.length cb] w fun e w' => e = .returned (.bool true) ∧ Below w.heap.size w w' := by
  unfold maxLen at hcap hycap
  go_enter Tryd.func3, Tryd.ntmps3
  go_wp2_with fail
  refine (first_any w).mono ?_
  rintro e W0 ⟨rfl, hb0⟩
  by_cases hL : len ≤ 40
  case neg =>
    go_wp2_with fail
    go_ret
    exact ⟨rfl, hb0⟩
  by_cases hY : ys.length ≤ 60
  case neg =>
    go_wp2_with fail
    go_ret
    exact ⟨rfl, hb0⟩
  go_upto_region 8 with (fail)
  obtain ⟨W, hW⟩ : ∃ W, W = W0.heap.size := ⟨_, rfl⟩
  obtain ⟨X, hX⟩ : ∃ X, X = W0.heap.size + 1 := ⟨_, rfl⟩
  refine wp_world (fun V => WP w W X [] [] (.slice none 0 0) (.slice none 0 0) V) ?_ ?_
  · have hs := hb0.size
    refine ⟨⟨by subst hW; simp [go_sem], by subst hW; simp [go_sem], World.ownsRow_nil _ _ _ _, by simp [Value.ownBlock], by omega⟩, ⟨by subst hX; simp [go_sem], by subst hX; simp [go_sem], World.ownsRow_nil _ _ _ _, by simp [Value.ownBlock], by omega⟩, ?_, (hb0.alloc hs _).alloc (by simp; omega) _⟩
    rintro k (rfl | hk) (hx | hx)
    · omega
    · cases hx
    · cases hk
    · cases hk
  intro V0 hV0
  rw [← hX, ← hW]
  have hab : ∀ a, Ab = some a → 0 < ys.length → a.block < w.heap.size := fun a ha h0 => by
    obtain ⟨b, o, e, hlt, _⟩ := hy0 (by simpa using h0)
    rw [e] at ha; cases ha; exact hlt
  clear hW hX hb0
  go_wp2_with fail
  go_loopw [8] (fun i wr => ∃ (k : Nat) (zs : List Int) (v u : Value), k ≤ len ∧ i = .int .i64 (k : Int) ∧ zs.length ≤ 70 * k ∧ WP w W X zs zs v u wr) (fun i _ => len - (intOf i).toNat)
  case atStart => exact ⟨0, [], _, _, Nat.zero_le _, rfl, by simp, hV0⟩
  case round =>
    obtain ⟨k, zs, v, u, hk, rfl, hzl, hw⟩ := hrel
    by_cases hlt : k < len
    · have hl := hl0.below hw.bel
      have hyr := hy0.below hw.bel
      obtain ⟨b, o, rfl, _, _⟩ := hl0 (by omega)
      have hc0 := fi2_cell hl hlt 0 (by omega)
      have hc1 := fi2_cell hl hlt 1 (by omega)
      rw [Nat.add_zero] at hc0
      have hix := fun w => idx_doC b o len cap k hlt w
      have hN : g k 0 % 4 = 0 ∨ g k 0 % 4 = 1 ∨ g k 0 % 4 = 2 ∨ g k 0 % 4 = 3 := by omega
      have hw1 : ∀ m, WP w W X zs zs v u (wr.drewN m) := fun m => hw.below (Below.drewNr m)
      have HW := Lib.hid hw1
      clear hw1
      rcases hN with hN | hN | hN | hN
      · -- U8
        have HN := num_lit (g k 0) 4 0 wr (by omega) hN
        clear hN
        go_wp2_with fail
        refine HN.mono ?_
        rintro e V0 ⟨rfl, m, rfl⟩
        have hw := HW.out m
        have hc1 : (wr.drewN m).cell? ⟨b, o + k * 2 + 1, none⟩ = some (.int .i64 (g k 1)) := hc1
        have hyr := hy0.below hw.bel
        have hl := hl0.below hw.bel
        generalize wr.drewN m = wr at *
        go_wp2_with fail
        refine (wu8_any (g k 1) _ W zs v wr hw.a hw.n1 (by omega)).mono ?_
        rintro e V1 hp1
        obtain ⟨rfl, v2, h1⟩ := hw.left hp1
        clear hp1
        have hlV1 := hl0.below h1.bel
        have hyV1 := hy0.below h1.bel
        have hc1' := fi2_cell hlV1 hlt 1 (by omega)
        go_wp2_with fail
        refine (du8_any (g k 1) _ X zs u V1 h1.b h1.n1 (by omega)).mono ?_
        rintro e U hp2
        obtain ⟨rfl, u2, h2⟩ := h1.right hp2
        clear hp2 h1 hlV1 hyV1 hc1' hc1 hc0 hw
        obtain ⟨zs2, hzs⟩ : ∃ zs2, zs2 = zs ++ [g k 1 % 256] := ⟨_, rfl⟩
        rw [← hzs] at h2
        have hz2 : zs2.length ≤ 100000000 := by rw [hzs]; simp; omega
        have hz3 : zs2.length ≤ 70 * (k + 1) := by rw [hzs]; simp; omega
        clear hzs
        obtain ⟨Au, cu, rfl, hru⟩ := h2.b.read
        have hXc := h2.b.c
        have hXl := h2.b.lt
        have H2 := Lib.hid h2
        go_upto_region 23 with (fail)
        refine wp_region_noPanic ?_
        refine wp_region_held_drew (S := fun V => Below U.heap.size U V) (by kernel_rfl) (Below.drewNr (w := U) 1) (fun hHeld => ?_)
        refine held_move 1 (Go.Operand.tmp 7) (some 80) (.pointer (some ⟨X, 0, none⟩)) (by kernel_rfl) (by kernel_rfl) (by kernel_rfl) (by kernel_rfl) (by kernel_rfl) (fun _ _ _ _ _ h => h) hHeld ?_
        refine held_nil 2 (Go.Operand.tmp 80) (some 81) ⟨X, 0, none⟩ (by kernel_rfl) (by kernel_rfl) (by kernel_rfl) (by kernel_rfl) (by kernel_rfl) (fun _ _ _ _ _ h => h) hHeld ?_
        refine held_field 3 29 (Go.Operand.tmp 81) 0 (some 82) (.pointer (some ⟨X, 0, none⟩)) (.pointer (some ⟨X, 0, none⟩)) (by kernel_rfl) (by kernel_rfl) (fun w => by kernel_rfl) (by kernel_rfl) (by kernel_rfl) (by kernel_rfl) (fun _ _ _ _ _ h => h) hHeld ?_
        refine held_cell 4 23 (Go.Operand.tmp 82) (some 83) (.pointer (some ⟨X, 0, none⟩)) (.slice Au zs2.length cu) (by kernel_rfl) (by kernel_rfl) (fun V hV => load_slice X 0 V 23 (fun w => by kernel_rfl) _ ((hV.cell (p := ⟨X, 0, none⟩) hXl).trans hXc)) (by kernel_rfl) (by kernel_rfl) (by kernel_rfl) (fun _ _ _ _ _ h => h) hHeld ?_
        refine held_call 0 20 #[Go.Operand.tmp 6] #[26] (some 79) #[.pointer (some ⟨W, 0, none⟩)] _ (by kernel_rfl) (by kernel_rfl) (by kernel_rfl) (by kernel_rfl) (wbytes_any _ W zs2 v2 _ (h2.a.below hHeld) hz2) ?_
        rintro e Y1 ⟨vb, rfl, hown, hbY⟩
        obtain ⟨Ab2, cb2, rfl, _⟩ := ownsRow_form hown
        have hrb := SlRead.of_own hown
        refine ⟨_, rfl, hHeld.trans (hbY.mono hHeld.size), fun hHeld => ?_⟩
        refine held_call 5 19 #[Go.Operand.tmp 79, Go.Operand.tmp 83] #[23, 23] (some 84) #[.slice Ab2 zs2.length cb2, .slice Au zs2.length cu] _ (by kernel_rfl) (by kernel_rfl) (by kernel_rfl) (by kernel_rfl) (same_eq Ab2 Au zs2 cb2 cu Y1 hrb (hru.below hHeld) hz2) ?_
        rintro e Y2 ⟨rfl, m, rfl⟩
        refine ⟨_, rfl, hHeld.trans ((Below.drewNr m).mono hHeld.size), fun hHeld => ?_⟩
        refine held_any 6 (Go.Op.unOp Go.UnOp.not 4 (Go.Operand.tmp 84)) (some 85) (.bool false) (by kernel_rfl) (by kernel_rfl) (by kernel_rfl) (by kernel_rfl) (fun _ _ _ _ _ h => h) hHeld (fun oo ho w _ => by unfold execOp; simp only [ho]; kernel_rfl) ?_
        refine wpAnyH_done (by kernel_rfl) ?_ _
        refine NoPanic.normal ?_
        simp only [put_list, List.set_cons_zero, List.set_cons_succ]
        go_wp2_with fail
        go_roundw
        case rel => exact ⟨k + 1, zs2, v2, _, by omega, by go_num, hz3, H2.out.below hHeld⟩
        case measure => simp [intOf]; omega
      · -- U32
        have HN := num_lit (g k 0) 4 1 wr (by omega) hN
        clear hN
        go_wp2_with fail
        refine HN.mono ?_
        rintro e V0 ⟨rfl, m, rfl⟩
        have hw := HW.out m
        have hc1 : (wr.drewN m).cell? ⟨b, o + k * 2 + 1, none⟩ = some (.int .i64 (g k 1)) := hc1
        have hyr := hy0.below hw.bel
        have hl := hl0.below hw.bel
        generalize wr.drewN m = wr at *
        go_wp2_with fail
        refine (wu32_any (g k 1 % 4294967296) _ W zs v wr hw.a hw.n1 (by omega)).mono ?_
        rintro e V1 hp1
        obtain ⟨rfl, v2, h1⟩ := hw.left hp1
        clear hp1
        have hlV1 := hl0.below h1.bel
        have hyV1 := hy0.below h1.bel
        have hc1' := fi2_cell hlV1 hlt 1 (by omega)
        go_wp2_with fail
        refine (du32_any (g k 1 % 4294967296) _ X zs u V1 h1.b h1.n1 (by omega)).mono ?_
        rintro e U hp2
        obtain ⟨rfl, u2, h2⟩ := h1.right hp2
        clear hp2 h1 hlV1 hyV1 hc1' hc1 hc0 hw
        obtain ⟨zs2, hzs⟩ : ∃ zs2, zs2 = zs ++ le4 (g k 1 % 4294967296) := ⟨_, rfl⟩
        rw [← hzs] at h2
        have hz2 : zs2.length ≤ 100000000 := by rw [hzs]; simp [le4]; omega
        have hz3 : zs2.length ≤ 70 * (k + 1) := by rw [hzs]; simp [le4]; omega
        clear hzs
        obtain ⟨Au, cu, rfl, hru⟩ := h2.b.read
        have hXc := h2.b.c
        have hXl := h2.b.lt
        have H2 := Lib.hid h2
        go_upto_region 23 with (fail)
        refine wp_region_noPanic ?_
        refine wp_region_held_drew (S := fun V => Below U.heap.size U V) (by kernel_rfl) (Below.drewNr (w := U) 1) (fun hHeld => ?_)
        refine held_move 1 (Go.Operand.tmp 7) (some 80) (.pointer (some ⟨X, 0, none⟩)) (by kernel_rfl) (by kernel_rfl) (by kernel_rfl) (by kernel_rfl) (by kernel_rfl) (fun _ _ _ _ _ h => h) hHeld ?_
        refine held_nil 2 (Go.Operand.tmp 80) (some 81) ⟨X, 0, none⟩ (by kernel_rfl) (by kernel_rfl) (by kernel_rfl) (by kernel_rfl) (by kernel_rfl) (fun _ _ _ _ _ h => h) hHeld ?_
        refine held_field 3 29 (Go.Operand.tmp 81) 0 (some 82) (.pointer (some ⟨X, 0, none⟩)) (.pointer (some ⟨X, 0, none⟩)) (by kernel_rfl) (by kernel_rfl) (fun w => by kernel_rfl) (by kernel_rfl) (by kernel_rfl) (by kernel_rfl) (fun _ _ _ _ _ h => h) hHeld ?_
        refine held_cell 4 23 (Go.Operand.tmp 82) (some 83) (.pointer (some ⟨X, 0, none⟩)) (.slice Au zs2.length cu) (by kernel_rfl) (by kernel_rfl) (fun V hV => load_slice X 0 V 23 (fun w => by kernel_rfl) _ ((hV.cell (p := ⟨X, 0, none⟩) hXl).trans hXc)) (by kernel_rfl) (by kernel_rfl) (by kernel_rfl) (fun _ _ _ _ _ h => h) hHeld ?_
        refine held_call 0 20 #[Go.Operand.tmp 6] #[26] (some 79) #[.pointer (some ⟨W, 0, none⟩)] _ (by kernel_rfl) (by kernel_rfl) (by kernel_rfl) (by kernel_rfl) (wbytes_any _ W zs2 v2 _ (h2.a.below hHeld) hz2) ?_
        rintro e Y1 ⟨vb, rfl, hown, hbY⟩
        obtain ⟨Ab2, cb2, rfl, _⟩ := ownsRow_form hown
        have hrb := SlRead.of_own hown
        refine ⟨_, rfl, hHeld.trans (hbY.mono hHeld.size), fun hHeld => ?_⟩
        refine held_call 5 19 #[Go.Operand.tmp 79, Go.Operand.tmp 83] #[23, 23] (some 84) #[.slice Ab2 zs2.length cb2, .slice Au zs2.length cu] _ (by kernel_rfl) (by kernel_rfl) (by kernel_rfl) (by kernel_rfl) (same_eq Ab2 Au zs2 cb2 cu Y1 hrb (hru.below hHeld) hz2) ?_
        rintro e Y2 ⟨rfl, m, rfl⟩
        refine ⟨_, rfl, hHeld.trans ((Below.drewNr m).mono hHeld.size), fun hHeld => ?_⟩
        refine held_any 6 (Go.Op.unOp Go.UnOp.not 4 (Go.Operand.tmp 84)) (some 85) (.bool false) (by kernel_rfl) (by kernel_rfl) (by kernel_rfl) (by kernel_rfl) (fun _ _ _ _ _ h => h) hHeld (fun oo ho w _ => by unfold execOp; simp only [ho]; kernel_rfl) ?_
        refine wpAnyH_done (by kernel_rfl) ?_ _
        refine NoPanic.normal ?_
        simp only [put_list, List.set_cons_zero, List.set_cons_succ]
        go_wp2_with fail
        go_roundw
        case rel => exact ⟨k + 1, zs2, v2, _, by omega, by go_num, hz3, H2.out.below hHeld⟩
        case measure => simp [intOf]; omega
      · -- Raw
        have HN := num_lit (g k 0) 4 2 wr (by omega) hN
        clear hN
        go_wp2_with fail
        refine HN.mono ?_
        rintro e V0 ⟨rfl, m, rfl⟩
        have hw := HW.out m
        have hc1 : (wr.drewN m).cell? ⟨b, o + k * 2 + 1, none⟩ = some (.int .i64 (g k 1)) := hc1
        have hyr := hy0.below hw.bel
        have hl := hl0.below hw.bel
        generalize wr.drewN m = wr at *
        go_wp2_with fail
        refine (wraw_any Ab ys cb _ W zs v wr hw.a hw.n1 (by omega) hyr (by omega)).mono ?_
        rintro e V1 hp1
        obtain ⟨rfl, v2, h1⟩ := hw.left hp1
        clear hp1
        have hlV1 := hl0.below h1.bel
        have hyV1 := hy0.below h1.bel
        have hc1' := fi2_cell hlV1 hlt 1 (by omega)
        go_wp2_with fail
        refine (draw_any Ab ys cb _ X zs u V1 h1.b h1.n1 (by omega) hyV1 (by omega)).mono ?_
        rintro e U hp2
        obtain ⟨rfl, u2, h2⟩ := h1.right hp2
        clear hp2 h1 hlV1 hyV1 hc1' hc1 hc0 hw
        obtain ⟨zs2, hzs⟩ : ∃ zs2, zs2 = zs ++ ys := ⟨_, rfl⟩
        rw [← hzs] at h2
        have hz2 : zs2.length ≤ 100000000 := by rw [hzs]; simp; omega
        have hz3 : zs2.length ≤ 70 * (k + 1) := by rw [hzs]; simp; omega
        clear hzs
        obtain ⟨Au, cu, rfl, hru⟩ := h2.b.read
        have hXc := h2.b.c
        have hXl := h2.b.lt
        have H2 := Lib.hid h2
        go_upto_region 23 with (fail)
        refine wp_region_noPanic ?_
        refine wp_region_held_drew (S := fun V => Below U.heap.size U V) (by kernel_rfl) (Below.drewNr (w := U) 1) (fun hHeld => ?_)
        refine held_move 1 (Go.Operand.tmp 7) (some 80) (.pointer (some ⟨X, 0, none⟩)) (by kernel_rfl) (by kernel_rfl) (by kernel_rfl) (by kernel_rfl) (by kernel_rfl) (fun _ _ _ _ _ h => h) hHeld ?_
        refine held_nil 2 (Go.Operand.tmp 80) (some 81) ⟨X, 0, none⟩ (by kernel_rfl) (by kernel_rfl) (by kernel_rfl) (by kernel_rfl) (by kernel_rfl) (fun _ _ _ _ _ h => h) hHeld ?_
        refine held_field 3 29 (Go.Operand.tmp 81) 0 (some 82) (.pointer (some ⟨X, 0, none⟩)) (.pointer (some ⟨X, 0, none⟩)) (by kernel_rfl) (by kernel_rfl) (fun w => by kernel_rfl) (by kernel_rfl) (by kernel_rfl) (by kernel_rfl) (fun _ _ _ _ _ h => h) hHeld ?_
        refine held_cell 4 23 (Go.Operand.tmp 82) (some 83) (.pointer (some ⟨X, 0, none⟩)) (.slice Au zs2.length cu) (by kernel_rfl) (by kernel_rfl) (fun V hV => load_slice X 0 V 23 (fun w => by kernel_rfl) _ ((hV.cell (p := ⟨X, 0, none⟩) hXl).trans hXc)) (by kernel_rfl) (by kernel_rfl) (by kernel_rfl) (fun _ _ _ _ _ h => h) hHeld ?_
        refine held_call 0 20 #[Go.Operand.tmp 6] #[26] (some 79) #[.pointer (some ⟨W, 0, none⟩)] _ (by kernel_rfl) (by kernel_rfl) (by kernel_rfl) (by kernel_rfl) (wbytes_any _ W zs2 v2 _ (h2.a.below hHeld) hz2) ?_
        rintro e Y1 ⟨vb, rfl, hown, hbY⟩
        obtain ⟨Ab2, cb2, rfl, _⟩ := ownsRow_form hown
        have hrb := SlRead.of_own hown
        refine ⟨_, rfl, hHeld.trans (hbY.mono hHeld.size), fun hHeld => ?_⟩
        refine held_call 5 19 #[Go.Operand.tmp 79, Go.Operand.tmp 83] #[23, 23] (some 84) #[.slice Ab2 zs2.length cb2, .slice Au zs2.length cu] _ (by kernel_rfl) (by kernel_rfl) (by kernel_rfl) (by kernel_rfl) (same_eq Ab2 Au zs2 cb2 cu Y1 hrb (hru.below hHeld) hz2) ?_
        rintro e Y2 ⟨rfl, m, rfl⟩
        refine ⟨_, rfl, hHeld.trans ((Below.drewNr m).mono hHeld.size), fun hHeld => ?_⟩
        refine held_any 6 (Go.Op.unOp Go.UnOp.not 4 (Go.Operand.tmp 84)) (some 85) (.bool false) (by kernel_rfl) (by kernel_rfl) (by kernel_rfl) (by kernel_rfl) (fun _ _ _ _ _ h => h) hHeld (fun oo ho w _ => by unfold execOp; simp only [ho]; kernel_rfl) ?_
        refine wpAnyH_done (by kernel_rfl) ?_ _
        refine NoPanic.normal ?_
        simp only [put_list, List.set_cons_zero, List.set_cons_succ]
        go_wp2_with fail
        go_roundw
        case rel => exact ⟨k + 1, zs2, v2, _, by omega, by go_num, hz3, H2.out.below hHeld⟩
        case measure => simp [intOf]; omega
      · -- List
        have HN := num_lit (g k 0) 4 3 wr (by omega) hN
        clear hN
        go_wp2_with fail
        refine HN.mono ?_
        rintro e V0 ⟨rfl, m, rfl⟩
        have hw := HW.out m
        have hc1 : (wr.drewN m).cell? ⟨b, o + k * 2 + 1, none⟩ = some (.int .i64 (g k 1)) := hc1
        have hyr := hy0.below hw.bel
        have hl := hl0.below hw.bel
        generalize wr.drewN m = wr at *
        go_wp2_with fail
        refine (wlist_any Ab ys cb _ W zs v wr hw.a hw.n1 (by omega) hyr (by omega) (fun h0 a ha => hw.aparA (hab a ha h0))).mono ?_
        rintro e V1 hp1
        obtain ⟨rfl, v2, h1⟩ := hw.left hp1
        clear hp1
        have hlV1 := hl0.below h1.bel
        have hyV1 := hy0.below h1.bel
        have hc1' := fi2_cell hlV1 hlt 1 (by omega)
        go_wp2_with fail
        refine (dlist_any Ab ys cb _ X zs u V1 h1.b h1.n1 (by omega) hyV1 (by omega) (fun h0 a ha => h1.aparB (hab a ha h0))).mono ?_
        rintro e U hp2
        obtain ⟨rfl, u2, h2⟩ := h1.right hp2
        clear hp2 h1 hlV1 hyV1 hc1' hc1 hc0 hw
        obtain ⟨zs2, hzs⟩ : ∃ zs2, zs2 = zs ++ lstI ys := ⟨_, rfl⟩
        rw [← hzs] at h2
        have hz2 : zs2.length ≤ 100000000 := by rw [hzs]; simp [lstI, le4]; omega
        have hz3 : zs2.length ≤ 70 * (k + 1) := by rw [hzs]; simp [lstI, le4]; omega
        clear hzs
        obtain ⟨Au, cu, rfl, hru⟩ := h2.b.read
        have hXc := h2.b.c
        have hXl := h2.b.lt
        have H2 := Lib.hid h2
        go_upto_region 23 with (fail)
        refine wp_region_noPanic ?_
        refine wp_region_held_drew (S := fun V => Below U.heap.size U V) (by kernel_rfl) (Below.drewNr (w := U) 1) (fun hHeld => ?_)
        refine held_move 1 (Go.Operand.tmp 7) (some 80) (.pointer (some ⟨X, 0, none⟩)) (by kernel_rfl) (by kernel_rfl) (by kernel_rfl) (by kernel_rfl) (by kernel_rfl) (fun _ _ _ _ _ h => h) hHeld ?_
        refine held_nil 2 (Go.Operand.tmp 80) (some 81) ⟨X, 0, none⟩ (by kernel_rfl) (by kernel_rfl) (by kernel_rfl) (by kernel_rfl) (by kernel_rfl) (fun _ _ _ _ _ h => h) hHeld ?_
        refine held_field 3 29 (Go.Operand.tmp 81) 0 (some 82) (.pointer (some ⟨X, 0, none⟩)) (.pointer (some ⟨X, 0, none⟩)) (by kernel_rfl) (by kernel_rfl) (fun w => by kernel_rfl) (by kernel_rfl) (by kernel_rfl) (by kernel_rfl) (fun _ _ _ _ _ h => h) hHeld ?_
        refine held_cell 4 23 (Go.Operand.tmp 82) (some 83) (.pointer (some ⟨X, 0, none⟩)) (.slice Au zs2.length cu) (by kernel_rfl) (by kernel_rfl) (fun V hV => load_slice X 0 V 23 (fun w => by kernel_rfl) _ ((hV.cell (p := ⟨X, 0, none⟩) hXl).trans hXc)) (by kernel_rfl) (by kernel_rfl) (by kernel_rfl) (fun _ _ _ _ _ h => h) hHeld ?_
        refine held_call 0 20 #[Go.Operand.tmp 6] #[26] (some 79) #[.pointer (some ⟨W, 0, none⟩)] _ (by kernel_rfl) (by kernel_rfl) (by kernel_rfl) (by kernel_rfl) (wbytes_any _ W zs2 v2 _ (h2.a.below hHeld) hz2) ?_
        rintro e Y1 ⟨vb, rfl, hown, hbY⟩
        obtain ⟨Ab2, cb2, rfl, _⟩ := ownsRow_form hown
        have hrb := SlRead.of_own hown
        refine ⟨_, rfl, hHeld.trans (hbY.mono hHeld.size), fun hHeld => ?_⟩
        refine held_call 5 19 #[Go.Operand.tmp 79, Go.Operand.tmp 83] #[23, 23] (some 84) #[.slice Ab2 zs2.length cb2, .slice Au zs2.length cu] _ (by kernel_rfl) (by kernel_rfl) (by kernel_rfl) (by kernel_rfl) (same_eq Ab2 Au zs2 cb2 cu Y1 hrb (hru.below hHeld) hz2) ?_
        rintro e Y2 ⟨rfl, m, rfl⟩
        refine ⟨_, rfl, hHeld.trans ((Below.drewNr m).mono hHeld.size), fun hHeld => ?_⟩
        refine held_any 6 (Go.Op.unOp Go.UnOp.not 4 (Go.Operand.tmp 84)) (some 85) (.bool false) (by kernel_rfl) (by kernel_rfl) (by kernel_rfl) (by kernel_rfl) (fun _ _ _ _ _ h => h) hHeld (fun oo ho w _ => by unfold execOp; simp only [ho]; kernel_rfl) ?_
        refine wpAnyH_done (by kernel_rfl) ?_ _
        refine NoPanic.normal ?_
        simp only [put_list, List.set_cons_zero, List.set_cons_succ]
        go_wp2_with fail
        go_roundw
        case rel => exact ⟨k + 1, zs2, v2, _, by omega, by go_num, hz3, H2.out.below hHeld⟩
        case measure => simp [intOf]; omega
    · go_wp2_with fail
      go_ret
      exact ⟨rfl, hw.bel⟩
end Go.Proofs.YtjgjaefbbhffbaaDoor
