import Derived.Test.YtffkjbbhbpaacaaDoorCot
/-
  The document's Reader behind an error: Raw, U32; its Key.
  The document's Reader behind an error: List.
-/
namespace Go.Proofs.YtffkjbbhbpaacaaDoor
open Go.RowKit

section
variable {w : World} {X : Nat} {A : Option Addr} {xs : List Int} {p c : Nat} {cc : Int} {pl : Bool} {z : Int}
set_option maxRecDepth 100000 in
set_option maxHeartbeats 1600000 in
theorem draw_bad (h : DrS w X A xs p c cc pl z) (hc : cc ≠ 0) (n : Int) (h0 : 0 ≤ n) : Calls Tryd.prog 67 #[.pointer (some ⟨X, 0, none⟩), .int .i64 n] w fun e w' => e = .returned (.slice none 0 0) ∧ Below w.heap.size w w' := by
  have hXl := h.r.lt
  go_enter Tryd.func67, Tryd.ntmps67
  go_upto_region 3 with (fail)
  refine wp_region_noPanic ?_
  refine wp_region_held_drew (S := fun V => Below w.heap.size w V) (by kernel_rfl) (Below.drewNr (w := w) 1) (fun hHeld => ?_)
  refine held_move 0 (Go.Operand.tmp 0) (some 13) (.pointer (some ⟨X, 0, none⟩)) (by kernel_rfl) (by kernel_rfl) (by kernel_rfl) (by kernel_rfl) (by kernel_rfl) (fun _ _ _ _ _ h => h) hHeld ?_
  refine held_call 1 68 #[Go.Operand.tmp 13] #[94] (some 14) #[.pointer (some ⟨X, 0, none⟩)] _ (by kernel_rfl) (by kernel_rfl) (by kernel_rfl) (by kernel_rfl) (fine_no (h.below hHeld) hc) ?_
  rintro e Y1 ⟨rfl, hbY⟩
  refine ⟨_, rfl, hHeld.trans (hbY.mono hHeld.size), fun hHeld => ?_⟩
  refine held_move 2 (Go.Operand.tmp 14) (some 15) (.bool false) (by kernel_rfl) (by kernel_rfl) (by kernel_rfl) (by kernel_rfl) (by kernel_rfl) (fun _ _ _ _ _ h => h) hHeld ?_
  refine held_off 3 (Go.Op.move (Go.Operand.tmp 1)) (some 16) (by kernel_rfl) (by kernel_rfl) (by kernel_rfl) (by kernel_rfl) (fun _ _ _ _ _ h => h) hHeld ?_
  refine held_off 4 (Go.Op.move (Go.Operand.tmp 0)) (some 17) (by kernel_rfl) (by kernel_rfl) (by kernel_rfl) (by kernel_rfl) (fun _ _ _ _ _ h => h) hHeld ?_
  refine held_off 5 (Go.Op.nilCheck (Go.Operand.tmp 17)) (some 18) (by kernel_rfl) (by kernel_rfl) (by kernel_rfl) (by kernel_rfl) (fun _ _ _ _ _ h => h) hHeld ?_
  refine held_off 6 (Go.Op.fieldAddr 96 (Go.Operand.tmp 18) 0) (some 19) (by kernel_rfl) (by kernel_rfl) (by kernel_rfl) (by kernel_rfl) (fun _ _ _ _ _ h => h) hHeld ?_
  refine held_off 7 (Go.Op.load 25 (Go.Operand.tmp 19)) (some 20) (by kernel_rfl) (by kernel_rfl) (by kernel_rfl) (by kernel_rfl) (fun _ _ _ _ _ h => h) hHeld ?_
  refine held_off 8 (Go.Op.call { callee := Go.Callee.builtin Go.Builtin.len, args := #[Go.Operand.tmp 20], argTypes := #[25] }) (some 21) (by kernel_rfl) (by kernel_rfl) (by kernel_rfl) (by kernel_rfl) (fun _ _ _ _ _ h => h) hHeld ?_
  refine held_off 9 (Go.Op.move (Go.Operand.tmp 0)) (some 22) (by kernel_rfl) (by kernel_rfl) (by kernel_rfl) (by kernel_rfl) (fun _ _ _ _ _ h => h) hHeld ?_
  refine held_off 10 (Go.Op.nilCheck (Go.Operand.tmp 22)) (some 23) (by kernel_rfl) (by kernel_rfl) (by kernel_rfl) (by kernel_rfl) (fun _ _ _ _ _ h => h) hHeld ?_
  refine held_off 11 (Go.Op.fieldAddr 96 (Go.Operand.tmp 23) 1) (some 24) (by kernel_rfl) (by kernel_rfl) (by kernel_rfl) (by kernel_rfl) (fun _ _ _ _ _ h => h) hHeld ?_
  refine held_off 12 (Go.Op.load 3 (Go.Operand.tmp 24)) (some 25) (by kernel_rfl) (by kernel_rfl) (by kernel_rfl) (by kernel_rfl) (fun _ _ _ _ _ h => h) hHeld ?_
  refine held_off 13 (Go.Op.binOp Go.BinOp.sub 3 (Go.Operand.tmp 21) (Go.Operand.tmp 25) 3) (some 26) (by kernel_rfl) (by kernel_rfl) (by kernel_rfl) (by kernel_rfl) (fun _ _ _ _ _ h => h) hHeld ?_
  refine held_off 14 (Go.Op.binOp Go.BinOp.gtr 3 (Go.Operand.tmp 16) (Go.Operand.tmp 26) 3) (some 27) (by kernel_rfl) (by kernel_rfl) (by kernel_rfl) (by kernel_rfl) (fun _ _ _ _ _ h => h) hHeld ?_
  refine held_pick 15 (Go.Operand.tmp 15) (Go.Operand.tmp 27) (Go.Operand.const (Go.Value.bool false)) (some 28) false (Go.Value.bool false) (by kernel_rfl) (by kernel_rfl) (by kernel_rfl) (by kernel_rfl) (by kernel_rfl) (by kernel_rfl) (fun _ _ _ _ _ h => h) hHeld ?_
  refine wpAnyH_done (by kernel_rfl) ?_ _
  refine NoPanic.normal ?_
  try simp only [Act.put, List.setIfInBounds_toArray, List.set_cons_zero, List.set_cons_succ]
  try simp only [put_list, List.set_cons_zero, List.set_cons_succ]
  have hU2 := h.below hHeld
  go_wp2_with fail
  refine (fine_no hU2 hc).mono ?_
  rintro e V ⟨rfl, hbV⟩
  have HF := Lib.hid (hHeld.trans (hbV.mono hHeld.size))
  go_wp2_with fail
  go_ret
  exact ⟨rfl, HF.out⟩
set_option maxRecDepth 100000 in
set_option maxHeartbeats 1600000 in
theorem du32_bad (h : DrS w X A xs p c cc pl z) (hc : cc ≠ 0) : Calls Tryd.prog 45 #[.pointer (some ⟨X, 0, none⟩)] w fun e w' => e = .returned (.int .u32 0) ∧ Below w.heap.size w w' := by
  have H := draw_bad h hc 4 (by omega)
  clear h
  go_enter Tryd.func45, Tryd.ntmps45
  go_wp2_with fail
  refine H.mono ?_
  rintro e U ⟨rfl, hF⟩
  have hF := Lib.hid hF
  go_wp2_with fail
  go_ret
  exact ⟨rfl, hF.out⟩
end
/-- a key of so many bytes -/
def keyL (ys : List Int) : List Int := (List.range 32).map fun i => if i < ys.length then byteI ys i else 0
theorem keyL_len (ys : List Int) : (keyL ys).length = 32 := by simp [keyL]
theorem keyL_all (ys : List Int) (h : ys.length = 32) : keyL ys = ys := by
  refine List.ext_getElem? fun i => ?_
  unfold keyL
  rcases Nat.lt_or_ge i 32 with hi | hi
  · rw [List.getElem?_map, List.getElem?_range hi, Option.map_some, if_pos (by omega)]
    exact (byteI_get (by omega)).symm
  · rw [List.getElem?_eq_none (by simp; omega), List.getElem?_eq_none (by omega)]
theorem keyL_nil : keyL [] = List.replicate 32 0 := by decide
def keyF (ys : List Int) (k i : Nat) : Value := .int .u8 (if i < k then byteI ys i else 0)
theorem keyF_step (ys : List Int) (k i : Nat) : (if i = k then Value.int .u8 (byteI ys k) else keyF ys k i) = keyF ys (k + 1) i := by
  unfold keyF
  by_cases h1 : i = k
  · subst h1; simp
  · rw [if_neg h1]
    by_cases h2 : i < k
    · rw [if_pos h2, if_pos (by omega)]
    · rw [if_neg h2, if_neg (by omega)]
theorem keyF_heap {w : World} {g : Nat} {t : TypeId} {ys : List Int} (h : w.rowIs g t 32 (keyF ys ys.length)) : w.heap[g]? = some (.cells (ints .u8 (keyL ys)).toArray t (0, 0)) := by
  obtain ⟨cs, hc, hs, hf⟩ := h
  rw [hc]
  congr 2
  refine Array.ext_getElem? fun i => ?_
  rcases Nat.lt_or_ge i 32 with hi | hi
  · rw [hf i hi]
    simp [ints, keyL, keyF, hi]
  · rw [Array.getElem?_eq_none (by omega), Array.getElem?_eq_none (by simp [keyL_len]; omega)]
set_option maxRecDepth 100000 in
set_option maxHeartbeats 1600000 in
theorem dkey_of {w : World} {X : Nat} (ys : List Int) (hy : ys.length ≤ 32) (hX : X < w.heap.size) (Q : World → Prop) (hQ : ∀ W W', Q W → Turn (fun q => w.heap.size ≤ q) W W' → Q W')
    (H : ∀ w1, Below w.heap.size w w1 → Calls Tryd.prog 67 #[.pointer (some ⟨X, 0, none⟩), .int .i64 32] w1 fun e w' => ∃ B c, e = .returned (.slice B ys.length c) ∧ SlRead w' B (ints .u8 ys) ∧ Q w' ∧ Turn (· = X) w1 w') :
    Calls Tryd.prog 71 #[.pointer (some ⟨X, 0, none⟩)] w fun e w' => e = .returned (.agg (ints .u8 (keyL ys)).toArray) ∧ Q w' ∧ Turn (· = X) w w' := by
  have z32 : ∀ i, i < 32 → (Array.replicate 32 (Value.int IntKind.u8 0))[i]? = some (keyF ys 0 i) := fun i hi => by simp [hi, keyF]
  have HK := Lib.hid (fun (W : World) (g : Nat) (h : W.rowIs g 36 32 (keyF ys ys.length)) => keyF_heap h)
  obtain ⟨ks, hks⟩ : ∃ ks, ks = (ints .u8 (keyL ys)).toArray := ⟨_, rfl⟩
  have hkl : ks.size = 32 := by rw [hks]; simp [keyL_len]
  have hk1 : ks.all (·.oneCell') = true := by rw [hks]; exact all_oneCell_toArray (ints_one .u8 _)
  have HKS := Lib.hid hks
  have HKL := Lib.hid hkl
  have hinf : (Tryd.prog.info? 36).map (·.size) = some ks.size := by rw [hkl]; kernel_rfl
  clear hks hkl
  go_enter Tryd.func71, Tryd.ntmps71
  go_upto_region 1 with (fail)
  obtain ⟨R, hR⟩ : ∃ R, R = w.heap.size := ⟨_, rfl⟩
  refine wp_world (fun V => Below w.heap.size w V ∧ V.heap[R]? = some (.cells (Array.replicate 32 (.int .u8 0)) 36 (0, 0)) ∧ V.heap.size = w.heap.size + 1) ⟨below_alc w _, by rw [hR]; exact (heap1_0 w _).trans rfl, by simp⟩ ?_
  rintro V ⟨hbV, hRV, hVs⟩
  rw [← hR]
  have hnum : X < R ∧ R < V.heap.size ∧ w.heap.size ≤ R := by omega
  clear hR hVs
  go_wp2_with fail
  refine (H V hbV).mono ?_
  rintro e U ⟨B, c, rfl, hB, hq, ht⟩
  have hRU := (ht.block R hnum.2.1 (by omega)).trans hRV
  have htU : Turn (· = X) w U := ((Turn.of_below (F := (· = X)) hbV).trans ht (fun q hq => .inl hq))
  have hUs : R < U.heap.size := Nat.lt_of_lt_of_le hnum.2.1 ht.size
  clear hbV hRV ht H
  go_upto_region 3 with (fail)
  obtain ⟨K, hK⟩ : ∃ K, K = U.heap.size := ⟨_, rfl⟩
  refine wp_world (fun V => Below U.heap.size U V ∧ V.rowIs K 36 32 (keyF ys 0)) ⟨below_alc U _, by rw [hK]; exact rowIs_new U (Array.replicate 32 (.int .u8 0)) 36 U.heap.size 32 _ rfl (by simp) z32⟩ ?_
  rintro V2 ⟨hbV2, hkV2⟩
  rw [← hK]
  have hKU : U.heap.size ≤ K := by omega
  have HF := Lib.hid (And.intro hq htU)
  clear hq htU hK z32
  go_wp2_with fail
  go_loopw [5] (fun i wr => ∃ k : Nat, k ≤ ys.length ∧ i = .int .i64 k ∧ Below U.heap.size U wr ∧ wr.rowIs K 36 32 (keyF ys k)) (fun i _ => ys.length - (intOf i).toNat)
  case atStart => exact ⟨0, by omega, rfl, hbV2, hkV2⟩
  clear hbV2 hkV2
  case round =>
    obtain ⟨k, hk, rfl, hb, hx⟩ := hrel
    by_cases hlt : k < ys.length
    · obtain ⟨b, o, x1, hOe, hc1, hx1⟩ := (hB.below hb).at_ (j := k) hlt
      have hbl : b < U.heap.size := by
        obtain ⟨b', o', e', hl', _⟩ := hB (by simp; omega)
        rw [hOe] at e'
        injection e' with e'
        injection e' with e1
        omega
      have hv1 : Value.int .u8 x1 = .int .u8 (byteI ys k) := by
        rw [byteI_get hlt] at hx1
        injection hx1 with hx1
        rw [hx1]
      rw [hv1] at hc1
      clear hx1 hv1
      have hk32 : k < 32 := by omega
      have c1 := hx.cell (i := k) hk32
      have f1 := hx.frozen k
      have HO := Lib.hid hOe
      subst hOe
      have hk0 : (k : Int) < (ys.length : Int) := by omega
      have hk32' : (k : Int) < 32 := by omega
      go_wp2_with fail
      go_roundw
      case rel => exact ⟨k + 1, by omega, by go_num, hb.setCell (show U.heap.size ≤ K by omega) _, (hx.set k _).congr fun j _ => keyF_step ys k j⟩
      case measure => simp [intOf]; omega
    · obtain rfl : k = ys.length := by omega
      have hdk : decide ((ys.length : Int) < (ys.length : Int)) = false := by simp
      have hKb := HK.out wr K hx
      rw [← HKS.out] at hKb
      have hRb := (hb.block R hUs).trans hRU
      have hbF : Below U.heap.size U wr := hb
      have hset : Turn (· = X) w (wr.setRow R ks) := by
        have h1 := HF.out.2.trans (Turn.of_below (F := (· = X)) hb) (fun q hq => .inl hq)
        exact ⟨h1.os, h1.tape, h1.output, by simpa [World.setRow] using h1.size, fun q hq hF => (setRow_other wr R q _ (by omega)).trans (h1.block q hq hF)⟩
      have hqF : Q (wr.setRow R ks) := hQ _ _ (hQ _ _ HF.out.1 (Turn.of_below hb)) ⟨rfl, rfl, rfl, by simp [World.setRow], fun q _ hF => setRow_other wr R q _ (fun e => hF (by omega))⟩
      have HG := Lib.hid (And.intro hqF hset)
      clear hset hqF hb hx hbF hB
      go_wp2_with (first | (refine wpList_load_row rfl 36 _ rfl K rfl 36 ks _ _ hKb Tryd.underlying36 rfl hinf ?_) | (refine wpList_store_row rfl 36 _ _ rfl R ks rfl rfl _ _ hRb hinf (by simp [HKL.out]) hk1 ?_))
      refine bodyPost_ret (results_cell_row rfl _ _ _ _ _ _ _ rfl (setRow_heap _ _ _ _ _ _ hRb) Tryd.underlying36 rfl hinf) rfl ?_
      exact ⟨by rw [HKS.out], HG.out⟩
section
variable {w : World} {X : Nat} {A : Option Addr} {xs : List Int} {p c : Nat} {cc : Int} {pl : Bool} {z : Int}
theorem DrS.later {p' : Nat} {cc' z' : Int} {pl' : Bool} (h : DrS w X A xs p c cc pl z) {W W' : World} (hW : DrS W X A xs p' c cc' pl' z') (ht : Turn (fun q => w.heap.size ≤ q) W W') : DrS W' X A xs p' c cc' pl' z' :=
  hW.turn0 ht (fun hh => by have := h.r.lt; omega) (fun h0 a ha hh => by
    obtain ⟨b, o, e, hl, _⟩ := h.r.rd (by simpa using h0)
    rw [ha] at e
    injection e with e
    subst e
    have h3 : w.heap.size ≤ b := hh
    omega)
theorem dkey_ok (h : DrS w X A xs p c 0 pl z) (hl : xs.length ≤ 100000) (hp : p + 32 ≤ xs.length) : Calls Tryd.prog 71 #[.pointer (some ⟨X, 0, none⟩)] w fun e w' => e = .returned (.agg (ints .u8 ((xs.drop p).take 32)).toArray) ∧ DrS w' X A xs (p + 32) c 0 pl z ∧ Turn (· = X) w w' := by
  have hn : ((xs.drop p).take 32).length = 32 := by simp; omega
  have H := dkey_of (w := w) (X := X) ((xs.drop p).take 32) (by omega) h.r.lt (fun W => DrS W X A xs (p + 32) c 0 pl z) (fun W W' hW ht => h.later hW ht) (fun w1 hb1 => (draw_ok (h.below hb1) hl 32 hp).mono fun e w' hh => by
    obtain ⟨v, rfl, hown, h2, ht⟩ := hh
    obtain ⟨B, c2, rfl, _⟩ := ownsRow_form hown
    exact ⟨B, c2, by rw [hn], SlRead.of_own hown, h2, ht⟩)
  rwa [keyL_all _ hn] at H
theorem dkey_no (h : DrS w X A xs p c 0 pl z) (hl : xs.length ≤ 100000) (hp : xs.length < p + 32) : Calls Tryd.prog 71 #[.pointer (some ⟨X, 0, none⟩)] w fun e w' => e = .returned (.agg (ints .u8 (List.replicate 32 0)).toArray) ∧ DrS w' X A xs p c 103 true p ∧ Turn (· = X) w w' := by
  have H := dkey_of (w := w) (X := X) [] (by simp) h.r.lt (fun W => DrS W X A xs p c 103 true p) (fun W W' hW ht => h.later hW ht) (fun w1 hb1 => (draw_no (h.below hb1) hl 32 (by omega) (by omega)).mono fun e w' hh => ⟨none, 0, hh.1, SlRead.nil_, hh.2.1, hh.2.2⟩)
  rwa [keyL_nil] at H
theorem dkey_bad (h : DrS w X A xs p c cc pl z) (hc : cc ≠ 0) : Calls Tryd.prog 71 #[.pointer (some ⟨X, 0, none⟩)] w fun e w' => e = .returned (.agg (ints .u8 (List.replicate 32 0)).toArray) ∧ DrS w' X A xs p c cc pl z ∧ Turn (· = X) w w' := by
  have H := dkey_of (w := w) (X := X) [] (by simp) h.r.lt (fun W => DrS W X A xs p c cc pl z) (fun W W' hW ht => h.later hW ht) (fun w1 hb1 => (draw_bad (h.below hb1) hc 32 (by omega)).mono fun e w' hh => ⟨none, 0, hh.1, SlRead.nil_, (h.below hb1).below hh.2, Turn.of_below hh.2⟩)
  rwa [keyL_nil] at H
end
section
variable {w : World} {X : Nat} {A : Option Addr} {xs : List Int} {p c : Nat} {cc : Int} {pl : Bool} {z : Int}
set_option maxRecDepth 100000 in
set_option maxHeartbeats 1600000 in
theorem dlist_bad (h : DrS w X A xs p c cc pl z) (hc : cc ≠ 0) (m : Int) : Calls Tryd.prog 46 #[.pointer (some ⟨X, 0, none⟩), .int .i64 m] w fun e w' => e = .returned (.slice none 0 0) ∧ DrS w' X A xs p c cc pl z ∧ Turn (· = X) w w' := by
  have H : Calls Tryd.prog 45 #[.pointer (some ⟨X, 0, none⟩)] w fun e w' => e = .returned (.int .u32 0) ∧ DrS w' X A xs p c cc pl z ∧ Turn (· = X) w w' := (du32_bad h hc).mono fun _ _ hh => ⟨hh.1, h.below hh.2, Turn.of_below hh.2⟩
  have c1 := h.r.c1
  clear h
  go_enter Tryd.func46, Tryd.ntmps46
  go_wp2_with fail
  refine H.mono ?_
  rintro e W1 ⟨rfl, h1, ht1⟩
  go_wp2_with fail
  refine (fine_no h1 hc).mono ?_
  rintro e W2 ⟨rfl, hb2⟩
  have h2 := h1.below hb2
  have HT := Lib.hid (ht1.trans (Turn.of_below (F := (· = X)) hb2) (fun q hq => .inl hq))
  clear h1 ht1 hb2
  go_upto_region 5 with (fail)
  have hwd : (0 : Int) ≤ 0 ∧ (0 : Int) < 4294967296 := by decide
  refine wp_region_noPanic ?_
  refine wp_region_held_drew (S := fun V => Below W2.heap.size W2 V) (by kernel_rfl) (Below.drewNr (w := W2) 1) (fun hHeld => ?_)
  refine held_move 0 (Go.Operand.tmp 0) (some 24) (.pointer (some ⟨X, 0, none⟩)) (by kernel_rfl) (by kernel_rfl) (by kernel_rfl) (by kernel_rfl) (by kernel_rfl) (fun _ _ _ _ _ h => h) hHeld ?_
  refine held_call 1 68 #[Go.Operand.tmp 24] #[94] (some 25) #[.pointer (some ⟨X, 0, none⟩)] _ (by kernel_rfl) (by kernel_rfl) (by kernel_rfl) (by kernel_rfl) (fine_no (h2.below hHeld) hc) ?_
  rintro e Y1 ⟨rfl, hbY⟩
  refine ⟨_, rfl, hHeld.trans (hbY.mono hHeld.size), fun hHeld => ?_⟩
  refine held_move 2 (Go.Operand.tmp 25) (some 26) (.bool false) (by kernel_rfl) (by kernel_rfl) (by kernel_rfl) (by kernel_rfl) (by kernel_rfl) (fun _ _ _ _ _ h => h) hHeld ?_
  refine held_off 3 (Go.Op.move (Go.Operand.tmp 6)) (some 27) (by kernel_rfl) (by kernel_rfl) (by kernel_rfl) (by kernel_rfl) (fun _ _ _ _ _ h => h) hHeld ?_
  refine held_off 4 (Go.Op.convert 38 3 (Go.Operand.tmp 27)) (some 28) (by kernel_rfl) (by kernel_rfl) (by kernel_rfl) (by kernel_rfl) (fun _ _ _ _ _ h => h) hHeld ?_
  refine held_off 5 (Go.Op.move (Go.Operand.tmp 0)) (some 29) (by kernel_rfl) (by kernel_rfl) (by kernel_rfl) (by kernel_rfl) (fun _ _ _ _ _ h => h) hHeld ?_
  refine held_off 6 (Go.Op.nilCheck (Go.Operand.tmp 29)) (some 30) (by kernel_rfl) (by kernel_rfl) (by kernel_rfl) (by kernel_rfl) (fun _ _ _ _ _ h => h) hHeld ?_
  refine held_off 7 (Go.Op.fieldAddr 96 (Go.Operand.tmp 30) 0) (some 31) (by kernel_rfl) (by kernel_rfl) (by kernel_rfl) (by kernel_rfl) (fun _ _ _ _ _ h => h) hHeld ?_
  refine held_off 8 (Go.Op.load 25 (Go.Operand.tmp 31)) (some 32) (by kernel_rfl) (by kernel_rfl) (by kernel_rfl) (by kernel_rfl) (fun _ _ _ _ _ h => h) hHeld ?_
  refine held_off 9 (Go.Op.call { callee := Go.Callee.builtin Go.Builtin.len, args := #[Go.Operand.tmp 32], argTypes := #[25] }) (some 33) (by kernel_rfl) (by kernel_rfl) (by kernel_rfl) (by kernel_rfl) (fun _ _ _ _ _ h => h) hHeld ?_
  refine held_off 10 (Go.Op.move (Go.Operand.tmp 0)) (some 34) (by kernel_rfl) (by kernel_rfl) (by kernel_rfl) (by kernel_rfl) (fun _ _ _ _ _ h => h) hHeld ?_
  refine held_off 11 (Go.Op.nilCheck (Go.Operand.tmp 34)) (some 35) (by kernel_rfl) (by kernel_rfl) (by kernel_rfl) (by kernel_rfl) (fun _ _ _ _ _ h => h) hHeld ?_
  refine held_off 12 (Go.Op.fieldAddr 96 (Go.Operand.tmp 35) 1) (some 36) (by kernel_rfl) (by kernel_rfl) (by kernel_rfl) (by kernel_rfl) (fun _ _ _ _ _ h => h) hHeld ?_
  refine held_off 13 (Go.Op.load 3 (Go.Operand.tmp 36)) (some 37) (by kernel_rfl) (by kernel_rfl) (by kernel_rfl) (by kernel_rfl) (fun _ _ _ _ _ h => h) hHeld ?_
  refine held_off 14 (Go.Op.binOp Go.BinOp.sub 3 (Go.Operand.tmp 33) (Go.Operand.tmp 37) 3) (some 38) (by kernel_rfl) (by kernel_rfl) (by kernel_rfl) (by kernel_rfl) (fun _ _ _ _ _ h => h) hHeld ?_
  refine held_off 15 (Go.Op.binOp Go.BinOp.gtr 3 (Go.Operand.tmp 28) (Go.Operand.tmp 38) 3) (some 39) (by kernel_rfl) (by kernel_rfl) (by kernel_rfl) (by kernel_rfl) (fun _ _ _ _ _ h => h) hHeld ?_
  refine held_pick 16 (Go.Operand.tmp 26) (Go.Operand.tmp 39) (Go.Operand.const (Go.Value.bool false)) (some 40) false (Go.Value.bool false) (by kernel_rfl) (by kernel_rfl) (by kernel_rfl) (by kernel_rfl) (by kernel_rfl) (by kernel_rfl) (fun _ _ _ _ _ h => h) hHeld ?_
  refine wpAnyH_done (by kernel_rfl) ?_ _
  refine NoPanic.normal ?_
  try simp only [Act.put, List.setIfInBounds_toArray, List.set_cons_zero, List.set_cons_succ]
  try simp only [put_list, List.set_cons_zero, List.set_cons_succ]
  have h3 := h2.below hHeld
  go_wp2_with fail
  refine (fine_no h3 hc).mono ?_
  rintro e V ⟨rfl, hbV⟩
  have HF := Lib.hid (And.intro (h3.below hbV) (HT.out.trans (Turn.of_below (F := (· = X)) (hHeld.trans (hbV.mono hHeld.size))) (fun q hq => .inl hq)))
  go_wp2_with fail
  go_ret
  exact ⟨rfl, HF.out⟩
end
end Go.Proofs.YtffkjbbhbpaacaaDoor
