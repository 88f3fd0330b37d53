/-
  math/bits.Len, tree.Split.
-/
import Derived.Test.YtihnpcoiadbpiaaDoorNum
import Derived.Test.YtihnpcoiadbpiaaDoorIdx
import Derived.IntWalk
namespace Go.Proofs.YtihnpcoiadbpiaaDoor
open Go.RowKit

/-- n bits are wanted for x -/
def IsLen (x n : Nat) : Prop := x < 2 ^ n ∧ (n = 0 ∨ 2 ^ (n - 1) ≤ x)
theorem IsLen.up {x k n : Nat} (h : IsLen (x / 2 ^ k) n) (hx : 2 ^ k ≤ x) : IsLen x (n + k) := by
  obtain ⟨h1, h2⟩ := h
  have hk : 0 < 2 ^ k := Nat.two_pow_pos k
  have hq : 1 ≤ x / 2 ^ k := (Nat.one_le_div_iff hk).2 hx
  rcases Nat.eq_zero_or_pos n with rfl | hn
  · simp at h1; omega
  · refine ⟨?_, .inr ?_⟩
    · rw [Nat.pow_add]; exact (Nat.div_lt_iff_lt_mul hk).1 h1
    · rcases h2 with h2 | h2
      · omega
      · rw [show n + k - 1 = (n - 1) + k by omega, Nat.pow_add]; exact (Nat.le_div_iff_mul_le hk).1 h2
def bl8 (x : Nat) : Nat := if x = 0 then 0 else Nat.log2 x + 1
theorem isLen_bl8 (x : Nat) : IsLen x (bl8 x) := by
  unfold bl8
  by_cases h : x = 0
  · subst h; exact ⟨by simp, .inl (by simp)⟩
  · rw [if_neg h]
    exact ⟨Nat.lt_log2_self, .inr (by simpa using Nat.log2_self_le h)⟩
theorem IsLen.uniq {x n m : Nat} (h : IsLen x n) (k : IsLen x m) : n = m := by
  obtain ⟨h1, h2⟩ := h
  obtain ⟨k1, k2⟩ := k
  have aux : ∀ {a b : Nat}, x < 2 ^ a → (b = 0 ∨ 2 ^ (b - 1) ≤ x) → b ≤ a := by
    intro a b ha hb
    rcases hb with hb | hb
    · omega
    · have := (Nat.pow_lt_pow_iff_right (a := 2) (by omega)).1 (Nat.lt_of_le_of_lt hb ha)
      omega
  have := aux h1 k2
  have := aux k1 h2
  omega
def tabL : List UInt8 := (List.range 256).map fun x => UInt8.ofNat (bl8 x)
theorem tab_at (x : Nat) (h : x < 256) : ((tabL[x]?).map (·.toNat)) = some (bl8 x) := by
  have : ∀ y, y < 256 → ((tabL[y]?).map (·.toNat)) = some (bl8 y) := by decide +kernel
  exact this x h
theorem index_tab (x : Nat) (h : x < 256) (s : ByteArray) (hs : s.data.toList = tabL) (w : World) : (Instr.index 9 (.string s) (.int .u8 x)).run Tryd.prog w = .ok (.int .u8 (bl8 x)) w := by
  have ht := Tryd.underlying9
  have hsz : s.size = 256 := by
    have := congrArg List.length hs
    simpa [tabL] using this
  have hx : x < s.size := by omega
  have hv : (s[x]'hx).toNat = bl8 x := by
    have h1 := tab_at x h
    rw [← hs] at h1
    have h2 : s.data.toList[x]? = some (s[x]'hx) := by
      rw [Array.getElem?_toList]
      rw [Array.getElem?_eq_getElem (by simpa using hx)]
      rfl
    rw [h2] at h1
    simpa using h1
  go_simp
  intro hx; omega

def tabS : ByteArray := ⟨tabL.toArray⟩
theorem cvt_u8 (x : Nat) (h : x < 256) (w : World) : (convert 72 5 (.int .u64 x)).run Tryd.prog w = .ok (.int .u8 x) w := by
  have h1 := Tryd.underlying72
  have h2 := Tryd.underlying5
  have hw : IntKind.u8.wrap (x : Int) = (x : Int) := by rw [IntKind.wrap_u8]; omega
  simp [convert, run_underlying h1, run_underlying h2, Conv.intToInt, hw]
theorem cvt_i64 (x : Nat) (h : x ≤ 8) (w : World) : (convert 5 3 (.int .u8 x)).run Tryd.prog w = .ok (.int .i64 x) w := by
  have h1 := Tryd.underlying5
  have h2 := Tryd.underlying3
  have hw : IntKind.i64.wrap (x : Int) = (x : Int) := IntWalk.i64_in _ (by omega)
  simp [convert, run_underlying h1, run_underlying h2, Conv.intToInt, hw]
set_option maxHeartbeats 1600000 in
theorem len64_any (x : Nat) (h : x < 18446744073709551616) (w : World) :
    Calls Tryd.prog 39 #[.int .u64 (x : Int)] w fun e w' => e = .returned (.int .i64 (bl8 x : Int)) ∧ Below w.heap.size w w' := by
  go_enter Tryd.func39, Tryd.ntmps39
  by_cases h0 : 4294967296 ≤ x
  · have b0 : decide ((4294967296 : Int) ≤ (x : Int)) = true := by simp; omega
    go_upto_region 4 with (fail)
    have e0 : ((x : Int) / 4294967296) = ((x / 4294967296 : Nat) : Int) := by omega
    rw [e0]
    have u0 : ∀ n, IsLen (x / 4294967296) n → IsLen x (n + 32) := fun n hn => IsLen.up (k := 32) hn h0
    have l0 : x / 4294967296 < 4294967296 := by omega
    clear e0 b0
    have U0 := Lib.hid u0; clear u0
    generalize x / 4294967296 = xq at *
    by_cases h1 : 65536 ≤ xq
    · have b1 : decide ((65536 : Int) ≤ (xq : Int)) = true := by simp; omega
      go_upto_region 7 with (fail)
      have e1 : ((xq : Int) / 65536) = ((xq / 65536 : Nat) : Int) := by omega
      rw [e1]
      have u1 : ∀ n, IsLen (xq / 65536) n → IsLen xq (n + 16) := fun n hn => IsLen.up (k := 16) hn h1
      have l1 : xq / 65536 < 65536 := by omega
      clear e1 b1
      have U1 := Lib.hid u1; clear u1
      generalize xq / 65536 = xqq at *
      by_cases h2 : 256 ≤ xqq
      · have b2 : decide ((256 : Int) ≤ (xqq : Int)) = true := by simp; omega
        go_upto_region 10 with (fail)
        have e2 : ((xqq : Int) / 256) = ((xqq / 256 : Nat) : Int) := by omega
        rw [e2]
        have u2 : ∀ n, IsLen (xqq / 256) n → IsLen xqq (n + 8) := fun n hn => IsLen.up (k := 8) hn h2
        have l2 : xqq / 256 < 256 := by omega
        clear e2 b2
        have U2 := Lib.hid u2; clear u2
        generalize xqq / 256 = xqqq at *
        have hz : xqqq < 256 := by omega
        have hb8 := isLen_bl8 xqqq
        have hlb : bl8 xqqq ≤ 8 := by
          rcases hb8.2 with h | h
          · omega
          · have := (Nat.pow_lt_pow_iff_right (a := 2) (by omega)).1 (Nat.lt_of_le_of_lt h (show xqqq < 2 ^ 8 by omega))
            omega
        have hres := U0.out _ (U1.out _ (U2.out _ (hb8)))
        refine wp_region_text_v [Sp.k 0 (some 19) [] (.int .i64 56),
          Sp.k 1 (some 20) [] (.int .u64 xqqq),
          Sp.k 2 (some 21) [1] (.int .u8 xqqq),
          Sp.k 3 (some 22) [2] (.int .u8 (bl8 xqqq)),
          Sp.k 4 (some 23) [3] (.int .i64 (bl8 xqqq)),
          Sp.k 5 (some 24) [0, 4] (.int .i64 ((56 + bl8 xqqq : Nat) : Int)),
          Sp.k 6 (some 2) [0, 5] (.int .i64 ((56 + bl8 xqqq : Nat) : Int))] (by kernel_rfl)
          ⟨owes_move 0 (some 19) [] (.int .i64 56) (Go.Operand.tmp 2) (fun v => by kernel_rfl) (fun v => by kernel_rfl),
          owes_move 1 (some 20) [] (.int .u64 xqqq) (Go.Operand.tmp 0) (fun v => by kernel_rfl) (fun v => by kernel_rfl),
          owes_cvt 2 (some 21) [1] (.int .u8 xqqq) 72 5 (Go.Operand.tmp 20) (.int .u64 xqqq) (fun v => by kernel_rfl) (fun v => by kernel_rfl) (cvt_u8 xqqq hz),
          owes_idx 3 (some 22) [2] (.int .u8 (bl8 xqqq)) 9 (Go.Operand.const (Go.Value.string { data := (([0, 1, 2, 2, 3, 3, 3, 3, 4, 4, 4, 4, 4, 4, 4, 4, 5, 5, 5, 5, 5, 5, 5, 5, 5, 5, 5, 5, 5, 5, 5, 5, 6, 6, 6, 6, 6, 6, 6, 6, 6, 6, 6, 6, 6, 6, 6, 6, 6, 6, 6, 6, 6, 6, 6, 6, 6, 6, 6, 6, 6, 6, 6, 6].append [7, 7, 7, 7, 7, 7, 7, 7, 7, 7, 7, 7, 7, 7, 7, 7, 7, 7, 7, 7, 7, 7, 7, 7, 7, 7, 7, 7, 7, 7, 7, 7, 7, 7, 7, 7, 7, 7, 7, 7, 7, 7, 7, 7, 7, 7, 7, 7, 7, 7, 7, 7, 7, 7, 7, 7, 7, 7, 7, 7, 7, 7, 7, 7]).append ([8, 8, 8, 8, 8, 8, 8, 8, 8, 8, 8, 8, 8, 8, 8, 8, 8, 8, 8, 8, 8, 8, 8, 8, 8, 8, 8, 8, 8, 8, 8, 8, 8, 8, 8, 8, 8, 8, 8, 8, 8, 8, 8, 8, 8, 8, 8, 8, 8, 8, 8, 8, 8, 8, 8, 8, 8, 8, 8, 8, 8, 8, 8, 8].append [8, 8, 8, 8, 8, 8, 8, 8, 8, 8, 8, 8, 8, 8, 8, 8, 8, 8, 8, 8, 8, 8, 8, 8, 8, 8, 8, 8, 8, 8, 8, 8, 8, 8, 8, 8, 8, 8, 8, 8, 8, 8, 8, 8, 8, 8, 8, 8, 8, 8, 8, 8, 8, 8, 8, 8, 8, 8, 8, 8, 8, 8, 8, 8])).toArray  })) (Go.Operand.tmp 21) (.string tabS) (.int .u8 xqqq) (fun v => by kernel_rfl) (fun v => by kernel_rfl) (index_tab xqqq hz tabS rfl),
          owes_cvt 4 (some 23) [3] (.int .i64 (bl8 xqqq)) 5 3 (Go.Operand.tmp 22) (.int .u8 (bl8 xqqq)) (fun v => by kernel_rfl) (fun v => by kernel_rfl) (cvt_i64 _ hlb),
          owes_bin 5 (some 24) [0, 4] (.int .i64 ((56 + bl8 xqqq : Nat) : Int)) Go.BinOp.add 3 (Go.Operand.tmp 19) (Go.Operand.tmp 23) 3 (.int .i64 56) (.int .i64 (bl8 xqqq)) (fun v => by kernel_rfl) (fun v => by kernel_rfl) (add_i64 _ _ _ _ _ _ (by omega) (by omega) (by omega)),
          owes_assign 6 (some 2) [0, 5] (.int .i64 ((56 + bl8 xqqq : Nat) : Int)) (Go.Operand.tmp 24) (fun v => by kernel_rfl) (fun v => by kernel_rfl), trivial⟩ ?_
        intro v w' A hA hb hall
        have h2 : A.tmps.getD 2 undef = .int .i64 ((56 + bl8 xqqq : Nat) : Int) := by rw [hA]; kernel_rfl
        have hd : A.defers = [] := by rw [hA]; kernel_rfl
        clear hall hA
        go_wp2_with fail
        exact ret_slot 2 rfl h2 hd ⟨by rw [IsLen.uniq (isLen_bl8 x) hres]; congr 2; omega, hb⟩
      · have b2 : decide ((256 : Int) ≤ (xqq : Int)) = false := by simp; omega
        go_upto_region 10 with (fail)
        clear b2
        have hz : xqq < 256 := by omega
        have hb8 := isLen_bl8 xqq
        have hlb : bl8 xqq ≤ 8 := by
          rcases hb8.2 with h | h
          · omega
          · have := (Nat.pow_lt_pow_iff_right (a := 2) (by omega)).1 (Nat.lt_of_le_of_lt h (show xqq < 2 ^ 8 by omega))
            omega
        have hres := U0.out _ (U1.out _ (hb8))
        refine wp_region_text_v [Sp.k 0 (some 19) [] (.int .i64 48),
          Sp.k 1 (some 20) [] (.int .u64 xqq),
          Sp.k 2 (some 21) [1] (.int .u8 xqq),
          Sp.k 3 (some 22) [2] (.int .u8 (bl8 xqq)),
          Sp.k 4 (some 23) [3] (.int .i64 (bl8 xqq)),
          Sp.k 5 (some 24) [0, 4] (.int .i64 ((48 + bl8 xqq : Nat) : Int)),
          Sp.k 6 (some 2) [0, 5] (.int .i64 ((48 + bl8 xqq : Nat) : Int))] (by kernel_rfl)
          ⟨owes_move 0 (some 19) [] (.int .i64 48) (Go.Operand.tmp 2) (fun v => by kernel_rfl) (fun v => by kernel_rfl),
          owes_move 1 (some 20) [] (.int .u64 xqq) (Go.Operand.tmp 0) (fun v => by kernel_rfl) (fun v => by kernel_rfl),
          owes_cvt 2 (some 21) [1] (.int .u8 xqq) 72 5 (Go.Operand.tmp 20) (.int .u64 xqq) (fun v => by kernel_rfl) (fun v => by kernel_rfl) (cvt_u8 xqq hz),
          owes_idx 3 (some 22) [2] (.int .u8 (bl8 xqq)) 9 (Go.Operand.const (Go.Value.string { data := (([0, 1, 2, 2, 3, 3, 3, 3, 4, 4, 4, 4, 4, 4, 4, 4, 5, 5, 5, 5, 5, 5, 5, 5, 5, 5, 5, 5, 5, 5, 5, 5, 6, 6, 6, 6, 6, 6, 6, 6, 6, 6, 6, 6, 6, 6, 6, 6, 6, 6, 6, 6, 6, 6, 6, 6, 6, 6, 6, 6, 6, 6, 6, 6].append [7, 7, 7, 7, 7, 7, 7, 7, 7, 7, 7, 7, 7, 7, 7, 7, 7, 7, 7, 7, 7, 7, 7, 7, 7, 7, 7, 7, 7, 7, 7, 7, 7, 7, 7, 7, 7, 7, 7, 7, 7, 7, 7, 7, 7, 7, 7, 7, 7, 7, 7, 7, 7, 7, 7, 7, 7, 7, 7, 7, 7, 7, 7, 7]).append ([8, 8, 8, 8, 8, 8, 8, 8, 8, 8, 8, 8, 8, 8, 8, 8, 8, 8, 8, 8, 8, 8, 8, 8, 8, 8, 8, 8, 8, 8, 8, 8, 8, 8, 8, 8, 8, 8, 8, 8, 8, 8, 8, 8, 8, 8, 8, 8, 8, 8, 8, 8, 8, 8, 8, 8, 8, 8, 8, 8, 8, 8, 8, 8].append [8, 8, 8, 8, 8, 8, 8, 8, 8, 8, 8, 8, 8, 8, 8, 8, 8, 8, 8, 8, 8, 8, 8, 8, 8, 8, 8, 8, 8, 8, 8, 8, 8, 8, 8, 8, 8, 8, 8, 8, 8, 8, 8, 8, 8, 8, 8, 8, 8, 8, 8, 8, 8, 8, 8, 8, 8, 8, 8, 8, 8, 8, 8, 8])).toArray  })) (Go.Operand.tmp 21) (.string tabS) (.int .u8 xqq) (fun v => by kernel_rfl) (fun v => by kernel_rfl) (index_tab xqq hz tabS rfl),
          owes_cvt 4 (some 23) [3] (.int .i64 (bl8 xqq)) 5 3 (Go.Operand.tmp 22) (.int .u8 (bl8 xqq)) (fun v => by kernel_rfl) (fun v => by kernel_rfl) (cvt_i64 _ hlb),
          owes_bin 5 (some 24) [0, 4] (.int .i64 ((48 + bl8 xqq : Nat) : Int)) Go.BinOp.add 3 (Go.Operand.tmp 19) (Go.Operand.tmp 23) 3 (.int .i64 48) (.int .i64 (bl8 xqq)) (fun v => by kernel_rfl) (fun v => by kernel_rfl) (add_i64 _ _ _ _ _ _ (by omega) (by omega) (by omega)),
          owes_assign 6 (some 2) [0, 5] (.int .i64 ((48 + bl8 xqq : Nat) : Int)) (Go.Operand.tmp 24) (fun v => by kernel_rfl) (fun v => by kernel_rfl), trivial⟩ ?_
        intro v w' A hA hb hall
        have h2 : A.tmps.getD 2 undef = .int .i64 ((48 + bl8 xqq : Nat) : Int) := by rw [hA]; kernel_rfl
        have hd : A.defers = [] := by rw [hA]; kernel_rfl
        clear hall hA
        go_wp2_with fail
        exact ret_slot 2 rfl h2 hd ⟨by rw [IsLen.uniq (isLen_bl8 x) hres]; congr 2; omega, hb⟩
    · have b1 : decide ((65536 : Int) ≤ (xq : Int)) = false := by simp; omega
      go_upto_region 7 with (fail)
      clear b1
      by_cases h2 : 256 ≤ xq
      · have b2 : decide ((256 : Int) ≤ (xq : Int)) = true := by simp; omega
        go_upto_region 10 with (fail)
        have e2 : ((xq : Int) / 256) = ((xq / 256 : Nat) : Int) := by omega
        rw [e2]
        have u2 : ∀ n, IsLen (xq / 256) n → IsLen xq (n + 8) := fun n hn => IsLen.up (k := 8) hn h2
        have l2 : xq / 256 < 256 := by omega
        clear e2 b2
        have U2 := Lib.hid u2; clear u2
        generalize xq / 256 = xqq at *
        have hz : xqq < 256 := by omega
        have hb8 := isLen_bl8 xqq
        have hlb : bl8 xqq ≤ 8 := by
          rcases hb8.2 with h | h
          · omega
          · have := (Nat.pow_lt_pow_iff_right (a := 2) (by omega)).1 (Nat.lt_of_le_of_lt h (show xqq < 2 ^ 8 by omega))
            omega
        have hres := U0.out _ (U2.out _ (hb8))
        refine wp_region_text_v [Sp.k 0 (some 19) [] (.int .i64 40),
          Sp.k 1 (some 20) [] (.int .u64 xqq),
          Sp.k 2 (some 21) [1] (.int .u8 xqq),
          Sp.k 3 (some 22) [2] (.int .u8 (bl8 xqq)),
          Sp.k 4 (some 23) [3] (.int .i64 (bl8 xqq)),
          Sp.k 5 (some 24) [0, 4] (.int .i64 ((40 + bl8 xqq : Nat) : Int)),
          Sp.k 6 (some 2) [0, 5] (.int .i64 ((40 + bl8 xqq : Nat) : Int))] (by kernel_rfl)
          ⟨owes_move 0 (some 19) [] (.int .i64 40) (Go.Operand.tmp 2) (fun v => by kernel_rfl) (fun v => by kernel_rfl),
          owes_move 1 (some 20) [] (.int .u64 xqq) (Go.Operand.tmp 0) (fun v => by kernel_rfl) (fun v => by kernel_rfl),
          owes_cvt 2 (some 21) [1] (.int .u8 xqq) 72 5 (Go.Operand.tmp 20) (.int .u64 xqq) (fun v => by kernel_rfl) (fun v => by kernel_rfl) (cvt_u8 xqq hz),
          owes_idx 3 (some 22) [2] (.int .u8 (bl8 xqq)) 9 (Go.Operand.const (Go.Value.string { data := (([0, 1, 2, 2, 3, 3, 3, 3, 4, 4, 4, 4, 4, 4, 4, 4, 5, 5, 5, 5, 5, 5, 5, 5, 5, 5, 5, 5, 5, 5, 5, 5, 6, 6, 6, 6, 6, 6, 6, 6, 6, 6, 6, 6, 6, 6, 6, 6, 6, 6, 6, 6, 6, 6, 6, 6, 6, 6, 6, 6, 6, 6, 6, 6].append [7, 7, 7, 7, 7, 7, 7, 7, 7, 7, 7, 7, 7, 7, 7, 7, 7, 7, 7, 7, 7, 7, 7, 7, 7, 7, 7, 7, 7, 7, 7, 7, 7, 7, 7, 7, 7, 7, 7, 7, 7, 7, 7, 7, 7, 7, 7, 7, 7, 7, 7, 7, 7, 7, 7, 7, 7, 7, 7, 7, 7, 7, 7, 7]).append ([8, 8, 8, 8, 8, 8, 8, 8, 8, 8, 8, 8, 8, 8, 8, 8, 8, 8, 8, 8, 8, 8, 8, 8, 8, 8, 8, 8, 8, 8, 8, 8, 8, 8, 8, 8, 8, 8, 8, 8, 8, 8, 8, 8, 8, 8, 8, 8, 8, 8, 8, 8, 8, 8, 8, 8, 8, 8, 8, 8, 8, 8, 8, 8].append [8, 8, 8, 8, 8, 8, 8, 8, 8, 8, 8, 8, 8, 8, 8, 8, 8, 8, 8, 8, 8, 8, 8, 8, 8, 8, 8, 8, 8, 8, 8, 8, 8, 8, 8, 8, 8, 8, 8, 8, 8, 8, 8, 8, 8, 8, 8, 8, 8, 8, 8, 8, 8, 8, 8, 8, 8, 8, 8, 8, 8, 8, 8, 8])).toArray  })) (Go.Operand.tmp 21) (.string tabS) (.int .u8 xqq) (fun v => by kernel_rfl) (fun v => by kernel_rfl) (index_tab xqq hz tabS rfl),
          owes_cvt 4 (some 23) [3] (.int .i64 (bl8 xqq)) 5 3 (Go.Operand.tmp 22) (.int .u8 (bl8 xqq)) (fun v => by kernel_rfl) (fun v => by kernel_rfl) (cvt_i64 _ hlb),
          owes_bin 5 (some 24) [0, 4] (.int .i64 ((40 + bl8 xqq : Nat) : Int)) Go.BinOp.add 3 (Go.Operand.tmp 19) (Go.Operand.tmp 23) 3 (.int .i64 40) (.int .i64 (bl8 xqq)) (fun v => by kernel_rfl) (fun v => by kernel_rfl) (add_i64 _ _ _ _ _ _ (by omega) (by omega) (by omega)),
          owes_assign 6 (some 2) [0, 5] (.int .i64 ((40 + bl8 xqq : Nat) : Int)) (Go.Operand.tmp 24) (fun v => by kernel_rfl) (fun v => by kernel_rfl), trivial⟩ ?_
        intro v w' A hA hb hall
        have h2 : A.tmps.getD 2 undef = .int .i64 ((40 + bl8 xqq : Nat) : Int) := by rw [hA]; kernel_rfl
        have hd : A.defers = [] := by rw [hA]; kernel_rfl
        clear hall hA
        go_wp2_with fail
        exact ret_slot 2 rfl h2 hd ⟨by rw [IsLen.uniq (isLen_bl8 x) hres]; congr 2; omega, hb⟩
      · have b2 : decide ((256 : Int) ≤ (xq : Int)) = false := by simp; omega
        go_upto_region 10 with (fail)
        clear b2
        have hz : xq < 256 := by omega
        have hb8 := isLen_bl8 xq
        have hlb : bl8 xq ≤ 8 := by
          rcases hb8.2 with h | h
          · omega
          · have := (Nat.pow_lt_pow_iff_right (a := 2) (by omega)).1 (Nat.lt_of_le_of_lt h (show xq < 2 ^ 8 by omega))
            omega
        have hres := U0.out _ (hb8)
        refine wp_region_text_v [Sp.k 0 (some 19) [] (.int .i64 32),
          Sp.k 1 (some 20) [] (.int .u64 xq),
          Sp.k 2 (some 21) [1] (.int .u8 xq),
          Sp.k 3 (some 22) [2] (.int .u8 (bl8 xq)),
          Sp.k 4 (some 23) [3] (.int .i64 (bl8 xq)),
          Sp.k 5 (some 24) [0, 4] (.int .i64 ((32 + bl8 xq : Nat) : Int)),
          Sp.k 6 (some 2) [0, 5] (.int .i64 ((32 + bl8 xq : Nat) : Int))] (by kernel_rfl)
          ⟨owes_move 0 (some 19) [] (.int .i64 32) (Go.Operand.tmp 2) (fun v => by kernel_rfl) (fun v => by kernel_rfl),
          owes_move 1 (some 20) [] (.int .u64 xq) (Go.Operand.tmp 0) (fun v => by kernel_rfl) (fun v => by kernel_rfl),
          owes_cvt 2 (some 21) [1] (.int .u8 xq) 72 5 (Go.Operand.tmp 20) (.int .u64 xq) (fun v => by kernel_rfl) (fun v => by kernel_rfl) (cvt_u8 xq hz),
          owes_idx 3 (some 22) [2] (.int .u8 (bl8 xq)) 9 (Go.Operand.const (Go.Value.string { data := (([0, 1, 2, 2, 3, 3, 3, 3, 4, 4, 4, 4, 4, 4, 4, 4, 5, 5, 5, 5, 5, 5, 5, 5, 5, 5, 5, 5, 5, 5, 5, 5, 6, 6, 6, 6, 6, 6, 6, 6, 6, 6, 6, 6, 6, 6, 6, 6, 6, 6, 6, 6, 6, 6, 6, 6, 6, 6, 6, 6, 6, 6, 6, 6].append [7, 7, 7, 7, 7, 7, 7, 7, 7, 7, 7, 7, 7, 7, 7, 7, 7, 7, 7, 7, 7, 7, 7, 7, 7, 7, 7, 7, 7, 7, 7, 7, 7, 7, 7, 7, 7, 7, 7, 7, 7, 7, 7, 7, 7, 7, 7, 7, 7, 7, 7, 7, 7, 7, 7, 7, 7, 7, 7, 7, 7, 7, 7, 7]).append ([8, 8, 8, 8, 8, 8, 8, 8, 8, 8, 8, 8, 8, 8, 8, 8, 8, 8, 8, 8, 8, 8, 8, 8, 8, 8, 8, 8, 8, 8, 8, 8, 8, 8, 8, 8, 8, 8, 8, 8, 8, 8, 8, 8, 8, 8, 8, 8, 8, 8, 8, 8, 8, 8, 8, 8, 8, 8, 8, 8, 8, 8, 8, 8].append [8, 8, 8, 8, 8, 8, 8, 8, 8, 8, 8, 8, 8, 8, 8, 8, 8, 8, 8, 8, 8, 8, 8, 8, 8, 8, 8, 8, 8, 8, 8, 8, 8, 8, 8, 8, 8, 8, 8, 8, 8, 8, 8, 8, 8, 8, 8, 8, 8, 8, 8, 8, 8, 8, 8, 8, 8, 8, 8, 8, 8, 8, 8, 8])).toArray  })) (Go.Operand.tmp 21) (.string tabS) (.int .u8 xq) (fun v => by kernel_rfl) (fun v => by kernel_rfl) (index_tab xq hz tabS rfl),
          owes_cvt 4 (some 23) [3] (.int .i64 (bl8 xq)) 5 3 (Go.Operand.tmp 22) (.int .u8 (bl8 xq)) (fun v => by kernel_rfl) (fun v => by kernel_rfl) (cvt_i64 _ hlb),
          owes_bin 5 (some 24) [0, 4] (.int .i64 ((32 + bl8 xq : Nat) : Int)) Go.BinOp.add 3 (Go.Operand.tmp 19) (Go.Operand.tmp 23) 3 (.int .i64 32) (.int .i64 (bl8 xq)) (fun v => by kernel_rfl) (fun v => by kernel_rfl) (add_i64 _ _ _ _ _ _ (by omega) (by omega) (by omega)),
          owes_assign 6 (some 2) [0, 5] (.int .i64 ((32 + bl8 xq : Nat) : Int)) (Go.Operand.tmp 24) (fun v => by kernel_rfl) (fun v => by kernel_rfl), trivial⟩ ?_
        intro v w' A hA hb hall
        have h2 : A.tmps.getD 2 undef = .int .i64 ((32 + bl8 xq : Nat) : Int) := by rw [hA]; kernel_rfl
        have hd : A.defers = [] := by rw [hA]; kernel_rfl
        clear hall hA
        go_wp2_with fail
        exact ret_slot 2 rfl h2 hd ⟨by rw [IsLen.uniq (isLen_bl8 x) hres]; congr 2; omega, hb⟩
  · have b0 : decide ((4294967296 : Int) ≤ (x : Int)) = false := by simp; omega
    go_upto_region 4 with (fail)
    clear b0
    by_cases h1 : 65536 ≤ x
    · have b1 : decide ((65536 : Int) ≤ (x : Int)) = true := by simp; omega
      go_upto_region 7 with (fail)
      have e1 : ((x : Int) / 65536) = ((x / 65536 : Nat) : Int) := by omega
      rw [e1]
      have u1 : ∀ n, IsLen (x / 65536) n → IsLen x (n + 16) := fun n hn => IsLen.up (k := 16) hn h1
      have l1 : x / 65536 < 65536 := by omega
      clear e1 b1
      have U1 := Lib.hid u1; clear u1
      generalize x / 65536 = xq at *
      by_cases h2 : 256 ≤ xq
      · have b2 : decide ((256 : Int) ≤ (xq : Int)) = true := by simp; omega
        go_upto_region 10 with (fail)
        have e2 : ((xq : Int) / 256) = ((xq / 256 : Nat) : Int) := by omega
        rw [e2]
        have u2 : ∀ n, IsLen (xq / 256) n → IsLen xq (n + 8) := fun n hn => IsLen.up (k := 8) hn h2
        have l2 : xq / 256 < 256 := by omega
        clear e2 b2
        have U2 := Lib.hid u2; clear u2
        generalize xq / 256 = xqq at *
        have hz : xqq < 256 := by omega
        have hb8 := isLen_bl8 xqq
        have hlb : bl8 xqq ≤ 8 := by
          rcases hb8.2 with h | h
          · omega
          · have := (Nat.pow_lt_pow_iff_right (a := 2) (by omega)).1 (Nat.lt_of_le_of_lt h (show xqq < 2 ^ 8 by omega))
            omega
        have hres := U1.out _ (U2.out _ (hb8))
        refine wp_region_text_v [Sp.k 0 (some 19) [] (.int .i64 24),
          Sp.k 1 (some 20) [] (.int .u64 xqq),
          Sp.k 2 (some 21) [1] (.int .u8 xqq),
          Sp.k 3 (some 22) [2] (.int .u8 (bl8 xqq)),
          Sp.k 4 (some 23) [3] (.int .i64 (bl8 xqq)),
          Sp.k 5 (some 24) [0, 4] (.int .i64 ((24 + bl8 xqq : Nat) : Int)),
          Sp.k 6 (some 2) [0, 5] (.int .i64 ((24 + bl8 xqq : Nat) : Int))] (by kernel_rfl)
          ⟨owes_move 0 (some 19) [] (.int .i64 24) (Go.Operand.tmp 2) (fun v => by kernel_rfl) (fun v => by kernel_rfl),
          owes_move 1 (some 20) [] (.int .u64 xqq) (Go.Operand.tmp 0) (fun v => by kernel_rfl) (fun v => by kernel_rfl),
          owes_cvt 2 (some 21) [1] (.int .u8 xqq) 72 5 (Go.Operand.tmp 20) (.int .u64 xqq) (fun v => by kernel_rfl) (fun v => by kernel_rfl) (cvt_u8 xqq hz),
          owes_idx 3 (some 22) [2] (.int .u8 (bl8 xqq)) 9 (Go.Operand.const (Go.Value.string { data := (([0, 1, 2, 2, 3, 3, 3, 3, 4, 4, 4, 4, 4, 4, 4, 4, 5, 5, 5, 5, 5, 5, 5, 5, 5, 5, 5, 5, 5, 5, 5, 5, 6, 6, 6, 6, 6, 6, 6, 6, 6, 6, 6, 6, 6, 6, 6, 6, 6, 6, 6, 6, 6, 6, 6, 6, 6, 6, 6, 6, 6, 6, 6, 6].append [7, 7, 7, 7, 7, 7, 7, 7, 7, 7, 7, 7, 7, 7, 7, 7, 7, 7, 7, 7, 7, 7, 7, 7, 7, 7, 7, 7, 7, 7, 7, 7, 7, 7, 7, 7, 7, 7, 7, 7, 7, 7, 7, 7, 7, 7, 7, 7, 7, 7, 7, 7, 7, 7, 7, 7, 7, 7, 7, 7, 7, 7, 7, 7]).append ([8, 8, 8, 8, 8, 8, 8, 8, 8, 8, 8, 8, 8, 8, 8, 8, 8, 8, 8, 8, 8, 8, 8, 8, 8, 8, 8, 8, 8, 8, 8, 8, 8, 8, 8, 8, 8, 8, 8, 8, 8, 8, 8, 8, 8, 8, 8, 8, 8, 8, 8, 8, 8, 8, 8, 8, 8, 8, 8, 8, 8, 8, 8, 8].append [8, 8, 8, 8, 8, 8, 8, 8, 8, 8, 8, 8, 8, 8, 8, 8, 8, 8, 8, 8, 8, 8, 8, 8, 8, 8, 8, 8, 8, 8, 8, 8, 8, 8, 8, 8, 8, 8, 8, 8, 8, 8, 8, 8, 8, 8, 8, 8, 8, 8, 8, 8, 8, 8, 8, 8, 8, 8, 8, 8, 8, 8, 8, 8])).toArray  })) (Go.Operand.tmp 21) (.string tabS) (.int .u8 xqq) (fun v => by kernel_rfl) (fun v => by kernel_rfl) (index_tab xqq hz tabS rfl),
          owes_cvt 4 (some 23) [3] (.int .i64 (bl8 xqq)) 5 3 (Go.Operand.tmp 22) (.int .u8 (bl8 xqq)) (fun v => by kernel_rfl) (fun v => by kernel_rfl) (cvt_i64 _ hlb),
          owes_bin 5 (some 24) [0, 4] (.int .i64 ((24 + bl8 xqq : Nat) : Int)) Go.BinOp.add 3 (Go.Operand.tmp 19) (Go.Operand.tmp 23) 3 (.int .i64 24) (.int .i64 (bl8 xqq)) (fun v => by kernel_rfl) (fun v => by kernel_rfl) (add_i64 _ _ _ _ _ _ (by omega) (by omega) (by omega)),
          owes_assign 6 (some 2) [0, 5] (.int .i64 ((24 + bl8 xqq : Nat) : Int)) (Go.Operand.tmp 24) (fun v => by kernel_rfl) (fun v => by kernel_rfl), trivial⟩ ?_
        intro v w' A hA hb hall
        have h2 : A.tmps.getD 2 undef = .int .i64 ((24 + bl8 xqq : Nat) : Int) := by rw [hA]; kernel_rfl
        have hd : A.defers = [] := by rw [hA]; kernel_rfl
        clear hall hA
        go_wp2_with fail
        exact ret_slot 2 rfl h2 hd ⟨by rw [IsLen.uniq (isLen_bl8 x) hres]; congr 2; omega, hb⟩
      · have b2 : decide ((256 : Int) ≤ (xq : Int)) = false := by simp; omega
        go_upto_region 10 with (fail)
        clear b2
        have hz : xq < 256 := by omega
        have hb8 := isLen_bl8 xq
        have hlb : bl8 xq ≤ 8 := by
          rcases hb8.2 with h | h
          · omega
          · have := (Nat.pow_lt_pow_iff_right (a := 2) (by omega)).1 (Nat.lt_of_le_of_lt h (show xq < 2 ^ 8 by omega))
            omega
        have hres := U1.out _ (hb8)
        refine wp_region_text_v [Sp.k 0 (some 19) [] (.int .i64 16),
          Sp.k 1 (some 20) [] (.int .u64 xq),
          Sp.k 2 (some 21) [1] (.int .u8 xq),
          Sp.k 3 (some 22) [2] (.int .u8 (bl8 xq)),
          Sp.k 4 (some 23) [3] (.int .i64 (bl8 xq)),
          Sp.k 5 (some 24) [0, 4] (.int .i64 ((16 + bl8 xq : Nat) : Int)),
          Sp.k 6 (some 2) [0, 5] (.int .i64 ((16 + bl8 xq : Nat) : Int))] (by kernel_rfl)
          ⟨owes_move 0 (some 19) [] (.int .i64 16) (Go.Operand.tmp 2) (fun v => by kernel_rfl) (fun v => by kernel_rfl),
          owes_move 1 (some 20) [] (.int .u64 xq) (Go.Operand.tmp 0) (fun v => by kernel_rfl) (fun v => by kernel_rfl),
          owes_cvt 2 (some 21) [1] (.int .u8 xq) 72 5 (Go.Operand.tmp 20) (.int .u64 xq) (fun v => by kernel_rfl) (fun v => by kernel_rfl) (cvt_u8 xq hz),
          owes_idx 3 (some 22) [2] (.int .u8 (bl8 xq)) 9 (Go.Operand.const (Go.Value.string { data := (([0, 1, 2, 2, 3, 3, 3, 3, 4, 4, 4, 4, 4, 4, 4, 4, 5, 5, 5, 5, 5, 5, 5, 5, 5, 5, 5, 5, 5, 5, 5, 5, 6, 6, 6, 6, 6, 6, 6, 6, 6, 6, 6, 6, 6, 6, 6, 6, 6, 6, 6, 6, 6, 6, 6, 6, 6, 6, 6, 6, 6, 6, 6, 6].append [7, 7, 7, 7, 7, 7, 7, 7, 7, 7, 7, 7, 7, 7, 7, 7, 7, 7, 7, 7, 7, 7, 7, 7, 7, 7, 7, 7, 7, 7, 7, 7, 7, 7, 7, 7, 7, 7, 7, 7, 7, 7, 7, 7, 7, 7, 7, 7, 7, 7, 7, 7, 7, 7, 7, 7, 7, 7, 7, 7, 7, 7, 7, 7]).append ([8, 8, 8, 8, 8, 8, 8, 8, 8, 8, 8, 8, 8, 8, 8, 8, 8, 8, 8, 8, 8, 8, 8, 8, 8, 8, 8, 8, 8, 8, 8, 8, 8, 8, 8, 8, 8, 8, 8, 8, 8, 8, 8, 8, 8, 8, 8, 8, 8, 8, 8, 8, 8, 8, 8, 8, 8, 8, 8, 8, 8, 8, 8, 8].append [8, 8, 8, 8, 8, 8, 8, 8, 8, 8, 8, 8, 8, 8, 8, 8, 8, 8, 8, 8, 8, 8, 8, 8, 8, 8, 8, 8, 8, 8, 8, 8, 8, 8, 8, 8, 8, 8, 8, 8, 8, 8, 8, 8, 8, 8, 8, 8, 8, 8, 8, 8, 8, 8, 8, 8, 8, 8, 8, 8, 8, 8, 8, 8])).toArray  })) (Go.Operand.tmp 21) (.string tabS) (.int .u8 xq) (fun v => by kernel_rfl) (fun v => by kernel_rfl) (index_tab xq hz tabS rfl),
          owes_cvt 4 (some 23) [3] (.int .i64 (bl8 xq)) 5 3 (Go.Operand.tmp 22) (.int .u8 (bl8 xq)) (fun v => by kernel_rfl) (fun v => by kernel_rfl) (cvt_i64 _ hlb),
          owes_bin 5 (some 24) [0, 4] (.int .i64 ((16 + bl8 xq : Nat) : Int)) Go.BinOp.add 3 (Go.Operand.tmp 19) (Go.Operand.tmp 23) 3 (.int .i64 16) (.int .i64 (bl8 xq)) (fun v => by kernel_rfl) (fun v => by kernel_rfl) (add_i64 _ _ _ _ _ _ (by omega) (by omega) (by omega)),
          owes_assign 6 (some 2) [0, 5] (.int .i64 ((16 + bl8 xq : Nat) : Int)) (Go.Operand.tmp 24) (fun v => by kernel_rfl) (fun v => by kernel_rfl), trivial⟩ ?_
        intro v w' A hA hb hall
        have h2 : A.tmps.getD 2 undef = .int .i64 ((16 + bl8 xq : Nat) : Int) := by rw [hA]; kernel_rfl
        have hd : A.defers = [] := by rw [hA]; kernel_rfl
        clear hall hA
        go_wp2_with fail
        exact ret_slot 2 rfl h2 hd ⟨by rw [IsLen.uniq (isLen_bl8 x) hres]; congr 2; omega, hb⟩
    · have b1 : decide ((65536 : Int) ≤ (x : Int)) = false := by simp; omega
      go_upto_region 7 with (fail)
      clear b1
      by_cases h2 : 256 ≤ x
      · have b2 : decide ((256 : Int) ≤ (x : Int)) = true := by simp; omega
        go_upto_region 10 with (fail)
        have e2 : ((x : Int) / 256) = ((x / 256 : Nat) : Int) := by omega
        rw [e2]
        have u2 : ∀ n, IsLen (x / 256) n → IsLen x (n + 8) := fun n hn => IsLen.up (k := 8) hn h2
        have l2 : x / 256 < 256 := by omega
        clear e2 b2
        have U2 := Lib.hid u2; clear u2
        generalize x / 256 = xq at *
        have hz : xq < 256 := by omega
        have hb8 := isLen_bl8 xq
        have hlb : bl8 xq ≤ 8 := by
          rcases hb8.2 with h | h
          · omega
          · have := (Nat.pow_lt_pow_iff_right (a := 2) (by omega)).1 (Nat.lt_of_le_of_lt h (show xq < 2 ^ 8 by omega))
            omega
        have hres := U2.out _ (hb8)
        refine wp_region_text_v [Sp.k 0 (some 19) [] (.int .i64 8),
          Sp.k 1 (some 20) [] (.int .u64 xq),
          Sp.k 2 (some 21) [1] (.int .u8 xq),
          Sp.k 3 (some 22) [2] (.int .u8 (bl8 xq)),
          Sp.k 4 (some 23) [3] (.int .i64 (bl8 xq)),
          Sp.k 5 (some 24) [0, 4] (.int .i64 ((8 + bl8 xq : Nat) : Int)),
          Sp.k 6 (some 2) [0, 5] (.int .i64 ((8 + bl8 xq : Nat) : Int))] (by kernel_rfl)
          ⟨owes_move 0 (some 19) [] (.int .i64 8) (Go.Operand.tmp 2) (fun v => by kernel_rfl) (fun v => by kernel_rfl),
          owes_move 1 (some 20) [] (.int .u64 xq) (Go.Operand.tmp 0) (fun v => by kernel_rfl) (fun v => by kernel_rfl),
          owes_cvt 2 (some 21) [1] (.int .u8 xq) 72 5 (Go.Operand.tmp 20) (.int .u64 xq) (fun v => by kernel_rfl) (fun v => by kernel_rfl) (cvt_u8 xq hz),
          owes_idx 3 (some 22) [2] (.int .u8 (bl8 xq)) 9 (Go.Operand.const (Go.Value.string { data := (([0, 1, 2, 2, 3, 3, 3, 3, 4, 4, 4, 4, 4, 4, 4, 4, 5, 5, 5, 5, 5, 5, 5, 5, 5, 5, 5, 5, 5, 5, 5, 5, 6, 6, 6, 6, 6, 6, 6, 6, 6, 6, 6, 6, 6, 6, 6, 6, 6, 6, 6, 6, 6, 6, 6, 6, 6, 6, 6, 6, 6, 6, 6, 6].append [7, 7, 7, 7, 7, 7, 7, 7, 7, 7, 7, 7, 7, 7, 7, 7, 7, 7, 7, 7, 7, 7, 7, 7, 7, 7, 7, 7, 7, 7, 7, 7, 7, 7, 7, 7, 7, 7, 7, 7, 7, 7, 7, 7, 7, 7, 7, 7, 7, 7, 7, 7, 7, 7, 7, 7, 7, 7, 7, 7, 7, 7, 7, 7]).append ([8, 8, 8, 8, 8, 8, 8, 8, 8, 8, 8, 8, 8, 8, 8, 8, 8, 8, 8, 8, 8, 8, 8, 8, 8, 8, 8, 8, 8, 8, 8, 8, 8, 8, 8, 8, 8, 8, 8, 8, 8, 8, 8, 8, 8, 8, 8, 8, 8, 8, 8, 8, 8, 8, 8, 8, 8, 8, 8, 8, 8, 8, 8, 8].append [8, 8, 8, 8, 8, 8, 8, 8, 8, 8, 8, 8, 8, 8, 8, 8, 8, 8, 8, 8, 8, 8, 8, 8, 8, 8, 8, 8, 8, 8, 8, 8, 8, 8, 8, 8, 8, 8, 8, 8, 8, 8, 8, 8, 8, 8, 8, 8, 8, 8, 8, 8, 8, 8, 8, 8, 8, 8, 8, 8, 8, 8, 8, 8])).toArray  })) (Go.Operand.tmp 21) (.string tabS) (.int .u8 xq) (fun v => by kernel_rfl) (fun v => by kernel_rfl) (index_tab xq hz tabS rfl),
          owes_cvt 4 (some 23) [3] (.int .i64 (bl8 xq)) 5 3 (Go.Operand.tmp 22) (.int .u8 (bl8 xq)) (fun v => by kernel_rfl) (fun v => by kernel_rfl) (cvt_i64 _ hlb),
          owes_bin 5 (some 24) [0, 4] (.int .i64 ((8 + bl8 xq : Nat) : Int)) Go.BinOp.add 3 (Go.Operand.tmp 19) (Go.Operand.tmp 23) 3 (.int .i64 8) (.int .i64 (bl8 xq)) (fun v => by kernel_rfl) (fun v => by kernel_rfl) (add_i64 _ _ _ _ _ _ (by omega) (by omega) (by omega)),
          owes_assign 6 (some 2) [0, 5] (.int .i64 ((8 + bl8 xq : Nat) : Int)) (Go.Operand.tmp 24) (fun v => by kernel_rfl) (fun v => by kernel_rfl), trivial⟩ ?_
        intro v w' A hA hb hall
        have h2 : A.tmps.getD 2 undef = .int .i64 ((8 + bl8 xq : Nat) : Int) := by rw [hA]; kernel_rfl
        have hd : A.defers = [] := by rw [hA]; kernel_rfl
        clear hall hA
        go_wp2_with fail
        exact ret_slot 2 rfl h2 hd ⟨by rw [IsLen.uniq (isLen_bl8 x) hres]; congr 2; omega, hb⟩
      · have b2 : decide ((256 : Int) ≤ (x : Int)) = false := by simp; omega
        go_upto_region 10 with (fail)
        clear b2
        have hz : x < 256 := by omega
        have hb8 := isLen_bl8 x
        have hlb : bl8 x ≤ 8 := by
          rcases hb8.2 with h | h
          · omega
          · have := (Nat.pow_lt_pow_iff_right (a := 2) (by omega)).1 (Nat.lt_of_le_of_lt h (show x < 2 ^ 8 by omega))
            omega
        have hres := hb8
        refine wp_region_text_v [Sp.k 0 (some 19) [] (.int .i64 0),
          Sp.k 1 (some 20) [] (.int .u64 x),
          Sp.k 2 (some 21) [1] (.int .u8 x),
          Sp.k 3 (some 22) [2] (.int .u8 (bl8 x)),
          Sp.k 4 (some 23) [3] (.int .i64 (bl8 x)),
          Sp.k 5 (some 24) [0, 4] (.int .i64 ((0 + bl8 x : Nat) : Int)),
          Sp.k 6 (some 2) [0, 5] (.int .i64 ((0 + bl8 x : Nat) : Int))] (by kernel_rfl)
          ⟨owes_move 0 (some 19) [] (.int .i64 0) (Go.Operand.tmp 2) (fun v => by kernel_rfl) (fun v => by kernel_rfl),
          owes_move 1 (some 20) [] (.int .u64 x) (Go.Operand.tmp 0) (fun v => by kernel_rfl) (fun v => by kernel_rfl),
          owes_cvt 2 (some 21) [1] (.int .u8 x) 72 5 (Go.Operand.tmp 20) (.int .u64 x) (fun v => by kernel_rfl) (fun v => by kernel_rfl) (cvt_u8 x hz),
          owes_idx 3 (some 22) [2] (.int .u8 (bl8 x)) 9 (Go.Operand.const (Go.Value.string { data := (([0, 1, 2, 2, 3, 3, 3, 3, 4, 4, 4, 4, 4, 4, 4, 4, 5, 5, 5, 5, 5, 5, 5, 5, 5, 5, 5, 5, 5, 5, 5, 5, 6, 6, 6, 6, 6, 6, 6, 6, 6, 6, 6, 6, 6, 6, 6, 6, 6, 6, 6, 6, 6, 6, 6, 6, 6, 6, 6, 6, 6, 6, 6, 6].append [7, 7, 7, 7, 7, 7, 7, 7, 7, 7, 7, 7, 7, 7, 7, 7, 7, 7, 7, 7, 7, 7, 7, 7, 7, 7, 7, 7, 7, 7, 7, 7, 7, 7, 7, 7, 7, 7, 7, 7, 7, 7, 7, 7, 7, 7, 7, 7, 7, 7, 7, 7, 7, 7, 7, 7, 7, 7, 7, 7, 7, 7, 7, 7]).append ([8, 8, 8, 8, 8, 8, 8, 8, 8, 8, 8, 8, 8, 8, 8, 8, 8, 8, 8, 8, 8, 8, 8, 8, 8, 8, 8, 8, 8, 8, 8, 8, 8, 8, 8, 8, 8, 8, 8, 8, 8, 8, 8, 8, 8, 8, 8, 8, 8, 8, 8, 8, 8, 8, 8, 8, 8, 8, 8, 8, 8, 8, 8, 8].append [8, 8, 8, 8, 8, 8, 8, 8, 8, 8, 8, 8, 8, 8, 8, 8, 8, 8, 8, 8, 8, 8, 8, 8, 8, 8, 8, 8, 8, 8, 8, 8, 8, 8, 8, 8, 8, 8, 8, 8, 8, 8, 8, 8, 8, 8, 8, 8, 8, 8, 8, 8, 8, 8, 8, 8, 8, 8, 8, 8, 8, 8, 8, 8])).toArray  })) (Go.Operand.tmp 21) (.string tabS) (.int .u8 x) (fun v => by kernel_rfl) (fun v => by kernel_rfl) (index_tab x hz tabS rfl),
          owes_cvt 4 (some 23) [3] (.int .i64 (bl8 x)) 5 3 (Go.Operand.tmp 22) (.int .u8 (bl8 x)) (fun v => by kernel_rfl) (fun v => by kernel_rfl) (cvt_i64 _ hlb),
          owes_bin 5 (some 24) [0, 4] (.int .i64 ((0 + bl8 x : Nat) : Int)) Go.BinOp.add 3 (Go.Operand.tmp 19) (Go.Operand.tmp 23) 3 (.int .i64 0) (.int .i64 (bl8 x)) (fun v => by kernel_rfl) (fun v => by kernel_rfl) (add_i64 _ _ _ _ _ _ (by omega) (by omega) (by omega)),
          owes_assign 6 (some 2) [0, 5] (.int .i64 ((0 + bl8 x : Nat) : Int)) (Go.Operand.tmp 24) (fun v => by kernel_rfl) (fun v => by kernel_rfl), trivial⟩ ?_
        intro v w' A hA hb hall
        have h2 : A.tmps.getD 2 undef = .int .i64 ((0 + bl8 x : Nat) : Int) := by rw [hA]; kernel_rfl
        have hd : A.defers = [] := by rw [hA]; kernel_rfl
        clear hall hA
        go_wp2_with fail
        exact ret_slot 2 rfl h2 hd ⟨by rw [IsLen.uniq (isLen_bl8 x) hres]; congr 2; omega, hb⟩

theorem len_any (x : Nat) (h : x < 18446744073709551616) (w : World) :
    Calls Tryd.prog 31 #[.int .u64 (x : Int)] w fun e w' => e = .returned (.int .i64 (bl8 x : Int)) ∧ Below w.heap.size w w' := by
  go_enter Tryd.func31, Tryd.ntmps31
  go_wp2_with fail
  refine (len64_any x h _).mono ?_
  rintro e w' ⟨rfl, hb⟩
  go_wp2_with fail
  go_ret
  exact ⟨rfl, hb⟩
theorem sub_i64 (t : TypeId) (x y : Operand) (a b c : Int) (h : a - b = c) (h1 : -9223372036854775808 ≤ c) (h2 : c ≤ 9223372036854775807) (w : World) : (do eqGuard .sub t x y (.int .i64 a) (.int .i64 b); binOp .sub t (.int .i64 a) (.int .i64 b) : Sem Value).run Tryd.prog w = .ok (.int .i64 c) w := by
  have hw : IntKind.i64.wrap (a - b) = c := by rw [h]; exact IntWalk.i64_in _ (by omega)
  simp [eqGuard, binOp, Op.intArith, hw]
theorem shl_one (t : TypeId) (x y : Operand) {k : Nat} (h : k ≤ 62) (w : World) : (do eqGuard .shl t x y (.int .i64 1) (.int .i64 (k : Int)); binOp .shl t (.int .i64 1) (.int .i64 (k : Int)) : Sem Value).run Tryd.prog w = .ok (.int .i64 ((2 ^ k : Nat) : Int)) w := by
  have hp : 2 ^ k ≤ 4611686018427387904 := Nat.pow_le_pow_right (n := 2) (by omega) h
  have e : ((2 ^ k : Nat) : Int) = (2 : Int) ^ k := by simp
  have key : ∀ q : Nat, q ≤ 4611686018427387904 → IntKind.i64.wrap (q : Int) = (q : Int) := fun q h => IntWalk.i64_in _ (by omega)
  have hw := key (2 ^ k) hp
  rw [e] at hw
  rw [e]
  simp [eqGuard, binOp]
  exact hw
theorem cvt_u64 (x : Nat) (h : x < 18446744073709551616) (w : World) : (convert 3 64 (.int .i64 x)).run Tryd.prog w = .ok (.int .u64 x) w := by
  have h1 := Tryd.underlying3
  have h2 := Tryd.underlying64
  have hw : IntKind.u64.wrap (x : Int) = (x : Int) := by rw [IntKind.wrap_u64]; omega
  simp [convert, run_underlying h1, run_underlying h2, Conv.intToInt, hw]
/-- how many of n are on the left -/
def spl (n : Nat) : Nat := if n < 2 then 0 else 2 ^ (bl8 (n - 1) - 1)
theorem spl_spec (n : Nat) (h : 2 ≤ n) : spl n < n ∧ n ≤ 2 * spl n := by
  unfold spl bl8
  rw [if_neg (by omega), if_neg (by omega)]
  have h1 := Nat.log2_self_le (n := n - 1) (by omega)
  have h2 := Nat.lt_log2_self (n := n - 1)
  simp only [Nat.add_sub_cancel]
  rw [Nat.pow_succ] at h2
  omega
theorem split_any (n : Int) (hn : n ≤ 4611686018427387904) (w : World) :
    Calls Tryd.prog 22 #[.int .i64 n] w fun e w' => e = .returned (.int .i64 (spl n.toNat : Int)) ∧ Below w.heap.size w w' := by
  by_cases h2 : n < 2
  · have hs : spl n.toNat = 0 := by unfold spl; rw [if_pos (by omega)]
    rw [hs]
    clear hs
    go_enter Tryd.func22, Tryd.ntmps22
    go_wp2_with fail
    go_ret
    exact ⟨rfl, Below.refl _ _⟩
  · obtain ⟨x, rfl⟩ : ∃ x : Nat, n = (x : Int) + 1 := ⟨(n - 1).toNat, by omega⟩
    have hs : spl ((x : Int) + 1).toNat = 2 ^ (bl8 x - 1) := by
      rw [show ((x : Int) + 1).toNat = x + 1 by omega]
      unfold spl; rw [if_neg (by omega), Nat.add_sub_cancel]
    rw [hs]
    clear hs
    have hl1 : 1 ≤ bl8 x := by unfold bl8; rw [if_neg (by omega)]; omega
    have hl2 : bl8 x ≤ 63 := by
      rcases (isLen_bl8 x).2 with h | h
      · omega
      · have := (Nat.pow_lt_pow_iff_right (a := 2) (by omega)).1 (Nat.lt_of_le_of_lt h (show x < 2 ^ 62 by omega))
        omega
    have b2 : decide ((x : Int) + 1 < 2) = false := by simp; omega
    go_enter Tryd.func22, Tryd.ntmps22
    go_upto_region 3 with (fail)
    refine wp_region_text_v [Sp.k 0 (some 5) [] (.int .i64 ((x : Int) + 1)),
      Sp.k 1 (some 6) [0] (.int .i64 (x : Int)),
      Sp.k 2 (some 7) [1] (.int .u64 (x : Int)),
      Sp.k 3 (some 8) [2] (.int .i64 (bl8 x : Int)),
      Sp.k 4 (some 9) [3] (.int .i64 ((bl8 x - 1 : Nat) : Int)),
      Sp.k 5 (some 10) [4] (.int .i64 ((2 ^ (bl8 x - 1) : Nat) : Int)),
      Sp.k 6 (some 2) [5] (.int .i64 ((2 ^ (bl8 x - 1) : Nat) : Int))] (by kernel_rfl)
      ⟨owes_move 0 (some 5) [] (.int .i64 ((x : Int) + 1)) (Go.Operand.tmp 0) (fun v => by kernel_rfl) (fun v => by kernel_rfl),
      owes_bin 1 (some 6) [0] (.int .i64 (x : Int)) Go.BinOp.sub 3 (Go.Operand.tmp 5) (Go.Operand.const (Go.Value.int Go.IntKind.i64 1)) 3 (.int .i64 ((x : Int) + 1)) (Go.Value.int Go.IntKind.i64 1) (fun v => by kernel_rfl) (fun v => by kernel_rfl) (sub_i64 _ _ _ _ _ _ (by omega) (by omega) (by omega)),
      owes_cvt 2 (some 7) [1] (.int .u64 (x : Int)) 3 64 (Go.Operand.tmp 6) (.int .i64 (x : Int)) (fun v => by kernel_rfl) (fun v => by kernel_rfl) (cvt_u64 x (by omega)),
      owes_call 3 (some 8) [2] (.int .i64 (bl8 x : Int)) 31 #[Go.Operand.tmp 7] #[64] (fun v => by kernel_rfl) (fun _ _ => by kernel_rfl) (fun v w' hb ho => by
          exact ⟨#[.int .u64 (x : Int)], by kernel_rfl, (len_any x (by omega) w').mono (fun _ _ h => h)⟩),
      owes_bin 4 (some 9) [3] (.int .i64 ((bl8 x - 1 : Nat) : Int)) Go.BinOp.sub 3 (Go.Operand.tmp 8) (Go.Operand.const (Go.Value.int Go.IntKind.i64 1)) 3 (.int .i64 (bl8 x : Int)) (Go.Value.int Go.IntKind.i64 1) (fun v => by kernel_rfl) (fun v => by kernel_rfl) (sub_i64 _ _ _ _ _ _ (by omega) (by omega) (by omega)),
      owes_bin 5 (some 10) [4] (.int .i64 ((2 ^ (bl8 x - 1) : Nat) : Int)) Go.BinOp.shl 3 (Go.Operand.const (Go.Value.int Go.IntKind.i64 1)) (Go.Operand.tmp 9) 3 (Go.Value.int Go.IntKind.i64 1) (.int .i64 ((bl8 x - 1 : Nat) : Int)) (fun v => by kernel_rfl) (fun v => by kernel_rfl) (shl_one _ _ _ (by omega)),
      owes_assign 6 (some 2) [5] (.int .i64 ((2 ^ (bl8 x - 1) : Nat) : Int)) (Go.Operand.tmp 10) (fun v => by kernel_rfl) (fun v => by kernel_rfl), trivial⟩ ?_
    intro v w' A hA hb hall
    have h3 : A.tmps.getD 2 undef = .int .i64 ((2 ^ (bl8 x - 1) : Nat) : Int) := by rw [hA]; kernel_rfl
    have hd : A.defers = [] := by rw [hA]; kernel_rfl
    clear hall hA
    go_wp2_with fail
    exact ret_slot 2 rfl h3 hd ⟨rfl, hb⟩
end Go.Proofs.YtihnpcoiadbpiaaDoor
