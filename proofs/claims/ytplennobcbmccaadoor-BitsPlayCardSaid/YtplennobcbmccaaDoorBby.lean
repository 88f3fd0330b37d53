import Derived.Test.YtplennobcbmccaaDoorBits3
import Derived.Test.YtplennobcbmccaaDoorByt
namespace Go.Proofs.YtplennobcbmccaaDoor
open Go.RowKit

/-- byte q of the first m pieces -/
def byteAt (l : List Bool) (m q : Nat) : BitVec 8 := (List.range 8).foldl (fun acc r => if 8 * q + r < m ∧ l.getD (8 * q + r) false = true then acc ||| (1#8 <<< r) else acc) 0#8
theorem one_bit : ∀ x, x < 8 → ∀ r, r < 8 → (1#8 <<< x).getLsbD r = decide (r = x) := by decide
theorem fold_bit (c : Nat → Prop) [DecidablePred c] (r : Nat) (hr : r < 8) : ∀ (L : List Nat) (acc : BitVec 8), (∀ x ∈ L, x < 8) → (L.foldl (fun acc r => if c r then acc ||| (1#8 <<< r) else acc) acc).getLsbD r = (acc.getLsbD r || (decide (r ∈ L) && decide (c r)))
  | [], acc, _ => by simp
  | x :: L, acc, h => by
    simp only [List.foldl_cons]
    rw [fold_bit c r hr L _ (fun y hy => h y (List.mem_cons_of_mem _ hy))]
    have hx : x < 8 := h x (List.mem_cons_self ..)
    by_cases hc : c x
    · rw [if_pos hc, BitVec.getLsbD_or, one_bit x hx r hr]
      by_cases e : r = x
      · subst e; simp [hc]
      · simp [e]
    · rw [if_neg hc]
      by_cases e : r = x
      · subst e; simp [hc]
      · simp [e]
theorem byteAt_bit (l : List Bool) (m q r : Nat) (hr : r < 8) : (byteAt l m q).getLsbD r = (decide (8 * q + r < m) && l.getD (8 * q + r) false) := by
  unfold byteAt
  rw [fold_bit (fun r => 8 * q + r < m ∧ l.getD (8 * q + r) false = true) r hr _ _ (by intro x hx; simpa using hx)]
  simp only [BitVec.getLsbD_zero, Bool.false_or]
  rw [show decide (r ∈ List.range 8) = true by simp [hr], Bool.true_and]
  by_cases h : 8 * q + r < m <;> simp [h]
theorem byte_ext {x y : BitVec 8} (h : ∀ r, r < 8 → x.getLsbD r = y.getLsbD r) : x = y := BitVec.eq_of_getLsbD_eq fun i hi => h i hi
theorem byteAt_zero (l : List Bool) (q : Nat) : byteAt l 0 q = 0#8 := byte_ext fun r hr => by rw [byteAt_bit l 0 q r hr]; simp
theorem byteAt_succ (l : List Bool) (m q : Nat) : byteAt l (m + 1) q = if m / 8 = q ∧ l.getD m false = true then byteAt l m q ||| (1#8 <<< (m % 8)) else byteAt l m q := by
  apply byte_ext
  intro r hr
  by_cases h : m / 8 = q ∧ l.getD m false = true
  · rw [if_pos h, BitVec.getLsbD_or, byteAt_bit _ _ _ _ hr, byteAt_bit _ _ _ _ hr, one_bit (m % 8) (Nat.mod_lt _ (by omega)) r hr]
    by_cases e : r = m % 8
    · have e2 : 8 * q + r = m := by omega
      rw [e2, h.2]
      simp [e]
    · have e2 : (8 * q + r < m + 1) ↔ (8 * q + r < m) := by omega
      simp [e, e2]
  · rw [if_neg h, byteAt_bit _ _ _ _ hr, byteAt_bit _ _ _ _ hr]
    by_cases e : 8 * q + r = m
    · have h2 : l.getD m false = false := by
        have : m / 8 = q := by omega
        cases hh : l.getD m false with
        | true => exact absurd ⟨this, hh⟩ h
        | false => rfl
      rw [e, h2]
      simp
    · have e2 : (8 * q + r < m + 1) ↔ (8 * q + r < m) := by omega
      simp [e2]
/-- bit i of bytes -/
def bitOf (bs : List (BitVec 8)) (i : Nat) : Bool := (bs.getD (i / 8) 0#8).getLsbD (i % 8)
/-- the pieces that bytes tell of, as far as the first k bits have been read -/
def readOf (bs : List (BitVec 8)) (N k : Nat) : List Bool := (List.range N).map fun i => decide (i < k) && bitOf bs i
@[simp] theorem readOf_length (bs : List (BitVec 8)) (N k : Nat) : (readOf bs N k).length = N := by simp [readOf]
theorem readOf_get (bs : List (BitVec 8)) (N k i : Nat) (h : i < N) : (readOf bs N k).getD i false = (decide (i < k) && bitOf bs i) := by
  simp [readOf, List.getD, h]
theorem readOf_zero (bs : List (BitVec 8)) (N : Nat) : readOf bs N 0 = List.replicate N false := by
  apply List.ext_getElem?
  intro i
  by_cases h : i < N
  · simp [readOf, h]
  · simp [readOf, h]
theorem readOf_no (bs : List (BitVec 8)) (N k : Nat) (h : bitOf bs k = false) : readOf bs N (k + 1) = readOf bs N k := by
  apply List.ext_getElem?
  intro i
  by_cases hi : i < N
  · simp only [readOf, List.getElem?_map, List.getElem?_range hi, Option.map_some]
    by_cases e : i = k
    · subst e; simp [h]
    · have e2 : (i < k + 1) ↔ (i < k) := by omega
      simp [e2]
  · simp [readOf, hi]
theorem readOf_yes (bs : List (BitVec 8)) (N k : Nat) (h : bitOf bs k = true) (hk : k < N) : readOf bs N (k + 1) = (readOf bs N k).set k true := by
  apply List.ext_getElem?
  intro i
  by_cases hi : i < N
  · by_cases e : i = k
    · subst e; simp [readOf, h, hi]
    · have e2 : (i < k + 1) ↔ (i < k) := by omega
      rw [List.getElem?_set_ne (fun x => e x.symm)]
      simp [readOf, hi, e2]
  · rw [List.getElem?_eq_none (by simp; omega), List.getElem?_eq_none (by simp; omega)]
/-- no bit beyond the last piece -/
def NoMore (bs : List (BitVec 8)) (N : Nat) : Prop := ∀ i, N ≤ i → i < 8 * bs.length → bitOf bs i = false
/-- written again they are the bytes -/
theorem bytes_read (bs : List (BitVec 8)) (N : Nat) (hl : bs.length = (N + 7) / 8) (h : NoMore bs N) (q : Nat) (hq : q < bs.length) : byteAt (readOf bs N (8 * bs.length)) N q = bs.getD q 0#8 := by
  apply byte_ext
  intro r hr
  rw [byteAt_bit _ _ _ _ hr]
  have hb : bitOf bs (8 * q + r) = (bs.getD q 0#8).getLsbD r := by
    unfold bitOf
    rw [show (8 * q + r) / 8 = q by omega, show (8 * q + r) % 8 = r by omega]
  by_cases hn : 8 * q + r < N
  · rw [readOf_get _ _ _ _ hn, hb]
    have : 8 * q + r < 8 * bs.length := by omega
    simp [hn, this]
  · rw [← hb, h _ (by omega) (by omega)]
    simp [hn]
/-- read again they are the pieces -/
theorem read_bytes (l : List Bool) (bs : List (BitVec 8)) (hl : bs.length = (l.length + 7) / 8) (hb : ∀ q, q < bs.length → bs.getD q 0#8 = byteAt l l.length q) : readOf bs l.length (8 * bs.length) = l ∧ NoMore bs l.length := by
  have key : ∀ i, i < 8 * bs.length → bitOf bs i = (decide (i < l.length) && l.getD i false) := fun i hi => by
    unfold bitOf
    rw [hb _ (by omega), byteAt_bit _ _ _ _ (Nat.mod_lt _ (by omega)), show 8 * (i / 8) + i % 8 = i by omega]
  constructor
  · apply List.ext_getElem?
    intro i
    by_cases hi : i < l.length
    · have h8 : i < 8 * bs.length := by omega
      simp [readOf, hi, h8, key i h8]
    · rw [List.getElem?_eq_none (by simp; omega), List.getElem?_eq_none (by omega)]
  · intro i h1 h2
    rw [key i h2]
    simp [Nat.not_lt.2 h1]
end Go.Proofs.YtplennobcbmccaaDoor
