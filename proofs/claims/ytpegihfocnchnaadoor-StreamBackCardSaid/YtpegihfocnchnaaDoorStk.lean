import Derived.Test.YtpegihfocnchnaaDoorAef
/-
  courierlaw7: what its walks share.
-/
namespace Go.Proofs.YtpegihfocnchnaaDoor
open Go.RowKit

/-- key and nonce lie there -/
structure HdA (w : World) (B : Nat) (key non : Nat → BitVec 8) (W : World) : Prop where
  k : W.rowIs B 23 32 (fun i => v8 (key i))
  n : W.rowIs (B + 1) 48 12 (fun i => v8 (non i))
  b : Below B w W
theorem HdA.lt {w : World} {B : Nat} {key non : Nat → BitVec 8} {W : World} (h : HdA w B key non W) : B + 1 < W.heap.size := h.n.lt
theorem HdA.later {w : World} {B : Nat} {key non : Nat → BitVec 8} {W W' : World} {C : Nat} (h : HdA w B key non W) (hb : Below C W W') (hC : B + 1 < C) : HdA w B key non W' :=
  ⟨h.k.of_block (hb.block _ (by omega)), h.n.of_block (hb.block _ hC), h.b.trans (hb.mono (by omega))⟩
theorem HdA.next {w : World} {B : Nat} {key non : Nat → BitVec 8} {W W' : World} (h : HdA w B key non W) (hb : Below W.heap.size W W') : HdA w B key non W' := h.later hb h.lt
theorem key_load {W : World} {b : Nat} {f : Nat → BitVec 8} (h : W.rowIs b 23 32 (fun i => v8 (f i))) : (Instr.loadAt 23 (.pointer (some ⟨b, 0, none⟩))).run Tryd.prog W = .ok (.agg (arr8 32 f)) W := by
  have := load_row (P := Tryd.prog) 23 b 0 (arr8 32 f).toList _ Tryd.underlying23 rfl (by simp only [Array.length_toList, arr8_size]; kernel_rfl) W (rangeAt_row h)
  simpa using this
theorem non_load {W : World} {b : Nat} {f : Nat → BitVec 8} (h : W.rowIs b 48 12 (fun i => v8 (f i))) : (Instr.loadAt 48 (.pointer (some ⟨b, 0, none⟩))).run Tryd.prog W = .ok (.agg (arr8 12 f)) W := by
  have := load_row (P := Tryd.prog) 48 b 0 (arr8 12 f).toList _ Tryd.underlying48 rfl (by simp only [Array.length_toList, arr8_size]; kernel_rfl) W (rangeAt_row h)
  simpa using this
theorem slc_load (b o : Nat) (v : Value) (w : World) (h : w.cell? ⟨b, o, none⟩ = some v) : (Instr.loadAt 24 (.pointer (some ⟨b, o, none⟩))).run Tryd.prog w = .ok v w := by
  have h2 := Tryd.underlying24
  go_simp

/-- what was sealed is opened -/
theorem openGot_sealB (key non : Nat → BitVec 8) (ad b : List (BitVec 8)) : openGot key non ad (sealB key non ad b) = (b, 0) := by
  have h1 : (sealB key non ad b).length - 16 = (xorB key 1#32 non b).length := by simp
  unfold openGot
  rw [if_neg (by rw [sealB_length]; omega), h1]
  unfold sealB
  rw [List.take_left, List.drop_left, if_pos rfl, xorB_twice]
theorem openGot_code (key non : Nat → BitVec 8) (ad b : List (BitVec 8)) : (openGot key non ad b).2 = 0 ∨ (101 ≤ (openGot key non ad b).2 ∧ (openGot key non ad b).2 < 120) := by
  unfold openGot
  split
  · simp
  · split <;> simp
theorem openGot_long (key non : Nat → BitVec 8) (ad b : List (BitVec 8)) (h : 16 ≤ b.length) : (openGot key non ad b).2 = 0 ∨ openGot key non ad b = ([], 109) := by
  unfold openGot
  rw [if_neg (by omega)]
  split <;> simp
theorem openGot_len (key non : Nat → BitVec 8) (ad b : List (BitVec 8)) : (openGot key non ad b).1.length ≤ b.length := by
  unfold openGot
  split
  · simp
  · split <;> simp

/-- bytes that are there -/
def SlIsA (xs : List (BitVec 8)) (v : Value) (w : World) : Prop := ∃ A c, v = .slice A xs.length c ∧ xs.length ≤ c ∧ SlRead w A (ints .u8 (bys xs))
theorem SlIsA.mono {xs : List (BitVec 8)} : ∀ y w1 w2, SlIsA xs y w1 → Cells w1 w2 → SlIsA xs y w2 := by
  rintro y w1 w2 ⟨A, c, h1, h2, h3⟩ hb
  exact ⟨A, c, h1, h2, h3.cells hb⟩
/-- bytes and what goes with them -/
def TupS (xs : List (BitVec 8)) (r : Value) (v : Value) (w : World) : Prop := ∃ A c, v = .tuple #[.slice A xs.length c, r] ∧ xs.length ≤ c ∧ SlRead w A (ints .u8 (bys xs))
theorem TupS.mono {xs : List (BitVec 8)} {r : Value} : ∀ y w1 w2, TupS xs r y w1 → Cells w1 w2 → TupS xs r y w2 := by
  rintro y w1 w2 ⟨A, c, h1, h2, h3⟩ hb
  exact ⟨A, c, h1, h2, h3.cells hb⟩
theorem OwnB.is {w : World} {B : Nat} {zs : List (BitVec 8)} {v : Value} {W : World} (h : OwnB w B zs v W) : SlIsA zs v W := by
  obtain ⟨A, c, rfl, hc⟩ := ownsRow_form h.own
  refine ⟨A, c, rfl, ?_, SlRead.of_own h.own⟩
  rcases Nat.eq_zero_or_pos zs.length with h0 | h0
  · omega
  · exact hc h0
theorem openT {E : Nat → Addr} {key non : Nat → BitVec 8} {A X : Option Addr} {ad b : List (BitVec 8)} {ca cx : Nat} {w : World} (hE : ErrsAt E w) (hA : SlRead w A (ints .u8 (bys ad))) (hX : SlRead w X (ints .u8 (bys b))) (hla : ad.length ≤ 1000) (hlx : b.length ≤ 1000) (hcx : b.length ≤ cx) :
    Calls Tryd.prog 29 #[.agg (arr8 32 key), .agg (arr8 12 non), .slice A ad.length ca, .slice X b.length cx] w fun e w' => ∃ v, e = .returned v ∧ TupS (openGot key non ad b).1 (errC E (openGot key non ad b).2) v w' ∧ Below w.heap.size w w' := by
  refine (open_any E key non A X ad b ca cx w hE hA hX hla hlx hcx).mono ?_
  rintro e w' ⟨v, rfl, h⟩
  obtain ⟨O, c, rfl, h2, h3⟩ := h.is
  exact ⟨_, rfl, ⟨O, c, rfl, h2, h3⟩, h.b⟩
theorem dopenT {key non : Nat → BitVec 8} {A X : Option Addr} {ad b : List (BitVec 8)} {ca cx : Nat} {w : World} (hA : SlRead w A (ints .u8 (bys ad))) (hX : SlRead w X (ints .u8 (bys b))) (hla : ad.length ≤ 1000) (hlx : b.length ≤ 1000) (hcx : b.length ≤ cx) :
    Calls Tryd.prog 30 #[.agg (arr8 32 key), .agg (arr8 12 non), .slice A ad.length ca, .slice X b.length cx] w fun e w' => ∃ v, e = .returned v ∧ TupS (openGot key non ad b).1 (.int .i64 ((openGot key non ad b).2 : Int)) v w' ∧ Below w.heap.size w w' := by
  refine (dopen_any key non A X ad b ca cx w hA hX hla hlx hcx).mono ?_
  rintro e w' ⟨v, rfl, h⟩
  obtain ⟨O, c, rfl, h2, h3⟩ := h.is
  exact ⟨_, rfl, ⟨O, c, rfl, h2, h3⟩, h.b⟩
theorem same_true (A B : Option Addr) (xs : List (BitVec 8)) (ca cb : Nat) (w : World) (hA : SlRead w A (ints .u8 (bys xs))) (hB : SlRead w B (ints .u8 (bys xs))) (hx : xs.length ≤ 100000) :
    Quiets Tryd.prog 12 #[.slice A xs.length ca, .slice B xs.length cb] w (.bool true) := by
  have h := sameBytes_any A B (bys xs) (bys xs) ca cb w hA hB (by rw [bys_length]; omega) (by rw [bys_length]; omega)
  rw [bys_length, show decide (bys xs = bys xs) = true by simp] at h
  exact h
theorem bytes_own (A : Option Addr) (xs : List (BitVec 8)) (ca : Nat) (w : World) (hA : SlRead w A (ints .u8 (bys xs))) (hx : xs.length ≤ 100000) :
    Calls Tryd.prog 22 #[.slice A xs.length ca] w fun e w' => ∃ v, e = .returned v ∧ OwnB w w.heap.size xs v w' := by
  have h := bytes_any A (bys xs) ca w hA (by rw [bys_length]; omega)
  rw [bys_length] at h
  exact h.mono fun e w' ⟨v, h1, h2, h3⟩ => ⟨v, h1, h2, h3, h3.size⟩
/-- a byte of one's own row, another -/
theorem own_set {w : World} {base g cap : Nat} {ds : List (BitVec 8)} (h : w.ownsRow base 5 1 (.slice (some ⟨g, 0, none⟩) ds.length cap) ds.length (ints .u8 (bys ds))) (k : Nat) (y : BitVec 8) :
    (w.setCell ⟨g, k, none⟩ (v8 y)).ownsRow base 5 1 (.slice (some ⟨g, 0, none⟩) (ds.set k y).length cap) (ds.set k y).length (ints .u8 (bys (ds.set k y))) := by
  have h1 := (h.stored k (v8 y)).1
  rw [List.length_set]
  have e : (ints .u8 (bys ds)).set k (v8 y) = ints .u8 (bys (ds.set k y)) := by
    rw [bys_ints, bys_ints, List.map_set]
  rw [e] at h1
  exact h1
end Go.Proofs.YtpegihfocnchnaaDoor
