import Derived.Test.YtpegihfocnchnaaStk
import Derived.Deep.AppendLies
import Derived.WalkLawsBesides
/-
  stream: Count, Piece, the nonce, Seal, Open.
-/
namespace Go.Proofs.Ytpegihfocnchnaa
open Go.RowKit

theorem quo_i64S (t : TypeId) (x y : Operand) (a b : Nat) (hb : 0 < b) (h2 : a ≤ 9223372036854775807) (w : World) : (do eqGuard .quo t x y (.int .i64 (a : Int)) (.int .i64 (b : Int)); binOp .quo t (.int .i64 (a : Int)) (.int .i64 (b : Int)) : Sem Value).run Try.prog w = .ok (.int .i64 ((a / b : Nat) : Int)) w := by
  have hm : ((a : Int).tdiv (b : Int)) = ((a / b : Nat) : Int) := by rw [Int.tdiv_eq_ediv_of_nonneg (by omega)]; simp
  have hl : a / b ≤ a := Nat.div_le_self _ _
  have hb1 : ¬ b = 0 := by omega
  obtain ⟨q, hq⟩ : ∃ q, q = a / b := ⟨_, rfl⟩
  rw [← hq] at hm hl ⊢
  have hw : IntKind.i64.wrap (q : Int) = (q : Int) := IntWalk.i64_in _ (by omega)
  simp [eqGuard, binOp, Op.intDiv, hb1, hm]
  try exact hw
theorem mul_i64S (t : TypeId) (x y : Operand) (a b c : Int) (h : a * b = c) (h1 : -9223372036854775808 ≤ c) (h2 : c ≤ 9223372036854775807) (w : World) : (do eqGuard .mul t x y (.int .i64 a) (.int .i64 b); binOp .mul t (.int .i64 a) (.int .i64 b) : Sem Value).run Try.prog w = .ok (.int .i64 c) w := by
  have hw : IntKind.i64.wrap (a * b) = c := by rw [h]; exact IntWalk.i64_in _ (by omega)
  simp [eqGuard, binOp, Op.intArith, hw]
section
variable {P : Program} {ops : Array Oper} {l : List Sp} {a : Act} {w : World}
theorem owes_max (i : Nat) (dst : Option Tmp) (anc : List Nat) (r : Value) (x y : Operand) (t u ty : TypeId) (vx vy : Value) (hop : ∀ v, ops[i]?.map (fun o => (o.op, Region.wanted o (yielded ops (fr l anc a v).tmps))) = some (.call { callee := .builtin .max, args := #[x, y], argTypes := #[t, u] }, true)) (hty : ops[i]?.map (·.type) = some ty)
    (hx : ∀ v, ((fr l anc a v).eval x, (fr l anc a v).eval y) = (vx, vy)) (he : ∀ w, (Builtin.max_ #[t, u] ty #[vx, vy]).run P w = .ok r w) : Owes P ops l a w (Sp.k i dst anc r) :=
  .mk_k fun v w' hb ho o hi => by
    have h := hop v
    have hx := hx v
    simp only [Prod.mk.injEq] at hx
    rw [hi] at h hty
    simp only [Option.map_some, Option.some.injEq, Prod.mk.injEq] at h hty
    refine .value (v := r) (w' := w') h.2 ?_ ⟨Below.refl _ _, Cells.refl _, rfl⟩
    simp only [execOp, h.1, resolve, invoke, builtin, Sem.run_bind, Sem.run_pure, Result.andThen_ok, List.map_toArray, List.map_cons, List.map_nil, hx.1, hx.2, hty, he w']
end
theorem held_extractS {P : Program} {md : Region.Mode} {ops : Array Oper} {S : World → Prop} {Q : Exit → Act → World → Prop} {listed : Array Bool} {fuel : Nat} {a : Act} {w : World} (i : Nat) (x : Operand) (k : Nat) (dst : Option Tmp) (vs : Array Value) (v : Value) (hi : ops[i]?.map (fun o => (o.op, o.dst, Region.wanted o (yielded ops a.tmps))) = some (.extract x k, dst, true))
    (hx : a.eval x = .tuple vs) (hv : ∀ w, (Instr.extract (.tuple vs) k).run P w = .ok v w) (hs : Region.noSelect ops = true) (hf : Region.free md ops listed i = true) (hr : (Region.ready md ops listed).contains i = true)
    (hQ : ∀ c a v d w, Q (.panic c) (a.put d v) w → Q (.panic c) a w) (hw : S w)
    (h : wpAnyH P md ops Q S fuel (listed.setIfInBounds i true) (a.put dst v) w) : wpAnyH P md ops Q S (fuel + 1) listed a w :=
  held_any i _ dst v hi hs hf hr hQ hw (fun o ho w _ => by unfold execOp; simp [ho, hx, hv, Result.andThen]) h
theorem max_i64 (a b c : Int) (h : (if a < b then b else a) = c) (w : World) : (Builtin.max_ #[3, 3] 3 #[.int .i64 a, .int .i64 b]).run Try.prog w = .ok (.int .i64 c) w := by
  rw [run_max_int2, h]

/-- a chunk's length -/
def oneN (ch : Int) : Nat := if ch < 1 then 1 else ch.toNat
theorem oneN_pos (ch : Int) : 0 < oneN ch := by unfold oneN; split <;> omega
theorem oneN_max (ch : Int) : (if ch < 1 then (1 : Int) else ch) = (oneN ch : Int) := by unfold oneN; split <;> omega
/-- how many chunks -/
def countN (size ch : Int) : Nat := if size < 1 then 1 else 1 + (size.toNat - 1) / oneN ch
theorem countN_pos (size ch : Int) : 1 ≤ countN size ch := by
  unfold countN
  split
  · exact Nat.le_refl _
  · exact Nat.le_add_right 1 _
set_option maxRecDepth 100000 in
theorem count_any (size ch : Int) (w : World) (hs : size ≤ 4611686018427387904) :
    Calls Try.prog 6 #[.int .i64 size, .int .i64 ch] w fun e w' => e = .returned (.int .i64 (countN size ch : Int)) ∧ Below w.heap.size w w' := by
  go_enter Try.func6, Try.ntmps6
  by_cases h1 : size < 1
  · have d1 : decide (size < 1) = true := by simpa using h1
    have e1 : countN size ch = 1 := by unfold countN; rw [if_pos h1]
    go_wp2_with fail
    go_ret
    rw [e1]
    exact ⟨rfl, Below.refl _ _⟩
  · obtain ⟨s, rfl⟩ : ∃ s : Nat, size = (s : Int) + 1 := ⟨(size - 1).toNat, by omega⟩
    have d1 : decide ((s : Int) + 1 < 1) = false := by simp; omega
    have hd := oneN_max ch
    have hp := oneN_pos ch
    have e1 : countN ((s : Int) + 1) ch = 1 + s / oneN ch := by unfold countN; rw [if_neg h1, show (((s : Int) + 1).toNat - 1) = s by omega]
    rw [e1]
    generalize oneN ch = d at hd hp ⊢
    have hq := Nat.div_le_self s d
    have hq0 : (0 : Int) ≤ ((s / d : Nat) : Int) := Int.natCast_nonneg _
    clear e1 h1
    go_upto_region 3 with (fail)
    refine wp_region_text [Sp.k 0 (some 7) [] (.int .i64 ((s : Int) + 1)),
      Sp.k 1 (some 8) [0] (.int .i64 (s : Int)),
      Sp.k 2 (some 9) [] (.int .i64 ch),
      Sp.k 3 (some 10) [2] (.int .i64 (d : Int)),
      Sp.k 4 (some 11) [1, 3] (.int .i64 ((s / d : Nat) : Int)),
      Sp.k 5 (some 12) [4] (.int .i64 ((1 + s / d : Nat) : Int)),
      Sp.k 6 (some 4) [5] (.int .i64 ((1 + s / d : Nat) : Int))] (by kernel_rfl)
      ⟨owes_move 0 (some 7) [] (.int .i64 ((s : Int) + 1)) (Go.Operand.tmp 0) (fun v => by kernel_rfl) (fun v => by kernel_rfl),
      owes_bin 1 (some 8) [0] (.int .i64 (s : Int)) Go.BinOp.sub 3 (Go.Operand.tmp 7) (Go.Operand.const (Go.Value.int Go.IntKind.i64 1)) 3 (.int .i64 ((s : Int) + 1)) (Go.Value.int Go.IntKind.i64 1) (fun v => by kernel_rfl) (fun v => by kernel_rfl) (sub_i64A _ _ _ _ _ _ (by omega) (by omega) (by omega)),
      owes_move 2 (some 9) [] (.int .i64 ch) (Go.Operand.tmp 1) (fun v => by kernel_rfl) (fun v => by kernel_rfl),
      owes_max 3 (some 10) [2] (.int .i64 (d : Int)) (.tmp 9) (.const (.int .i64 1)) 3 3 3 (.int .i64 ch) (.int .i64 1) (fun v => by kernel_rfl) (by kernel_rfl) (fun v => by kernel_rfl) (fun w => max_i64 _ _ _ hd w),
      owes_bin 4 (some 11) [1, 3] (.int .i64 ((s / d : Nat) : Int)) Go.BinOp.quo 3 (Go.Operand.tmp 8) (Go.Operand.tmp 10) 3 (.int .i64 (s : Int)) (.int .i64 (d : Int)) (fun v => by kernel_rfl) (fun v => by kernel_rfl) (quo_i64S _ _ _ s d (by omega) (by omega)),
      owes_bin 5 (some 12) [4] (.int .i64 ((1 + s / d : Nat) : Int)) Go.BinOp.add 3 (Go.Operand.const (Go.Value.int Go.IntKind.i64 1)) (Go.Operand.tmp 11) 3 (Go.Value.int Go.IntKind.i64 1) (.int .i64 ((s / d : Nat) : Int)) (fun v => by kernel_rfl) (fun v => by kernel_rfl) (add_i64 _ _ _ _ _ _ (by omega) (by omega) (by omega)),
      owes_assign 6 (some 4) [5] (.int .i64 ((1 + s / d : Nat) : Int)) (Go.Operand.tmp 12) (fun v => by kernel_rfl) (fun v => by kernel_rfl), trivial⟩ ?_
    intro v w' hb' hall
    clear hall
    simp only [putsL_k, putsL_nil, List.set_cons_zero, List.set_cons_succ]
    go_wp2_with fail
    go_ret
    exact ⟨rfl, hb'⟩

/-- chunk i of a file -/
def pieceL (file : List (BitVec 8)) (ch i : Int) : List (BitVec 8) := if i < 0 ∨ (countN file.length ch : Int) ≤ i then [] else (file.drop (i.toNat * oneN ch)).take (oneN ch)
theorem pieceL_len (file : List (BitVec 8)) (ch i : Int) : (pieceL file ch i).length ≤ file.length := by
  unfold pieceL
  split
  · simp
  · rw [List.length_take, List.length_drop]; omega
set_option maxRecDepth 100000 in
theorem clone_any (A : Option Addr) (bs : List (BitVec 8)) (ca : Nat) (w : World) (hA : SlRead w A (ints .u8 (bys bs))) (hl : bs.length ≤ 100000) :
    Calls Try.prog 10 #[.slice A bs.length ca] w fun e w' => ∃ r, e = .returned r ∧ Below w.heap.size w w' ∧ SlIsA bs r w' := by
  go_enter Try.func10, Try.ntmps10
  cases A with
  | none =>
    have hn : bs = [] := by
      cases bs with
      | nil => rfl
      | cons x r => obtain ⟨b, o, e, _⟩ := hA (by simp [ints, bys]); cases e
    subst hn
    have hc0 : ∀ w : World, (binOp .eql 22 (.slice none 0 ca) (.slice none 0 0)).run Try.prog w = .ok (.bool true) w := fun w => Lib.run_eql_slice_nil w 22 5 none 0 ca 0 0 Try.underlying22
    go_wp2_with fail
    go_ret
    exact ⟨_, rfl, Below.refl _ _, none, 0, rfl, by simp, SlRead.nil_⟩
  | some ad =>
    have hown : (w.alloc (.cells #[] 5)).ownsRow w.heap.size 5 1 (.slice (some ⟨w.heap.size, 0, none⟩) 0 0) 0 [] := ⟨rfl, .inr ⟨w.heap.size, 0, #[], rfl, Nat.le_refl _, heap_alloc_new _ _, Nat.le_refl _, by unfold maxLen; omega, rfl, rfl⟩⟩
    have hb0 : Below w.heap.size w (w.alloc (.cells #[] 5)) := (Below.refl _ _).alloc (Nat.le_refl _) _
    have hA0 := hA.below hb0
    have hle : ([] : List (BitVec 8)).length + bs.length ≤ 140737488352000 := by simp; omega
    have hc0 : ∀ w : World, (binOp .eql 22 (.slice (some ad) bs.length ca) (.slice none 0 0)).run Try.prog w = .ok (.bool false) w := fun w => Lib.run_eql_slice_nil w 22 5 (some ad) bs.length ca 0 0 Try.underlying22
    go_wp2_with (at_builtin; refine push_many rfl _ _ rfl (w.alloc (.cells #[] 5)) w.heap.size (.slice (some ⟨w.heap.size, 0, none⟩) 0 0) [] (some ad) bs ca rfl rfl hown hA0 hb0.size hle ?_; intro v' W1 hown1 hb1 hg1 hg2; clear hg1 hg2)
    rw [List.nil_append] at hown1
    have his := OwnB.is (w := w) (B := w.heap.size) ⟨hown1, hb0.trans hb1, (hb0.trans hb1).size⟩
    have hfin := hb0.trans hb1
    clear hown hb0 hA0 hown1 hb1
    go_wp2_with fail
    go_ret
    exact ⟨_, rfl, hfin, his⟩
set_option maxRecDepth 100000 in
set_option maxHeartbeats 1600000 in
theorem piece_any (A : Option Addr) (file : List (BitVec 8)) (ca : Nat) (ch i : Int) (w : World) (hA : SlRead w A (ints .u8 (bys file))) (hca : file.length ≤ ca) (hl : file.length ≤ 1000) :
    Calls Try.prog 7 #[.slice A file.length ca, .int .i64 ch, .int .i64 i] w fun e w' => ∃ r, e = .returned r ∧ Below w.heap.size w w' ∧ SlIsA (pieceL file ch i) r w' := by
  have hd := oneN_max ch
  have hp := oneN_pos ch
  have hcN := count_any (file.length : Int) (oneN ch : Int)
  have hoo : oneN (oneN ch : Int) = oneN ch := by
    have : ¬ ((oneN ch : Int) < 1) := by omega
    generalize oneN ch = d at this ⊢
    unfold oneN
    rw [if_neg this]
    simp
  have hcc : countN (file.length : Int) (oneN ch : Int) = countN file.length ch := by unfold countN; rw [hoo]
  rw [hcc] at hcN
  have hpl : pieceL file ch i = if i < 0 ∨ (countN file.length ch : Int) ≤ i then [] else (file.drop (i.toNat * oneN ch)).take (oneN ch) := rfl
  have hcv : countN file.length ch = if ((file.length : Nat) : Int) < 1 then 1 else 1 + (file.length - 1) / oneN ch := by unfold countN; simp
  go_enter Try.func7, Try.ntmps7
  generalize oneN ch = d at hd hp hcN hpl hcv ⊢
  generalize countN file.length ch = N at hcN hpl hcv ⊢
  have HPL := Lib.hid hpl
  have HCV := Lib.hid hcv
  clear hpl hcv hoo hcc
  go_upto_region 1 with (fail)
  refine wp_region_text [Sp.k 0 (some 8) [] (.int .i64 ch),
    Sp.k 1 (some 9) [0] (.int .i64 (d : Int)),
    Sp.k 2 (some 1) [0, 1] (.int .i64 (d : Int))] (by kernel_rfl)
    ⟨owes_move 0 (some 8) [] (.int .i64 ch) (Go.Operand.tmp 1) (fun v => by kernel_rfl) (fun v => by kernel_rfl),
    owes_max 1 (some 9) [0] (.int .i64 (d : Int)) (.tmp 8) (.const (.int .i64 1)) 3 3 3 (.int .i64 ch) (.int .i64 1) (fun v => by kernel_rfl) (by kernel_rfl) (fun v => by kernel_rfl) (fun w => max_i64 _ _ _ hd w),
    owes_assign 2 (some 1) [0, 1] (.int .i64 (d : Int)) (Go.Operand.tmp 9) (fun v => by kernel_rfl) (fun v => by kernel_rfl), trivial⟩ ?_
  intro v w1 hb1 hall
  clear hall hd
  simp only [putsL_k, putsL_nil, List.set_cons_zero, List.set_cons_succ]
  by_cases hi : i < 0
  · have d1 : decide (i < 0) = true := by simpa using hi
    have e1 : pieceL file ch i = [] := by rw [HPL.out, if_pos (.inl hi)]
    go_wp2_with fail
    go_ret
    rw [e1]
    exact ⟨_, rfl, hb1, none, 0, rfl, by simp, SlRead.nil_⟩
  obtain ⟨i, rfl⟩ : ∃ k : Nat, i = (k : Int) := ⟨i.toNat, by omega⟩
  have d1 : decide ((i : Int) < 0) = false := by simp
  have HCN := Lib.hid (hcN w1 (by omega))
  clear hcN
  go_wp2_with fail
  refine HCN.out.mono ?_
  rintro e w2 ⟨rfl, hb2⟩
  have hb := hb1.trans (hb2.mono hb1.size)
  clear hb1 hb2
  by_cases hN : (N : Int) ≤ (i : Int)
  · have d2 : decide (N ≤ i) = true := by simp; omega
    have d3 : decide ((N : Int) ≤ (i : Int)) = true := by simpa using hN
    have e1 : pieceL file ch (i : Int) = [] := by rw [HPL.out, if_pos (.inr hN)]
    go_wp2_with fail
    go_ret
    rw [e1]
    exact ⟨_, rfl, hb, none, 0, rfl, by simp, SlRead.nil_⟩
  · have d2 : decide (N ≤ i) = false := by simp; omega
    have d3 : decide ((N : Int) ≤ (i : Int)) = false := by simpa using hN
    have hid : i * d ≤ file.length := by
      have h := HCV.out
      by_cases hz : ((file.length : Nat) : Int) < 1
      · rw [if_pos hz] at h
        have : i = 0 := by omega
        subst this
        omega
      · rw [if_neg hz] at h
        have h1 : i ≤ (file.length - 1) / d := by omega
        have h2 : i * d ≤ (file.length - 1) / d * d := Nat.mul_le_mul_right _ h1
        have h3 : (file.length - 1) / d * d ≤ file.length - 1 := Nat.div_mul_le_self _ _
        omega
    have e1 : pieceL file ch (i : Int) = (file.drop (i * d)).take d := by
      rw [HPL.out, if_neg (by omega)]
      simp
    have HE := Lib.hid e1
    clear e1
    have hA2 := (hA.below hb).cut (i * d) (cutA A (i * d) ca) (fun hlt b' o' e => by subst e; exact cutA_some (by simpa using hlt) hca)
    rw [bys_drop] at hA2
    obtain ⟨f2, hf2⟩ : ∃ f2, f2 = file.drop (i * d) := ⟨_, rfl⟩
    have hn2 : file.length - i * d = f2.length := by rw [hf2, List.length_drop]
    rw [← hf2] at hA2
    have HF2 := Lib.hid hf2
    have hl0 : file.length ≤ 1000 := hl
    obtain ⟨n, hn⟩ : ∃ n, n = file.length := ⟨_, rfl⟩
    rw [← hn] at hn2 hid hca ⊢
    have hn1 : n ≤ 1000 := by rw [hn]; exact hl
    clear hf2 hn hN HCV HPL HCN
    go_upto_region 4 with (fail)
    refine wp_region_text [Sp.k 0 (some 20) [] (.slice A n ca),
      Sp.k 1 (some 21) [] (.int .i64 (i : Int)),
      Sp.k 2 (some 22) [] (.int .i64 (d : Int)),
      Sp.k 3 (some 23) [1, 2] (.int .i64 ((i * d : Nat) : Int)),
      Sp.k 4 (some 24) [0, 3] (.slice (cutA A (i * d) ca) (n - i * d) (ca - i * d)),
      Sp.k 5 (some 7) [4] (.slice (cutA A (i * d) ca) (n - i * d) (ca - i * d))] (by kernel_rfl)
      ⟨owes_move 0 (some 20) [] (.slice A n ca) (Go.Operand.tmp 0) (fun v => by kernel_rfl) (fun v => by kernel_rfl),
      owes_move 1 (some 21) [] (.int .i64 (i : Int)) (Go.Operand.tmp 2) (fun v => by kernel_rfl) (fun v => by kernel_rfl),
      owes_move 2 (some 22) [] (.int .i64 (d : Int)) (Go.Operand.tmp 1) (fun v => by kernel_rfl) (fun v => by kernel_rfl),
      owes_bin 3 (some 23) [1, 2] (.int .i64 ((i * d : Nat) : Int)) Go.BinOp.mul 3 (Go.Operand.tmp 21) (Go.Operand.tmp 22) 3 (.int .i64 (i : Int)) (.int .i64 (d : Int)) (fun v => by kernel_rfl) (fun v => by kernel_rfl) (mul_i64S _ _ _ _ _ _ (by simp) (by omega) (by omega)),
      owes_slice 4 (some 24) [0, 3] (.slice (cutA A (i * d) ca) (n - i * d) (ca - i * d)) 22 (Go.Operand.tmp 20) (some (Go.Operand.tmp 23)) none none (.slice A n ca) (some (.int .i64 ((i * d : Nat) : Int))) none none (fun v => by kernel_rfl) (fun v => by kernel_rfl) (slice_sl_l (P := Try.prog) (t := 22) Try.underlying22 (show (Try.prog.info? 5).map (·.size) = some 1 by kernel_rfl) A n ca (i * d) _ rfl hid),
      owes_assign 5 (some 7) [4] (.slice (cutA A (i * d) ca) (n - i * d) (ca - i * d)) (Go.Operand.tmp 24) (fun v => by kernel_rfl) (fun v => by kernel_rfl), trivial⟩ ?_
    intro v w3 hb3 hall
    clear hall
    simp only [putsL_k, putsL_nil, List.set_cons_zero, List.set_cons_succ]
    replace hA2 := hA2.below hb3
    replace hb := hb.trans (hb3.mono hb.size)
    have hc2 : f2.length ≤ ca - i * d := by omega
    rw [hn2]
    generalize cutA A (i * d) ca = A2 at hA2 ⊢
    generalize ca - i * d = ca2 at hc2 ⊢
    obtain ⟨n2, hn3⟩ : ∃ n2, n2 = f2.length := ⟨_, rfl⟩
    obtain ⟨m, hm0⟩ : ∃ m, m = (f2.take d).length := ⟨_, rfl⟩
    have hm : (if (n2 : Int) < (d : Int) then (n2 : Int) else (d : Int)) = (m : Int) := by
      rw [hm0, List.length_take, ← hn3]
      split <;> omega
    have hmc : m ≤ ca2 := by rw [hm0, List.length_take]; omega
    have hmm : m = (f2.take d).length := hm0
    have hm1 : m ≤ 1000 := by rw [hm0, List.length_take]; omega
    rw [← hn3] at hc2 ⊢
    clear hn2 hid hca hb3
    have HC : ∀ w', Below w3.heap.size w3 w' → Calls Try.prog 10 #[.slice A2 m ca2] w' fun e w'' => ∃ r, e = .returned r ∧ Below w'.heap.size w' w'' ∧ SlIsA (f2.take d) r w'' := fun w' hb' => by
      have := clone_any A2 (f2.take d) ca2 w' ((hA2.below hb').front d) (by rw [← hmm]; omega)
      rwa [← hmm] at this
    obtain ⟨P, hP⟩ : ∃ P, P = f2.take d := ⟨_, rfl⟩
    rw [← hP] at HC
    have HP := Lib.hid hP
    clear hm0 hmm hP hA2
    go_upto_region 5 with (fail)
    refine wp_region_text [Sp.k 0 (some 25) [] (.slice A2 n2 ca2),
      Sp.k 1 (some 26) [] (.int .i64 (d : Int)),
      Sp.k 2 (some 27) [] (.slice A2 n2 ca2),
      Sp.k 3 (some 28) [2] (.int .i64 (n2 : Int)),
      Sp.k 4 (some 29) [1, 3] (.int .i64 (m : Int)),
      Sp.k 5 (some 30) [0, 4] (.slice A2 m ca2),
      Sp.o 6 (some 31) [5] (SlIsA (P)),
      Sp.o 7 (some 6) [6] (SlIsA (P))] (by kernel_rfl)
      ⟨owes_move 0 (some 25) [] (.slice A2 n2 ca2) (Go.Operand.tmp 7) (fun v => by kernel_rfl) (fun v => by kernel_rfl),
      owes_move 1 (some 26) [] (.int .i64 (d : Int)) (Go.Operand.tmp 1) (fun v => by kernel_rfl) (fun v => by kernel_rfl),
      owes_move 2 (some 27) [] (.slice A2 n2 ca2) (Go.Operand.tmp 7) (fun v => by kernel_rfl) (fun v => by kernel_rfl),
      owes_lenB 3 (some 28) [2] (.int .i64 (n2 : Int)) (.tmp 27) 22 3 (.slice A2 n2 ca2) (fun v => by kernel_rfl) (by kernel_rfl) (fun v => by kernel_rfl) (fun w => by kernel_rfl),
      owes_min 4 (some 29) [1, 3] (.int .i64 (m : Int)) (.tmp 26) (.tmp 28) 3 3 3 (.int .i64 (d : Int)) (.int .i64 (n2 : Int)) (fun v => by kernel_rfl) (by kernel_rfl) (fun v => by kernel_rfl) (fun w => min_i64 _ _ _ hm w),
      owes_slice 5 (some 30) [0, 4] (.slice A2 m ca2) 22 (Go.Operand.tmp 25) none (some (Go.Operand.tmp 29)) none (.slice A2 n2 ca2) none (some (.int .i64 (m : Int))) none (fun v => by kernel_rfl) (fun v => by kernel_rfl) (slice_h0 (P := Try.prog) (t := 22) Try.underlying22 (show (Try.prog.info? 5).map (·.size) = some 1 by kernel_rfl) A2 n2 ca2 m hmc),
      owes_call_o 6 (some 31) [5] (SlIsA (P)) 10 #[Go.Operand.tmp 30] #[22] (fun v => by kernel_rfl) (fun _ _ => by kernel_rfl) SlIsA.mono (fun v w' hb ho => by
          exact ⟨#[.slice A2 m ca2], by kernel_rfl, (HC w' hb).mono (fun _ _ h => h)⟩),
      owes_assign_o 7 (some 6) [6] (SlIsA (P)) (Go.Operand.tmp 31) 6 (fun v => by kernel_rfl) SlIsA.mono (fun v => by kernel_rfl) (fun v w' hb ho => ho.get 6 _ _ (SlIsA (P)) rfl rfl), trivial⟩ ?_
    intro v w4 hb4 hall
    have h7 := hall.open_ 7 _ _ (SlIsA (P)) rfl
    clear hall HC
    have hfin := hb.trans (hb4.mono hb.size)
    simp only [putsL_k, putsL_o, putsL_nil, List.set_cons_zero, List.set_cons_succ]
    generalize v 7 = v7 at h7 ⊢
    go_wp2_with fail
    go_ret
    rw [HE.out, ← HF2.out, ← HP.out]
    exact ⟨_, rfl, hfin, h7⟩

/-- a chunk's nonce -/
def nonB (i : BitVec 32) (last : Bool) : Nat → BitVec 8 := fun k => if k = 7 then (i >>> 24).setWidth 8 else if k = 8 then (i >>> 16).setWidth 8 else if k = 9 then (i >>> 8).setWidth 8 else if k = 10 then i.setWidth 8 else if k = 11 then (if last then 1#8 else 0#8) else 0#8
theorem nonce_row (i : BitVec 32) : ∀ k, k < 12 → (#[.int .u8 0, .int .u8 0, .int .u8 0, .int .u8 0, .int .u8 0, .int .u8 0, .int .u8 0, v8 ((i >>> 24).setWidth 8), v8 ((i >>> 16).setWidth 8), v8 ((i >>> 8).setWidth 8), v8 (i.setWidth 8), .int .u8 0] : Array Value)[k]? = some (v8 (nonB i false k)) := fun k hk =>
  match k, hk with
  | 0, _ => rfl
  | 1, _ => rfl
  | 2, _ => rfl
  | 3, _ => rfl
  | 4, _ => rfl
  | 5, _ => rfl
  | 6, _ => rfl
  | 7, _ => rfl
  | 8, _ => rfl
  | 9, _ => rfl
  | 10, _ => rfl
  | 11, _ => rfl
  | (n + 12), h => absurd h (by omega)
theorem nonce_row2 (i : BitVec 32) : ∀ k, k < 12 → (#[.int .u8 0, .int .u8 0, .int .u8 0, .int .u8 0, .int .u8 0, .int .u8 0, .int .u8 0, .int .u8 (n32 i / 16777216 % 256), .int .u8 (n32 i / 65536 % 256), .int .u8 (n32 i / 256 % 256), .int .u8 (n8 (i.setWidth 8)), .int .u8 0] : Array Value)[k]? = some (v8 (nonB i false k)) := by
  have h24 : n32 i / (16777216 : Int) % (256 : Int) = n8 ((i >>> 24).setWidth 8) := by rw [← n32_byte]; congr 1; exact n32_shr i 24
  have h16 : n32 i / (65536 : Int) % (256 : Int) = n8 ((i >>> 16).setWidth 8) := by rw [← n32_byte]; congr 1; exact n32_shr i 16
  have h08 : n32 i / (256 : Int) % (256 : Int) = n8 ((i >>> 8).setWidth 8) := by rw [← n32_byte]; congr 1; exact n32_shr i 8
  rw [h24, h16, h08]
  exact nonce_row i
theorem zero12 : ∀ i, i < 12 → (Array.replicate 12 (Value.int IntKind.u8 0))[i]? = some (v8 ((fun _ => 0#8 : Nat → BitVec 8) i)) := by
  intro i hi; simp [hi]; rfl
set_option maxRecDepth 100000 in
set_option maxHeartbeats 1600000 in
theorem nonce_any (i : BitVec 32) (last : Bool) (w : World) :
    Calls Try.prog 13 #[v32 i, .bool last] w fun e w' => e = .returned (.agg (arr8 12 (nonB i last))) ∧ Below w.heap.size w w' := by
  have h00 : n32 i % 256 = n8 (i.setWidth 8) := n32_byte i
  go_enter Try.func13, Try.ntmps13
  go_upto_region 1 with (fail)
  refine wp_world (fun W => W.rowIs w.heap.size 36 12 (fun i => v8 ((fun _ => 0#8 : Nat → BitVec 8) i)) ∧ Below w.heap.size w W ∧ W.heap.size = w.heap.size + 1) ⟨rowIs_new _ _ _ _ _ _ rfl (by rfl) zero12, by go_grown, by simp⟩ ?_
  rintro W0 ⟨h0, h1, hs⟩
  generalize hB : w.heap.size = B at h0 h1 hs ⊢
  have HB := Lib.hid hB; clear hB
  have HS := Lib.hid hs; clear hs
  go_upto_region 2 with (refine wpList_store_row rfl 36 _ _ rfl _ _ rfl rfl _ _ (heap_alloc_new _ _) (by kernel_rfl) (by simp) (by simp [Value.oneCell']) ?_; rw [alloc_setRow])
  rw [HS.out]
  refine wp_world (fun W => W.rowIs B 36 12 (fun i => v8 ((fun _ => 0#8 : Nat → BitVec 8) i)) ∧ W.rowIs (B + 1) 36 12 (fun k => v8 (nonB i false k)) ∧ Below B w W) ⟨h0.alloc _, rowIs_new _ _ _ _ _ _ HS.out.symm (by rfl) (nonce_row2 i), h1.alloc (by rw [HS.out]; omega) _⟩ ?_
  clear h0 h1 HS h00
  rintro W1 ⟨h0, h1, hb⟩
  cases last with
  | false =>
    have hh := rowIs_heap8 h1
    obtain ⟨old, hr1, hr2, _⟩ := h0
    have hb2 := below_setRow (g := B) hb (Nat.le_refl _) (arr8 12 (nonB i false))
    have hres : (W1.setRow B (arr8 12 (nonB i false))).heap[B]? = some (.cells (arr8 12 (nonB i false)) 36 (0, 0)) := setRow_heap _ _ _ _ _ _ hr1
    go_wp2_with (first | (refine wpList_load_row rfl 36 _ rfl _ rfl _ _ _ _ hh Try.underlying36 rfl (by kernel_rfl) ?_) | (refine wpList_store_row rfl 36 _ _ rfl _ _ rfl rfl _ _ hr1 (by kernel_rfl) (by simpa using hr2) (arr8_one _ _) ?_))
    refine bodyPost_ret (results_cell_row rfl _ _ _ _ _ _ _ rfl hres Try.underlying36 rfl (by kernel_rfl)) rfl ?_
    rw [HB.out]
    exact ⟨rfl, hb2⟩
  | true =>
    have c11 := h1.cell (i := 11) (by omega)
    have f11 := h1.frozen 11
    have h1' : (W1.setCell ⟨B + 1, 11, none⟩ (v8 1#8)).rowIs (B + 1) 36 12 (fun k => v8 (nonB i true k)) := (h1.set 11 _).congr fun k hk => by
      by_cases e : k = 11
      · rw [if_pos e, e]; rfl
      · rw [if_neg e]; simp [nonB, e]
    have h0' := h0.setOther (a := ⟨B + 1, 11, none⟩) (by simp only; omega) (v8 1#8)
    have hb' : Below B w (W1.setCell ⟨B + 1, 11, none⟩ (v8 1#8)) := hb.setCell (by simp only; omega) _
    go_upto_region 4 with (fail)
    refine wp_world (fun W => W.rowIs B 36 12 (fun i => v8 ((fun _ => 0#8 : Nat → BitVec 8) i)) ∧ W.rowIs (B + 1) 36 12 (fun k => v8 (nonB i true k)) ∧ Below B w W) ⟨h0', h1', hb'⟩ ?_
    clear h0 h1 hb c11 f11 h1' h0' hb'
    rintro W1 ⟨h0, h1, hb⟩
    have hh := rowIs_heap8 h1
    obtain ⟨old, hr1, hr2, _⟩ := h0
    have hb2 := below_setRow (g := B) hb (Nat.le_refl _) (arr8 12 (nonB i true))
    have hres : (W1.setRow B (arr8 12 (nonB i true))).heap[B]? = some (.cells (arr8 12 (nonB i true)) 36 (0, 0)) := setRow_heap _ _ _ _ _ _ hr1
    go_wp2_with (first | (refine wpList_load_row rfl 36 _ rfl _ rfl _ _ _ _ hh Try.underlying36 rfl (by kernel_rfl) ?_) | (refine wpList_store_row rfl 36 _ _ rfl _ _ rfl rfl _ _ hr1 (by kernel_rfl) (by simpa using hr2) (arr8_one _ _) ?_))
    refine bodyPost_ret (results_cell_row rfl _ _ _ _ _ _ _ rfl hres Try.underlying36 rfl (by kernel_rfl)) rfl ?_
    rw [HB.out]
    exact ⟨rfl, hb2⟩


set_option maxRecDepth 100000 in
set_option maxHeartbeats 1600000 in
theorem sseal_any (key : Nat → BitVec 8) (i : BitVec 32) (last : Bool) (X : Option Addr) (b : List (BitVec 8)) (cx : Nat) (w : World) (hX : SlRead w X (ints .u8 (bys b))) (hlx : b.length ≤ 1000) :
    Calls Try.prog 11 #[.agg (arr8 32 key), v32 i, .bool last, .slice X b.length cx] w fun e w' => ∃ v, e = .returned v ∧ OwnB w w.heap.size (sealB key (nonB i last) [] b) v w' := by
  go_enter Try.func11, Try.ntmps11
  go_upto_region 1 with (fail)
  refine wp_world (fun W => W.rowIs w.heap.size 31 32 (fun i => v8 (key i)) ∧ Below w.heap.size w W) ⟨rowIs_new _ _ _ _ _ _ rfl (by simp) (fun i hi => arr8_get 32 key i hi), by go_grown⟩ ?_
  rintro W0 ⟨hk, h2⟩
  generalize hB : w.heap.size = B at hk h2 ⊢
  have HB := Lib.hid hB; clear hB
  refine wp_region_spec_tail 5 [Sp.k 0 (some 9) [] (.agg (arr8 32 key)),
    Sp.k 1 (some 10) [] (v32 i),
    Sp.k 2 (some 11) [] (.bool last),
    Sp.k 3 (some 12) [1, 2] (.agg (arr8 12 (nonB i last))),
    Sp.k 4 (some 13) [] (.slice X b.length cx)] (by kernel_rfl) (by kernel_rfl)
    ⟨owes_load 0 (some 9) [] (.agg (arr8 32 key)) 31 (Go.Operand.tmp 4) (.pointer (some ⟨B, 0, none⟩)) (fun v => by kernel_rfl) (fun v => by kernel_rfl) (fun w' hb => key_load (hk.of_block ((drB hb).block _ hk.lt))),
    owes_move 1 (some 10) [] (v32 i) (Go.Operand.tmp 1) (fun v => by kernel_rfl) (fun v => by kernel_rfl),
    owes_move 2 (some 11) [] (.bool last) (Go.Operand.tmp 2) (fun v => by kernel_rfl) (fun v => by kernel_rfl),
    owes_call 3 (some 12) [1, 2] (.agg (arr8 12 (nonB i last))) 13 #[Go.Operand.tmp 10, Go.Operand.tmp 11] #[34, 4] (fun v => by kernel_rfl) (fun _ _ => by kernel_rfl) (fun v w' hb ho => by
        exact ⟨#[v32 i, .bool last], by kernel_rfl, (nonce_any i last w').mono (fun _ _ h => h)⟩),
    owes_move 4 (some 13) [] (.slice X b.length cx) (Go.Operand.tmp 3) (fun v => by kernel_rfl) (fun v => by kernel_rfl), trivial⟩ ?_
  intro v W1 hb' hall
  clear hall
  replace hb' := drB hb'
  have hB0 : B ≤ W0.heap.size := Nat.le_of_lt hk.lt
  have hb1 := h2.trans (hb'.mono hB0)
  have hB1 : B ≤ W1.heap.size := by rw [← HB.out]; exact hb1.size
  have hX1 : SlRead W1 X (ints .u8 (bys b)) := hX.below (by rw [HB.out]; exact hb1)
  clear hb' hk h2 hB0
  simp only [putsL_k, putsL_nil, List.set_cons_zero, List.set_cons_succ, List.drop_succ_cons, List.drop_zero]
  go_wp2_with fail
  refine (seal_any key (nonB i last) none X [] b 0 cx W1 SlRead.nil_ hX1 (by simp) hlx).mono ?_
  rintro e W2 ⟨v2, rfl, h⟩
  go_wp2_with fail
  go_ret
  rw [HB.out]
  exact ⟨v2, rfl, own_mono h.own hB1, hb1.trans (h.b.mono hB1), Nat.le_trans hB1 h.s⟩


end Go.Proofs.Ytpegihfocnchnaa
