import Derived.Test.YtbeeehfaeknhmaaDoorSmx
/-
  slots' laws: a file, the state.
-/
namespace Go.Proofs.YtbeeehfaeknhmaaDoor
open Go.RowKit

theorem addw (t : TypeId) (x y : Operand) (w : World) (a b : Int) : (do eqGuard .add t x y (.int .i64 a) (.int .i64 b); binOp .add t (.int .i64 a) (.int .i64 b) : Sem Value).run Tryd.prog w = .ok (.int .i64 (wrap64 (a + b))) w := by
  simp [eqGuard, binOp, Op.intArith, IntKind.wrap_i64]
  unfold wrap64
  omega
theorem quo_13 (t : TypeId) (x y : Operand) (s n : Int) (hn : s / 13 = n) (hs : 0 ≤ s ∧ s ≤ 2000000) (w : World) : (do eqGuard .quo t x y (.int .i64 s) (.int .i64 13); binOp .quo t (.int .i64 s) (.int .i64 13) : Sem Value).run Tryd.prog w = .ok (.int .i64 n) w := by
  have e : Int.tdiv s 13 = n := by rw [Int.tdiv_eq_ediv_of_nonneg hs.1]; exact hn
  have e2 : IntKind.i64.wrap (Int.tdiv s 13) = n := by rw [e]; exact IntWalk.i64_in _ (by omega)
  simp [eqGuard, binOp, Op.intDiv, e2]
theorem bsl_U (x : UInt8) (w : World) : (Instr.buildSlice 41 1 #[(0, cellB x)]).run Tryd.prog w = .ok (.slice (some ⟨w.heap.size, 0, none⟩) 1 1) (w.alloc (.cells #[cellB x] 5)) := by kernel_rfl
/-- a byte of a file -/
def fileB (z : Int) (i : Nat) : UInt8 := UInt8.ofNat (wrap64 (wrap64 (z + ((i * 7 : Nat) : Int)) + ((i / 13 : Nat) : Int)) % 256).toNat
def fileL (z : Int) (n : Nat) : List UInt8 := (List.range n).map (fileB z)
theorem fileL_len (z : Int) (n : Nat) : (fileL z n).length = n := by simp [fileL]
theorem fileL_succ (z : Int) (n : Nat) : fileL z (n + 1) = fileL z n ++ [fileB z n] := by simp [fileL, List.range_succ]
set_option maxRecDepth 100000 in
set_option maxHeartbeats 3200000 in
theorem file_any (z : Int) (n : Nat) (hn : n ≤ 90000) (w : World) : Calls Tryd.prog 23 #[.int .i64 z, .int .i64 (n : Int)] w fun e w' => ∃ A c, e = .returned (.slice A n c) ∧ w'.ownsRow w.heap.size 5 1 (.slice A n c) n (bcells (fileL z n)) ∧ Below w.heap.size w w' := by
  go_enter Tryd.func23, Tryd.ntmps23
  go_wp2_with fail
  go_loopw [5, 6] (fun x y wr => ∃ (k : Nat) (vo : Value), k ≤ n ∧ vo = x ∧ y = .int .i64 (k : Int) ∧ wr.ownsRow w.heap.size 5 1 vo k (bcells (fileL z k)) ∧ Below w.heap.size w wr) (fun _ y _ => n - (intOf y).toNat)
  case atStart => exact ⟨0, _, by omega, rfl, rfl, ⟨rfl, .inl ⟨rfl, rfl⟩⟩, Below.refl _ _⟩
  case round =>
    obtain ⟨k, vo, hk, rfl, rfl, hown, hb⟩ := hrel
    by_cases hlt : k < n
    · have hlt' : (k : Int) < (n : Int) := by omega
      have hbb := below_alc wr (.cells #[cellB (fileB z k)] 5)
      obtain ⟨v2, W4, hap, hown4, hg4, _⟩ := run_app_U 41 (wr.alloc (.cells #[cellB (fileB z k)] 5)) w.heap.size vo _ _ (hown.alloc _) [fileB z k] ⟨wr.heap.size, 0, none⟩ 1 1 rfl (fun j u hu => by rw [add_eq, Nat.zero_add]; have := range_new (heap1_0 wr (.cells #[cellB (fileB z k)] 5)) j u hu; rwa [Nat.zero_add] at this) (by omega) (Nat.le_trans hb.size hbb.size)
      have hb4 : Below w.heap.size w W4 := (hb.trans (hbb.mono hb.size)).trans ⟨hg4.os, hg4.tape, hg4.output, hg4.size, fun q hq => hg4.block q (by have h1 := hb.size; have h2 := hbb.size; omega) (fun e => by have h1 := (hown.lt q e.symm).1; omega)⟩
      rw [← fileL_succ] at hown4
      have H4 := Lib.hid (And.intro hown4 (And.intro hb4 hlt))
      obtain ⟨x, hx⟩ : ∃ x, x = fileB z k := ⟨_, rfl⟩
      rw [← hx] at hap
      obtain ⟨i, hi⟩ : ∃ i : Int, i = (k : Int) := ⟨_, rfl⟩
      obtain ⟨i7, h7'⟩ : ∃ i7 : Int, i7 = ((k * 7 : Nat) : Int) := ⟨_, rfl⟩
      obtain ⟨i13, h13'⟩ : ∃ i13 : Int, i13 = ((k / 13 : Nat) : Int) := ⟨_, rfl⟩
      have h7 : i * 7 = i7 := by rw [hi, h7']; omega
      have h13 : i / 13 = i13 := by rw [hi, h13']; omega
      have hcv : ∀ w, (convert 3 5 (.int .i64 (wrap64 (wrap64 (z + i7) + i13)))).run Tryd.prog w = .ok (cellB x) w := fun w => by rw [cvt_u8, hx, h7', h13']; rfl
      have hib : 0 ≤ i ∧ i ≤ 90000 := by omega
      rw [← hi]
      have HI := Lib.hid hi
      clear hown4 hg4 hb4 hown hb hbb hx h7' h13' hlt
      go_upto_region 5 with (fail)
      refine wp_region_lit ?_
      refine wpList_run (by kernel_rfl) (vo) (wr) (exec_move rfl (by kernel_rfl)) ?_
      refine wpList_run (by kernel_rfl) (.int .i64 z) (wr) (exec_move rfl (by kernel_rfl)) ?_
      refine wpList_run (by kernel_rfl) (.int .i64 i) (wr) (exec_move rfl (by kernel_rfl)) ?_
      refine wpList_run (by kernel_rfl) (.int .i64 i7) (wr) (exec_bin (vx := .int .i64 i) (vy := Go.Value.int Go.IntKind.i64 7) rfl (by kernel_rfl) (mul_int _ _ _ wr i 7 i7 h7 (by omega) (by omega))) ?_
      simp only [put_list, List.set_cons_zero, List.set_cons_succ]
      refine wpList_run (by kernel_rfl) (.int .i64 (wrap64 (z + i7))) (wr) (exec_bin (vx := .int .i64 z) (vy := .int .i64 i7) rfl (by kernel_rfl) (addw _ _ _ wr _ _)) ?_
      refine wpList_run (by kernel_rfl) (.int .i64 i) (wr) (exec_move rfl (by kernel_rfl)) ?_
      refine wpList_run (by kernel_rfl) (.int .i64 i13) (wr) (exec_bin (vx := .int .i64 i) (vy := Go.Value.int Go.IntKind.i64 13) rfl (by kernel_rfl) (quo_13 _ _ _ i i13 h13 (by omega) wr)) ?_
      refine wpList_run (by kernel_rfl) (.int .i64 (wrap64 (wrap64 (z + i7) + i13))) (wr) (exec_bin (vx := .int .i64 (wrap64 (z + i7))) (vy := .int .i64 i13) rfl (by kernel_rfl) (addw _ _ _ wr _ _)) ?_
      refine wpList_run (by kernel_rfl) (cellB x) (wr) (exec_cvt (vx := .int .i64 (wrap64 (wrap64 (z + i7) + i13))) rfl (by kernel_rfl) (hcv wr)) ?_
      simp only [put_list, List.set_cons_zero, List.set_cons_succ]
      refine wpList_run (by kernel_rfl) (.slice (some ⟨wr.heap.size, 0, none⟩) 1 1) ((wr.alloc (.cells #[cellB x] 5))) (exec_bsl (vs := #[(0, cellB x)]) rfl (by kernel_rfl) (bsl_U x wr)) ?_
      refine wpList_run (by kernel_rfl) (v2) (W4) (exec_append rfl rfl (vs := vo) (vx := .slice (some ⟨wr.heap.size, 0, none⟩) 1 1) (by kernel_rfl) (hap)) ?_
      refine wpList_run (by kernel_rfl) (v2) (W4) (exec_assign rfl (by kernel_rfl)) ?_
      refine wpList_nil ?_
      simp only [put_list, List.set_cons_zero, List.set_cons_succ]
      have hw1 : wrap64 (i + 1) = i + 1 := by unfold wrap64; omega
      clear h7 h13 hcv hap
      go_wp2_with fail
      go_roundw
      case rel => exact ⟨k + 1, v2, by have := H4.out.2.2; omega, rfl, by first | (rw [hw1, HI.out]; rfl) | (rw [HI.out]; rfl) | go_num, H4.out.1, H4.out.2.1⟩
      case measure => have h1 := HI.out; have h2 := H4.out.2.2; simp [intOf] <;> omega
    · obtain rfl : k = n := by omega
      obtain ⟨A, c, rfl, _⟩ := own_slice hown
      have HX := Lib.hid (And.intro hown hb)
      clear hown hb hlt
      go_wp2_with fail
      go_ret
      exact ⟨A, c, rfl, HX.out⟩
/-- a disk, and slots upon it -/
structure SloS (w0 W : World) (D R S : Nat) (d : DM) (pv : Nat → Value) (m : SM) : Prop where
  dk : DkM W w0.heap.size D R d pv
  sl : SlC W S D m
  nS : ¬ DFoot D R d.ss pv S
  b : Below w0.heap.size w0 W
  lo : w0.heap.size ≤ S
/-- bytes that lie apart from both -/
structure RowK (W : World) (D R S : Nat) (d : DM) (pv : Nat → Value) (A : Option Addr) (xs : List UInt8) : Prop where
  r : SlRead W A (bcells xs)
  a : 0 < xs.length → ∀ a, A = some a → ¬ DFoot D R d.ss pv a.block ∧ a.block ≠ S ∧ a.block < W.heap.size
section
variable {w0 W W1 : World} {D R S : Nat} {d d1 : DM} {pv pv1 : Nat → Value} {m m1 : SM} {A : Option Addr} {xs : List UInt8}
theorem SloS.below (h : SloS w0 W D R S d pv m) (hb : Below W.heap.size W W1) : SloS w0 W1 D R S d pv m := ⟨h.dk.below hb, h.sl.below hb, h.nS, h.b.trans (hb.mono h.b.size), h.lo⟩
theorem SloS.turned (h : SloS w0 W D R S d pv m) (hu : DkU W W1 w0.heap.size D R S d d1 pv pv1) (hs : SlC W1 S D m1) : SloS w0 W1 D R S d1 pv1 m1 :=
  ⟨hu.dk, hs, foot_len hu.l (foot_fresh hu.f h.sl.lt h.nS), hu.t.below h.b h.b.size (fun q hq => hq.elim (fun e => h.dk.lowF e) (fun e => by rw [e]; exact h.lo)), h.lo⟩
theorem RowK.below (h : RowK W D R S d pv A xs) (hb : Below W.heap.size W W1) : RowK W1 D R S d pv A xs := ⟨h.r.below hb, fun h0 a ha => ⟨(h.a h0 a ha).1, (h.a h0 a ha).2.1, Nat.lt_of_lt_of_le (h.a h0 a ha).2.2 hb.size⟩⟩
theorem RowK.turned {n : Nat} (h : RowK W D R S d pv A xs) (hu : DkU W W1 n D R S d d1 pv pv1) : RowK W1 D R S d1 pv1 A xs :=
  ⟨h.r.turnM hu.t (fun h0 a ha e => by rw [bcells_len] at h0; exact e.elim (h.a h0 a ha).1 (h.a h0 a ha).2.1), fun h0 a ha => ⟨foot_len hu.l (foot_fresh hu.f (h.a h0 a ha).2.2 (h.a h0 a ha).1), (h.a h0 a ha).2.1, Nat.lt_of_lt_of_le (h.a h0 a ha).2.2 hu.t.size⟩⟩
theorem RowK.own (hd : SloS w0 W D R S d pv m) {n c : Nat} (h : W1.ownsRow W.heap.size 5 1 (.slice A n c) n (bcells xs)) : RowK W1 D R S d pv A xs :=
  ⟨SlRead.of_own h, fun _ a ha => by
    obtain ⟨A', c', e, _, _, hA⟩ := own_slice h
    cases e
    obtain ⟨h1, h2⟩ := hA a ha
    exact ⟨fun hh => by have := hd.dk.ltF hh; omega, fun e => by have := hd.sl.lt; omega, h2⟩⟩
theorem own_capU {n c : Nat} {v : World} (h : v.ownsRow W.heap.size 5 1 (.slice A n c) n (bcells xs)) : n ≤ c := by
  obtain ⟨A', c', e, hc, _⟩ := own_slice h
  cases e
  exact hc
/-- Save of a row -/
theorem save_s (E : Nat → Addr) (hE : ErrD E w0) (h : SloS w0 W D R S d pv m) (hp : PL d 500) (hm : m.fits d.ss.length) (hr : RowK W D R S d pv A xs) (c : Nat) (hc : xs.length ≤ c) :
    Calls Tryd.prog 25 #[.pointer (some ⟨S, 0, none⟩), .slice A xs.length c] W fun e W1 => e = .returned (eo E (saveM d m xs).1) ∧ ∃ pv1, DkU W W1 w0.heap.size D R S d (saveM d m xs).2.1 pv pv1 ∧ SloS w0 W1 D R S (saveM d m xs).2.1 pv1 (saveM d m xs).2.2 := by
  by_cases h0 : 0 < xs.length
  · obtain ⟨gb, ob, e, hl, hcell⟩ := hr.r (by rw [bcells_len]; exact h0)
    refine (save_any E w0 hE h.lo h.b h.dk hp h.sl hm h.nS xs A c gb ob (fun _ => ⟨⟨e, hl, hcell, hc⟩, (hr.a h0 _ e).1⟩)).mono ?_
    rintro e W1 ⟨rfl, ⟨pv1, hu⟩, hs⟩
    exact ⟨rfl, pv1, hu, h.turned hu hs⟩
  · refine (save_any E w0 hE h.lo h.b h.dk hp h.sl hm h.nS xs A c 0 0 (fun e => absurd e h0)).mono ?_
    rintro e W1 ⟨rfl, ⟨pv1, hu⟩, hs⟩
    exact ⟨rfl, pv1, hu, h.turned hu hs⟩
end
end Go.Proofs.YtbeeehfaeknhmaaDoor
