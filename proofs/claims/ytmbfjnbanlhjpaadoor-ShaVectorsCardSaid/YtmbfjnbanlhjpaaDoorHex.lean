import Derived.Test.YtmbfjnbanlhjpaaDoorOwn
import Derived.Laws.BytesString
import Derived.Laws.IdiomStrings
import Derived.Laws.Concat
namespace Go.Proofs.YtmbfjnbanlhjpaaDoor
open Go.RowKit

section
variable {P : Program} {md : Region.Mode} {ops : Array Oper} {Q : Exit → Act → World → Prop} {S : World → Prop} {fuel : Nat} {listed : Array Bool} {a : Act} {w : World}
/-- one of the operations that are ready: a slice of some elements, made -/
theorem rdy_bsls {rs : List Nat} (i : Nat) (t e : TypeId) (n : Nat) (xs : Array (Nat × Operand)) (dst : Option Tmp) (vs : Array (Nat × Value)) (cs : Array Value)
    (hi : ops[i]?.map (fun o => (o.op, o.dst, Region.wanted o (yielded ops a.tmps))) = some (.buildSlice t n xs, dst, true))
    (hx : (xs.map fun (i, x) => (i, a.eval x)) = vs) (hrun : (Instr.buildSlice t n vs).run P w = .ok (.slice (some ⟨w.heap.size, 0, none⟩) n n) (w.alloc (.cells cs e))) (hS : S (w.alloc (.cells cs e)))
    (h : S (w.alloc (.cells cs e)) → wpAnyH P md ops Q S fuel (listed.setIfInBounds i true) (a.put dst (.slice (some ⟨w.heap.size, 0, none⟩) n n)) (w.alloc (.cells cs e))) (rest : AllReadyH P md ops Q S fuel listed a w rs) : AllReadyH P md ops Q S fuel listed a w (i :: rs) := by
  obtain ⟨oi, ho, he⟩ := Option.map_eq_some_iff.1 hi
  simp only [Prod.mk.injEq] at he
  refine AllReadyH.cons ho (fun K hK => ?_) rest
  rw [if_pos he.2.2]
  unfold Oper.wp
  simp only [execOp, he.1]
  simp [hx, hrun, Result.andThen]
  rw [Oper.upon_value, he.2.1]
  exact hK.out _ _ hS h
end
section
variable {P : Program} {md : Region.Mode} {ops : Array Oper} {Q : Exit → Act → World → Prop} {S : World → Prop} {fuel : Nat} {listed : Array Bool} {a : Act} {w : World}
/-- one of the operations that are ready: it yields a value in this world, and leaves it -/
theorem rdy_val {rs : List Nat} (i : Nat) (op : Op) (dst : Option Tmp) (v : Value)
    (hi : ops[i]?.map (fun o => (o.op, o.dst, Region.wanted o (yielded ops a.tmps))) = some (op, dst, true))
    (hrun : ∀ o : Oper, o.op = op → (execOp a.eval o).run P w = .ok (.value v) w) (hS : S w)
    (h : wpAnyH P md ops Q S fuel (listed.setIfInBounds i true) (a.put dst v) w) (rest : AllReadyH P md ops Q S fuel listed a w rs) : AllReadyH P md ops Q S fuel listed a w (i :: rs) := by
  obtain ⟨oi, ho, he⟩ := Option.map_eq_some_iff.1 hi
  simp only [Prod.mk.injEq] at he
  refine AllReadyH.cons ho (fun K hK => ?_) rest
  rw [if_pos he.2.2]
  unfold Oper.wp
  rw [hrun oi he.1, Oper.upon_value, he.2.1]
  exact hK.out _ _ hS (fun _ => h)
theorem held_idx (i : Nat) (t : TypeId) (x y : Operand) (dst : Option Tmp) (vx vy v : Value) (ho : ops[i]?.map (fun o => (o.op, o.dst, Region.wanted o (yielded ops a.tmps))) = some (.index t x y, dst, true))
    (hx : (a.eval x, a.eval y) = (vx, vy)) (he : ∀ w, (Instr.index t vx vy).run P w = .ok v w)
    (hs : Region.noSelect ops = true) (hf : Region.free md ops listed i = true) (hr : (Region.ready md ops listed).contains i = true)
    (hQ : ∀ c a v d w, Q (.panic c) (a.put d v) w → Q (.panic c) a w) (hw : S w)
    (h : wpAnyH P md ops Q S fuel (listed.setIfInBounds i true) (a.put dst v) w) : wpAnyH P md ops Q S (fuel + 1) listed a w := by
  simp only [Prod.mk.injEq] at hx
  exact held_any i _ dst _ ho hs hf hr hQ hw (fun oo ho w hw => by
    unfold execOp
    simp [ho, hx.1, hx.2, he, Result.andThen]) h
theorem rdy_conv {rs : List Nat} (i : Nat) (src tgt : TypeId) (x : Operand) (dst : Option Tmp) (vx v : Value)
    (hi : ops[i]?.map (fun o => (o.op, o.dst, Region.wanted o (yielded ops a.tmps))) = some (.convert src tgt x, dst, true))
    (hx : a.eval x = vx) (hrun : (convert src tgt vx).run P w = .ok v w) (hS : S w)
    (h : wpAnyH P md ops Q S fuel (listed.setIfInBounds i true) (a.put dst v) w) (rest : AllReadyH P md ops Q S fuel listed a w rs) : AllReadyH P md ops Q S fuel listed a w (i :: rs) :=
  rdy_val i _ dst v hi (fun o ho => by
    unfold execOp
    simp [ho, hx, hrun, Result.andThen]) hS h rest
end

def digs : ByteArray := ⟨#[48, 49, 50, 51, 52, 53, 54, 55, 56, 57, 97, 98, 99, 100, 101, 102]⟩
def digL : List UInt8 := [48, 49, 50, 51, 52, 53, 54, 55, 56, 57, 97, 98, 99, 100, 101, 102]
def dig (n : Nat) : UInt8 := digL.getD n 0
def hex2 (x : BitVec 8) : List UInt8 := [dig (x.toNat / 16), dig (x.toNat % 16)]
def hexL (xs : List (BitVec 8)) : List UInt8 := xs.flatMap hex2
theorem hexL_snoc (xs : List (BitVec 8)) (x : BitVec 8) : hexL (xs ++ [x]) = hexL xs ++ hex2 x := by simp [hexL]
theorem hexL_len (xs : List (BitVec 8)) : (hexL xs).length = 2 * xs.length := by
  induction xs with
  | nil => rfl
  | cons x r ih => simp only [hexL, List.flatMap_cons, List.length_append] at *; simp only [hex2, List.length_cons, List.length_nil]; omega

theorem index_dig0 (w : World) : (Instr.index 9 (.string digs) (.int .u8 0)).run Tryd.prog w = .ok (.int .u8 ((dig 0).toNat : Int)) w := by kernel_rfl
theorem index_dig1 (w : World) : (Instr.index 9 (.string digs) (.int .u8 1)).run Tryd.prog w = .ok (.int .u8 ((dig 1).toNat : Int)) w := by kernel_rfl
theorem index_dig2 (w : World) : (Instr.index 9 (.string digs) (.int .u8 2)).run Tryd.prog w = .ok (.int .u8 ((dig 2).toNat : Int)) w := by kernel_rfl
theorem index_dig3 (w : World) : (Instr.index 9 (.string digs) (.int .u8 3)).run Tryd.prog w = .ok (.int .u8 ((dig 3).toNat : Int)) w := by kernel_rfl
theorem index_dig4 (w : World) : (Instr.index 9 (.string digs) (.int .u8 4)).run Tryd.prog w = .ok (.int .u8 ((dig 4).toNat : Int)) w := by kernel_rfl
theorem index_dig5 (w : World) : (Instr.index 9 (.string digs) (.int .u8 5)).run Tryd.prog w = .ok (.int .u8 ((dig 5).toNat : Int)) w := by kernel_rfl
theorem index_dig6 (w : World) : (Instr.index 9 (.string digs) (.int .u8 6)).run Tryd.prog w = .ok (.int .u8 ((dig 6).toNat : Int)) w := by kernel_rfl
theorem index_dig7 (w : World) : (Instr.index 9 (.string digs) (.int .u8 7)).run Tryd.prog w = .ok (.int .u8 ((dig 7).toNat : Int)) w := by kernel_rfl
theorem index_dig8 (w : World) : (Instr.index 9 (.string digs) (.int .u8 8)).run Tryd.prog w = .ok (.int .u8 ((dig 8).toNat : Int)) w := by kernel_rfl
theorem index_dig9 (w : World) : (Instr.index 9 (.string digs) (.int .u8 9)).run Tryd.prog w = .ok (.int .u8 ((dig 9).toNat : Int)) w := by kernel_rfl
theorem index_dig10 (w : World) : (Instr.index 9 (.string digs) (.int .u8 10)).run Tryd.prog w = .ok (.int .u8 ((dig 10).toNat : Int)) w := by kernel_rfl
theorem index_dig11 (w : World) : (Instr.index 9 (.string digs) (.int .u8 11)).run Tryd.prog w = .ok (.int .u8 ((dig 11).toNat : Int)) w := by kernel_rfl
theorem index_dig12 (w : World) : (Instr.index 9 (.string digs) (.int .u8 12)).run Tryd.prog w = .ok (.int .u8 ((dig 12).toNat : Int)) w := by kernel_rfl
theorem index_dig13 (w : World) : (Instr.index 9 (.string digs) (.int .u8 13)).run Tryd.prog w = .ok (.int .u8 ((dig 13).toNat : Int)) w := by kernel_rfl
theorem index_dig14 (w : World) : (Instr.index 9 (.string digs) (.int .u8 14)).run Tryd.prog w = .ok (.int .u8 ((dig 14).toNat : Int)) w := by kernel_rfl
theorem index_dig15 (w : World) : (Instr.index 9 (.string digs) (.int .u8 15)).run Tryd.prog w = .ok (.int .u8 ((dig 15).toNat : Int)) w := by kernel_rfl
theorem index_dig (n : Nat) (hn : n < 16) (w : World) : (Instr.index 9 (.string digs) (.int .u8 (n : Int))).run Tryd.prog w = .ok (.int .u8 ((dig n).toNat : Int)) w := by
  have h : n = 0 ∨ n = 1 ∨ n = 2 ∨ n = 3 ∨ n = 4 ∨ n = 5 ∨ n = 6 ∨ n = 7 ∨ n = 8 ∨ n = 9 ∨ n = 10 ∨ n = 11 ∨ n = 12 ∨ n = 13 ∨ n = 14 ∨ n = 15 := by omega
  rcases h with rfl | rfl | rfl | rfl | rfl | rfl | rfl | rfl | rfl | rfl | rfl | rfl | rfl | rfl | rfl | rfl
  · exact index_dig0 w
  · exact index_dig1 w
  · exact index_dig2 w
  · exact index_dig3 w
  · exact index_dig4 w
  · exact index_dig5 w
  · exact index_dig6 w
  · exact index_dig7 w
  · exact index_dig8 w
  · exact index_dig9 w
  · exact index_dig10 w
  · exact index_dig11 w
  · exact index_dig12 w
  · exact index_dig13 w
  · exact index_dig14 w
  · exact index_dig15 w
theorem hi_nib (x : BitVec 8) (p q : Operand) (w : World) : (do eqGuard .shr 5 p q (v8 x) (.int .u64 4); binOp .shr 5 (v8 x) (.int .u64 4) : Sem Value).run Tryd.prog w = .ok (.int .u8 ((x.toNat / 16 : Nat) : Int)) w := by
  have h1 := Tryd.underlying5
  have h2 : n8 x = (x.toNat : Int) := by unfold n8 n32; simp only [BitVec.toNat_setWidth]; have := x.isLt; omega
  rw [show v8 x = .int .u8 (n8 x) from rfl, h2]
  go_simp
theorem lo_nib (x : BitVec 8) (p q : Operand) (w : World) : (do eqGuard .and 5 p q (v8 x) (.int .u8 15); binOp .and 5 (v8 x) (.int .u8 15) : Sem Value).run Tryd.prog w = .ok (.int .u8 ((x.toNat % 16 : Nat) : Int)) w := by
  have h1 := Tryd.underlying5
  have h2 : n8 x = (x.toNat : Int) := by unfold n8 n32; simp only [BitVec.toNat_setWidth]; have := x.isLt; omega
  rw [show v8 x = .int .u8 (n8 x) from rfl, h2]
  have h3 : bits .and .u8 (x.toNat : Int) 15 = ((x.toNat % 16 : Nat) : Int) := by
    have := u8_and_nat x.toNat 15 x.isLt (by omega)
    rw [show ((15 : Nat) : Int) = 15 from rfl] at this
    rw [this, show (15 : Nat) = 2 ^ 4 - 1 from rfl, Nat.and_two_pow_sub_one_eq_mod]
  go_simp
theorem bsl_u82 (y z : Int) (w : World) : (Instr.buildSlice 22 2 #[(0, .int .u8 y), (1, .int .u8 z)]).run Tryd.prog w = .ok (.slice (some ⟨w.heap.size, 0, none⟩) 2 2) (w.alloc (.cells #[.int .u8 y, .int .u8 z] 5)) := by kernel_rfl

set_option maxRecDepth 100000 in
set_option maxHeartbeats 1600000 in
theorem hex_any (A : Option Addr) (xs : List (BitVec 8)) (ca : Nat) (w : World) (hA : SlRead w A (ints .u8 (bys xs))) (hx : xs.length ≤ 1000) :
    Calls Tryd.prog 14 #[.slice A xs.length ca] w fun e w' => e = .returned (.string ⟨(hexL xs).toArray⟩) ∧ Below w.heap.size w w' := by
  go_enter Tryd.func14, Tryd.ntmps14
  go_wp2_with fail
  go_loopw [4, 5] (fun s i wr => ∃ k : Nat, k ≤ xs.length ∧ i = .int .i64 k ∧ s = .string ⟨(hexL (xs.take k)).toArray⟩ ∧ Below w.heap.size w wr) (fun _ i _ => xs.length - (intOf i).toNat)
  case atStart => exact ⟨0, by omega, rfl, rfl, Below.refl _ _⟩
  case round =>
    obtain ⟨k, hk, rfl, rfl, hb⟩ := hrel
    by_cases hlt : k < xs.length
    · have hk0 : (k : Int) < (xs.length : Int) := by omega
      have hAw := hA.below hb
      obtain ⟨b, o, rfl, hblt, hcell⟩ := hAw (by simp; omega)
      have hc := hcell k (v8 xs[k]) (by rw [bys_ints]; simp [hlt])
      have htk : hexL (xs.take (k + 1)) = hexL (xs.take k) ++ hex2 xs[k] := by
        rw [List.take_add_one, show xs[k]? = some xs[k] by simp [hlt]]
        exact hexL_snoc _ _
      have HTK := Lib.hid htk; clear htk
      generalize xs[k] = x at *
      go_wp2_with fail
      have htx : x.toNat / 16 < 16 ∧ x.toNat % 16 < 16 := by have := x.isLt; omega
      have hida : ∀ W : World, (Instr.indexAt 22 (.slice (some ⟨b, o, none⟩) xs.length ca) (.int .i64 (k : Int))).run Tryd.prog W = .ok (.pointer (some ⟨b, o + k, none⟩)) W := by
        intro W
        have h1 := Tryd.underlying22
        have h2 := Tryd.underlying5
        go_simp
      have hld : ∀ W : World, W.cell? ⟨b, o + k, none⟩ = some (v8 x) → (Instr.loadAt 5 (.pointer (some ⟨b, o + k, none⟩))).run Tryd.prog W = .ok (v8 x) W := by
        intro W hW
        have h2 := Tryd.underlying5
        go_simp
      refine wp_region_noPanic ?_
      refine wp_region_held_drew (S := fun W => W.cell? ⟨b, o + k, none⟩ = some (v8 x) ∧ Below w.heap.size w W ∧ b < W.heap.size) (by kernel_rfl) ⟨hc, hb.drew, hblt⟩ (fun hHeld => ?_)
      refine held_move 0 (.tmp 4) (some 12) (.string ⟨(hexL (xs.take k)).toArray⟩) (by kernel_rfl) (by kernel_rfl) (by kernel_rfl) (by kernel_rfl) (by kernel_rfl) (fun _ _ _ _ _ h => h) hHeld ?_
      refine held_move 1 (.tmp 3) (some 13) (.string digs) (by kernel_rfl) (by kernel_rfl) (by kernel_rfl) (by kernel_rfl) (by kernel_rfl) (fun _ _ _ _ _ h => h) hHeld ?_
      refine held_move 2 (.tmp 0) (some 14) (.slice (some ⟨b, o, none⟩) xs.length ca) (by kernel_rfl) (by kernel_rfl) (by kernel_rfl) (by kernel_rfl) (by kernel_rfl) (fun _ _ _ _ _ h => h) hHeld ?_
      refine held_move 3 (.tmp 5) (some 15) (.int .i64 (k : Int)) (by kernel_rfl) (by kernel_rfl) (by kernel_rfl) (by kernel_rfl) (by kernel_rfl) (fun _ _ _ _ _ h => h) hHeld ?_
      refine held_index 4 22 (.tmp 14) (.tmp 15) (some 16) (.slice (some ⟨b, o, none⟩) xs.length ca) (.int .i64 (k : Int)) (.pointer (some ⟨b, o + k, none⟩)) (by kernel_rfl) (by kernel_rfl) hida (by kernel_rfl) (by kernel_rfl) (by kernel_rfl) (fun _ _ _ _ _ h => h) hHeld ?_
      refine held_cell 5 5 (.tmp 16) (some 17) (.pointer (some ⟨b, o + k, none⟩)) (v8 x) (by kernel_rfl) (by kernel_rfl) (fun w h => hld w h.1) (by kernel_rfl) (by kernel_rfl) (by kernel_rfl) (fun _ _ _ _ _ h => h) hHeld ?_
      refine held_bin 6 .shr 5 (.tmp 17) (.const (.int .u64 4)) 44 (some 18) (v8 x) (.int .u64 4) (.int .u8 ((x.toNat / 16 : Nat) : Int)) (by kernel_rfl) (by kernel_rfl) (hi_nib x _ _) (by kernel_rfl) (by kernel_rfl) (by kernel_rfl) (fun _ _ _ _ _ h => h) hHeld ?_
      refine held_idx 7 9 (.tmp 13) (.tmp 18) (some 19) (.string digs) (.int .u8 ((x.toNat / 16 : Nat) : Int)) (.int .u8 ((dig (x.toNat / 16)).toNat : Int)) (by kernel_rfl) (by kernel_rfl) (index_dig _ htx.1) (by kernel_rfl) (by kernel_rfl) (by kernel_rfl) (fun _ _ _ _ _ h => h) hHeld ?_
      refine held_move 8 (.tmp 3) (some 20) (.string digs) (by kernel_rfl) (by kernel_rfl) (by kernel_rfl) (by kernel_rfl) (by kernel_rfl) (fun _ _ _ _ _ h => h) hHeld ?_
      refine held_move 9 (.tmp 0) (some 21) (.slice (some ⟨b, o, none⟩) xs.length ca) (by kernel_rfl) (by kernel_rfl) (by kernel_rfl) (by kernel_rfl) (by kernel_rfl) (fun _ _ _ _ _ h => h) hHeld ?_
      refine held_move 10 (.tmp 5) (some 22) (.int .i64 (k : Int)) (by kernel_rfl) (by kernel_rfl) (by kernel_rfl) (by kernel_rfl) (by kernel_rfl) (fun _ _ _ _ _ h => h) hHeld ?_
      refine held_index 11 22 (.tmp 21) (.tmp 22) (some 23) (.slice (some ⟨b, o, none⟩) xs.length ca) (.int .i64 (k : Int)) (.pointer (some ⟨b, o + k, none⟩)) (by kernel_rfl) (by kernel_rfl) hida (by kernel_rfl) (by kernel_rfl) (by kernel_rfl) (fun _ _ _ _ _ h => h) hHeld ?_
      refine held_cell 12 5 (.tmp 23) (some 24) (.pointer (some ⟨b, o + k, none⟩)) (v8 x) (by kernel_rfl) (by kernel_rfl) (fun w h => hld w h.1) (by kernel_rfl) (by kernel_rfl) (by kernel_rfl) (fun _ _ _ _ _ h => h) hHeld ?_
      refine held_bin 13 .and 5 (.tmp 24) (.const (.int .u8 15)) 5 (some 25) (v8 x) (.int .u8 15) (.int .u8 ((x.toNat % 16 : Nat) : Int)) (by kernel_rfl) (by kernel_rfl) (lo_nib x _ _) (by kernel_rfl) (by kernel_rfl) (by kernel_rfl) (fun _ _ _ _ _ h => h) hHeld ?_
      refine held_idx 14 9 (.tmp 20) (.tmp 25) (some 26) (.string digs) (.int .u8 ((x.toNat % 16 : Nat) : Int)) (.int .u8 ((dig (x.toNat % 16)).toNat : Int)) (by kernel_rfl) (by kernel_rfl) (index_dig _ htx.2) (by kernel_rfl) (by kernel_rfl) (by kernel_rfl) (fun _ _ _ _ _ h => h) hHeld ?_
      have hal : Below wr.drew.heap.size wr.drew (wr.drew.alloc (.cells #[(.int .u8 ((dig (x.toNat / 16)).toNat : Int)), (.int .u8 ((dig (x.toNat % 16)).toNat : Int))] 5)) := (Below.refl _ _).alloc (Nat.le_refl _) _
      refine held_ready [15] (by kernel_rfl) (by simp) (rdy_bsls 15 22 5 2 #[(0, .tmp 19), (1, .tmp 26)] (some 27) #[(0, (.int .u8 ((dig (x.toNat / 16)).toNat : Int))), (1, (.int .u8 ((dig (x.toNat % 16)).toNat : Int)))] #[(.int .u8 ((dig (x.toNat / 16)).toNat : Int)), (.int .u8 ((dig (x.toNat % 16)).toNat : Int))] (by kernel_rfl) (by kernel_rfl) (bsl_u82 _ _ _) ⟨(hal.cell (p := ⟨b, o + k, none⟩) hHeld.2.2).trans hHeld.1, hHeld.2.1.trans (hal.mono hHeld.2.1.size), Nat.lt_of_lt_of_le hHeld.2.2 hal.size⟩ ?_ AllReadyH.nil)
      intro hHeld
      have hcv := run_convert_bytes_back (P := Tryd.prog) (wr.drew.alloc (.cells #[(.int .u8 ((dig (x.toNat / 16)).toNat : Int)), (.int .u8 ((dig (x.toNat % 16)).toNat : Int))] 5)) 22 9 5 ⟨wr.drew.heap.size, 0, none⟩ 2 (hex2 x) Tryd.underlying22 Tryd.underlying5 Tryd.underlying9 (by
          intro j hj
          rw [add_eq, Nat.zero_add, World.cell?_alloc_new]
          have hj2 : j = 0 ∨ j = 1 := by simp [hex2] at hj; omega
          rcases hj2 with rfl | rfl
          · rfl
          · rfl)
      rw [show (hex2 x).length = 2 from rfl] at hcv
      refine held_ready [16] (by kernel_rfl) (by simp) (rdy_conv 16 22 9 (.tmp 27) (some 28) (.slice (some ⟨wr.drew.heap.size, 0, none⟩) 2 2) (.string ⟨(hex2 x).toArray⟩) (by kernel_rfl) (by kernel_rfl) hcv hHeld ?_ AllReadyH.nil)
      have hadd : ∀ W : World, (do eqGuard .add 9 (.tmp 12) (.tmp 28) (.string ⟨(hexL (xs.take k)).toArray⟩) (.string ⟨(hex2 x).toArray⟩); binOp .add 9 (.string ⟨(hexL (xs.take k)).toArray⟩) (.string ⟨(hex2 x).toArray⟩) : Sem Value).run Tryd.prog W = .ok (.string ⟨(hexL (xs.take k) ++ hex2 x).toArray⟩) W := fun W => by
        have := run_string_add_lists (P := Tryd.prog) (w := W) (hexL (xs.take k)) (hex2 x) (by rw [hexL_len]; simp; omega) (by simp [hex2])
        simp [eqGuard, binOp, this]
      refine held_bin 17 .add 9 (.tmp 12) (.tmp 28) 9 (some 29) (.string ⟨(hexL (xs.take k)).toArray⟩) (.string ⟨(hex2 x).toArray⟩) (.string ⟨(hexL (xs.take k) ++ hex2 x).toArray⟩) (by kernel_rfl) (by kernel_rfl) hadd (by kernel_rfl) (by kernel_rfl) (by kernel_rfl) (fun _ _ _ _ _ h => h) hHeld ?_
      refine held_assign 18 (.tmp 29) (some 4) (.string ⟨(hexL (xs.take k) ++ hex2 x).toArray⟩) (by kernel_rfl) (by kernel_rfl) (by kernel_rfl) (by kernel_rfl) (by kernel_rfl) (fun _ _ _ _ _ h => h) hHeld ?_
      refine wpAnyH_done (by kernel_rfl) ?_ _
      refine NoPanic.normal ?_
      generalize wr.drew.alloc _ = W9 at hHeld ⊢
      simp only [Act.put, List.setIfInBounds_toArray, List.set_cons_zero, List.set_cons_succ]
      go_wp2_with fail
      go_roundw
      case rel => exact ⟨k + 1, by omega, by go_num, by rw [HTK.out], hHeld.2.1⟩
      case measure => simp [intOf]; omega
    · have hkl : k = xs.length := by omega
      have hdk : decide ((k : Int) < (xs.length : Int)) = false := by simp; omega
      rw [hkl, List.take_length]
      have HK := Lib.hid hkl; clear hkl
      go_wp2_with fail
      go_ret
      exact ⟨rfl, hb⟩
end Go.Proofs.YtmbfjnbanlhjpaaDoor
