import Derived.Test.YtihnpcoiadbpiaaDoorTnx
import Derived.Maps.AppendAt
import Derived.Lib.AppendZeros
namespace Go.Proofs.YtihnpcoiadbpiaaDoor
open Go.RowKit

theorem wpList_append_run_g {P : Program} {w : World} {ops : Array Oper} {rest : List Oper} {o : Oper} {a : Act} {Q : Exit → Act → World → Prop} (hw : Region.wanted o (yielded ops a.tmps) = true) (s x : Operand) (t tn : TypeId)
    (ho : o.op = .call { callee := .builtin .append, args := #[s, x], argTypes := #[t, tn] }) (vs vx : Value) (hs : a.eval s = vs) (hx : a.eval x = vx)
    (v' : Value) (w' : World) (hr : (Builtin.append_ #[t, tn] o.type #[vs, vx]).run P w = .ok v' w') (h : wpList P ops Q rest (a.put o.dst v') w') : wpList P ops Q (o :: rest) a w :=
  BigFrame.wpList_want hw fun _ hK => Lib.wp_append_run w s x t tn ho vs vx hs hx v' w' hr (hK _ _ h)
theorem wpList_bsl_run {P : Program} {w : World} {ops : Array Oper} {rest : List Oper} {o : Oper} {a : Act} {Q : Exit → Act → World → Prop} (hw : Region.wanted o (yielded ops a.tmps) = true) (t : TypeId) (n : Nat) (ps : Array (Nat × Operand))
    (ho : o.op = .buildSlice t n ps) (vs : Array (Nat × Value)) (hx : (ps.map fun x => (x.1, a.eval x.2)) = vs) (v' : Value) (w' : World) (hr : (Instr.buildSlice t n vs).run P w = .ok v' w')
    (h : wpList P ops Q rest (a.put o.dst v') w') : wpList P ops Q (o :: rest) a w :=
  BigFrame.wpList_want hw fun _ hK => by
    unfold Oper.wp execOp
    simp only [ho, hx, Sem.run_bind, hr]
    exact hK _ _ h
theorem info25 : (Tryd.prog.info? 24).map (fun i => (i.zero, i.size, i.bytes)) = some (some (.agg (Array.replicate 32 (.int .u8 0))), 32, 32) := by kernel_rfl
theorem bsl_hash (f : Nat → BitVec 8) (w : World) : (Instr.buildSlice 26 1 #[(0, .agg (arr8 32 f))]).run Tryd.prog w = .ok (.slice (some ⟨w.heap.size, 0, none⟩) 1 1) (w.alloc (.cells (arr8 32 f) 24)) := by kernel_rfl
/-- one hash more -/
theorem run_hash (ty : TypeId) (W : World) (base : Nat) (v : Value) (hs : List (Nat → BitVec 8)) (f : Nat → BitVec 8) (hown : W.ownsRow base 24 32 v hs.length (hcells hs)) (hb : base ≤ W.heap.size) (hl : hs.length ≤ 100000) :
    ∃ v' w', (Builtin.append_ #[26, 26] ty #[v, .slice (some ⟨W.heap.size, 0, none⟩) 1 1]).run Tryd.prog (W.alloc (.cells (arr8 32 f) 24)) = .ok v' w' ∧ w'.ownsRow base 24 32 v' (hs ++ [f]).length (hcells (hs ++ [f])) ∧ (W.alloc (.cells (arr8 32 f) 24)).grownBy w' v.ownBlock := by
  obtain ⟨i0, hi, hz0, hz1, hz2⟩ := info_parts info25
  obtain ⟨v', w', hr, h2, h3, _, _⟩ := run_append_own_at (P := Tryd.prog) (W.alloc (.cells (arr8 32 f) 24)) base 26 ty 24 i0 _ 32 32 Tryd.underlying26 hi hz0 hz1 hz2 (by simp [Value.cells]) (by decide) v _ _ (hown.alloc _) ⟨W.heap.size, 0, none⟩ 1 1 (arr8 32 f).toList (by simp) (by
    intro j u hu
    rw [add_eq, Nat.zero_add, World.cell?_alloc_new]
    simpa using hu) (by
    intro u hu
    obtain ⟨i, hi, rfl⟩ : ∃ i, i < 32 ∧ u = v8 (f i) := by
      obtain ⟨i, hi, e⟩ := List.getElem_of_mem hu
      have hi32 : i < 32 := by simpa using hi
      have := arr8_get 32 f i hi32
      refine ⟨i, hi32, ?_⟩
      rw [← e]
      rw [Array.getElem?_eq_getElem (by simpa using hi32)] at this
      simpa using this
    rfl) (by unfold maxLen; omega) (by omega) (by simp; omega)
  refine ⟨v', w', hr, ?_, h3⟩
  rw [hcells_append, show hcells [f] = (arr8 32 f).toList by simp [hcells]]
  simpa using h2

structure HsAt (w : World) (g : Nat) (A : Option Addr) (xs : List Int) (cap : Nat) (v : Value) (hs : List (Nat → BitVec 8)) (j : Nat) (wr : World) : Prop where
  own : wr.ownsRow w.heap.size 24 32 v hs.length (hcells hs)
  seq : SeqAt wr g j A xs cap
  only : Only g w wr
def SomeHashes (w : World) (g most : Nat) (e : Ending) (w' : World) : Prop :=
  ∃ (hs : List (Nat → BitVec 8)) (O : Option Addr) (c : Nat), e = .returned (.slice O hs.length c) ∧ hs.length ≤ most ∧ hs.length ≤ c ∧ c ≤ 9223372036854775807 ∧ SlRead w' O (hcells hs) ∧ Only g w w'
theorem SlRead.of_own32 {w : World} {base n c : Nat} {e : TypeId} {A : Option Addr} {xs : List Value} (h : w.ownsRow base e 32 (.slice A n c) n xs) : SlRead w A xs := by
  intro hn
  have hnn : 0 < n := by have := h.1; omega
  rcases h.2 with ⟨hv, h0⟩ | ⟨g, cap, cur, hv, _, hg, _, _, _, _⟩
  · omega
  · injection hv with hA _ _
    subst hA
    have hlt : g < w.heap.size := by
      rcases Nat.lt_or_ge g w.heap.size with hl | hl
      · exact hl
      · rw [Array.getElem?_eq_none hl] at hg; cases hg
    refine ⟨g, 0, rfl, hlt, fun j u hj => ?_⟩
    have := h.cells (g := g) rfl j u hj
    rwa [add_eq] at this

set_option maxRecDepth 100000 in
set_option maxHeartbeats 1600000 in
theorem hashes_any (g i : Nat) (A : Option Addr) (xs : List Int) (cap most : Nat) (w : World) (h : SeqAt w g i A xs cap) (hi : i ≤ 4611686018427380000) (hm : most ≤ 5000) (hx : ∀ x ∈ xs, -9223372036854775808 ≤ x ∧ x ≤ 9223372036854775807) :
    Calls Tryd.prog 8 #[.pointer (some ⟨g, 0, none⟩), .int .i64 (most : Int)] w (SomeHashes w g most) := by
  have hglt := h.lt
  go_enter Tryd.func8, Tryd.ntmps8
  have hnx := next_any g i A xs cap (most + 1) w h (by omega) (by omega) (by omega) hx
  rw [show ((most + 1 : Nat) : Int) = (most : Int) + 1 by omega] at hnx
  go_wp2_with fail
  refine hnx.mono ?_
  rintro e W ⟨m, hm1, rfl, ho, hs⟩
  have hat : HsAt w g A xs cap (.slice none 0 0) [] (i + 1) W := ⟨World.ownsRow_nil W _ _ _, hs, ho⟩
  clear hnx h ho hs
  go_wp2_with fail
  go_loopw [5, 6] (fun v i' wr => ∃ (k j : Nat) (hs : List (Nat → BitVec 8)), i' = .int .i64 k ∧ k + hs.length ≤ most ∧ j + k ≤ i + 1 + most ∧ HsAt w g A xs cap v hs j wr) (fun _ i' _ => (intOf i').toNat)
  case atStart => exact ⟨m, i + 1, [], rfl, by simp; omega, by omega, hat⟩
  clear hat
  case round =>
    obtain ⟨k, j, hs, rfl, hkm, hj, hat⟩ := hrel
    by_cases hpos : 0 < k
    · have hk0 : (0 : Int) < (k : Int) := by omega
      have hnx := next_any g j A xs cap 5000 wr hat.seq (by omega) (by omega) (by omega) hx
      go_wp2_with fail
      refine hnx.mono ?_
      rintro e W2 ⟨m2, hm2, rfl, ho2, hs2⟩
      clear hnx
      go_wp2_with fail
      refine (key_any m2 W2).mono ?_
      rintro e W3 ⟨f, rfl, hb3⟩
      have hs3 := hs2.below hb3
      have hsz : w.heap.size ≤ wr.heap.size := hat.only.size
      have hown3 : W3.ownsRow w.heap.size 24 32 _ hs.length (hcells hs) := ownsRow_via (ownsRow_via hat.own (fun b hb hl => ho2.block b hl (by omega))) (fun b _ hl => hb3.block b hl)
      have ho3 : Only g w W3 := (hat.only.trans ho2).trans (Only.of_below hb3)
      obtain ⟨v5, W5, hr5, hown5, hg5⟩ := run_hash 26 W3 w.heap.size _ hs f hown3 ho3.size (by omega)
      have hbslf := bsl_hash f W3
      have hat5 : HsAt w g A xs cap v5 (hs ++ [f]) (j + 1) W5 := by
        have hb4 : Below W3.heap.size W3 (W3.alloc (.cells (arr8 32 f) 24)) := (Below.refl _ _).alloc (Nat.le_refl _) _
        have hb5 : Below w.heap.size (W3.alloc (.cells (arr8 32 f) 24)) W5 := (Below.refl _ _).grown hg5 (by have := ho3.size; simp; omega) (fun q hq => (hown3.lt q hq).1)
        have hbw : Below w.heap.size W3 W5 := (hb4.mono ho3.size).trans hb5
        have hblk : W5.heap[g]? = W3.heap[g]? := hbw.block g hglt
        refine ⟨hown5, ⟨by rw [hblk]; exact hs3.blk, ?_, hs3.off⟩, ⟨hbw.os.trans ho3.os, hbw.tape.trans ho3.tape, hbw.output.trans ho3.output, Nat.le_trans ho3.size hbw.size, fun q hq hne => (hbw.block q hq).trans (ho3.block q hq hne)⟩⟩
        intro hn
        obtain ⟨b, o, e, hlt, hc⟩ := hs3.l hn
        have hbg := hs3.off (by simpa using hn) b o e
        exact ⟨b, o, e, Nat.lt_of_lt_of_le hlt hbw.size, fun q u hu => (hbw.cell (p := ⟨b, o + q, none⟩) (by simp only; omega)).trans (hc q u hu)⟩
      clear hat ho2 hs2 hb3 hs3 hown3 hown5 hg5 ho3
      go_wp2_with (first | (refine wpList_bsl_run (by kernel_rfl) 26 1 _ rfl #[(0, .agg (arr8 32 f))] (by kernel_rfl) _ _ hbslf ?_) | (at_builtin; refine wpList_append_run_g (by kernel_rfl) _ _ _ _ rfl _ _ rfl rfl _ _ hr5 ?_))
      go_roundw
      case rel => exact ⟨k - 1, j + 1, hs ++ [f], by go_num, by simp; omega, by omega, hat5⟩
      case measure => simp [intOf]; omega
    · have hk0 : k = 0 := by omega
      subst hk0
      obtain ⟨own, _, only⟩ := hat
      rcases own.2 with ⟨rfl, h0⟩ | ⟨b, c, cur, rfl, h1, h2, h3, h4, h5, h6⟩
      · obtain rfl := List.eq_nil_of_length_eq_zero h0
        clear own
        go_wp2_with fail
        go_ret
        exact ⟨[], none, 0, rfl, by simp, by simp, by simp, SlRead.nil_, only⟩
      · have hsr := SlRead.of_own32 own
        clear own h2 h5 h6
        have HS := Lib.hid hsr; clear hsr
        go_wp2_with fail
        go_ret
        exact ⟨hs, _, c, rfl, by omega, h3, by unfold maxLen at h4; exact h4, HS.out, only⟩
end Go.Proofs.YtihnpcoiadbpiaaDoor
