import Derived.Test.YtionjhlllpipjaaDoorDve
/-
  The document's disk: NewDisk.
-/
namespace Go.Proofs.YtionjhlllpipjaaDoor
open Go.RowKit

theorem exec_mk {P : Program} {w w' : World} {a : Act} {o : Oper} {t : TypeId} {x y : Operand} {vx vy v : Value} (ho : o.op = .makeSlice t x y) (hx : (a.eval x, a.eval y) = (vx, vy)) (hrun : (Instr.makeSlice t vx vy).run P w = .ok v w') : (execOp a.eval o).run P w = .ok (.value v) w' := by
  simp only [Prod.mk.injEq] at hx
  unfold execOp; simp only [ho, hx.1, hx.2, Sem.run_bind, hrun]; rfl
theorem mk128 (w : World) : (Instr.makeSlice 32 (.int .i64 128) (.int .i64 128)).run Tryd.prog w = .ok (.slice (some ⟨w.heap.size, 0, none⟩) 128 128) (w.alloc (.cells (Array.replicate 128 (.int .u8 0)) 5)) := by kernel_rfl
theorem info_T2 : (Tryd.prog.info? 62).map (fun i => (i.size, i.bytes)) = some (1, 24) := by kernel_rfl
theorem zero_T2 (i : TypeInfo) (h : Tryd.prog.info? 62 = some i) : i.zero = some (.slice none 0 0) := by
  have : (Tryd.prog.info? 62).bind (·.zero) = some (.slice none 0 0) := by kernel_rfl
  rw [h] at this
  exact this
theorem app_T2 (W : World) (base : Nat) (v : Value) (n : Nat) (xs : List Value) (hown : W.ownsRow base 62 1 v n xs) (a : Addr) (m c : Nat) (news : List Value) (hl : news.length = m)
    (hnews : ∀ j u, news[j]? = some u → W.cell? (a.add j) = some u) (h1 : ∀ u ∈ news, u.oneCell' = true) (hn : n + m ≤ 100000) (hbase : base ≤ W.heap.size) :
    ∃ v' w', (Builtin.append_ #[49, 49] 49 #[v, .slice (some a) m c]).run Tryd.prog W = .ok v' w' ∧ w'.ownsRow base 62 1 v' (n + m) (xs ++ news) ∧ W.grownBy w' v.ownBlock ∧ (∀ q, v'.ownBlock = some q → v.ownBlock = some q ∨ W.heap.size ≤ q) := by
  obtain ⟨i, hi, hz⟩ := Option.map_eq_some_iff.1 info_T2
  simp only [Prod.mk.injEq] at hz
  obtain ⟨v', w', h1, h2, h3, _, h4⟩ := run_append_own2 (P := Tryd.prog) W base 49 49 62 i (.slice none 0 0) 1 24 Tryd.underlying49 hi (zero_T2 i hi) hz.1 hz.2 rfl (by omega) v n xs hown a m c news (by omega) hnews h1 (by unfold maxLen; omega) (by omega) hbase
  exact ⟨v', w', h1, h2, h3, h4⟩
theorem bsl_T2 (A : Option Addr) (n c : Nat) (w : World) : (Instr.buildSlice 49 1 #[(0, .slice A n c)]).run Tryd.prog w = .ok (.slice (some ⟨w.heap.size, 0, none⟩) 1 1) (w.alloc (.cells #[.slice A n c] 62)) := by kernel_rfl
/-- a sector of zeros, as it lies -/
def ZS (w0 W : World) (X : Nat) (ow : Option Nat) (u : Value) : Prop := ∃ g gb, u = .slice (some ⟨g, 0, none⟩) 1 1 ∧ (w0.heap.size ≤ g ∧ g < W.heap.size ∧ g ≠ X ∧ ow ≠ some g) ∧ (w0.heap.size ≤ gb ∧ gb < W.heap.size ∧ gb ≠ X ∧ ow ≠ some gb) ∧ W.cell? ⟨g, 0, none⟩ = some (.slice (some ⟨gb, 0, none⟩) 128 128) ∧ SlRead W (some ⟨gb, 0, none⟩) (bcells zc)
structure NdS (w0 W : World) (X k : Nat) (v : Value) (cs : List Value) : Prop where
  b : Below w0.heap.size w0 W
  c0 : W.cell? ⟨X, 0, none⟩ = some v
  c1 : W.cell? ⟨X, 1, none⟩ = some (.int .i64 (-1))
  c2 : W.cell? ⟨X, 2, none⟩ = some (.bool false)
  fr : ∀ o, W.frozen? ⟨X, o, none⟩ = false
  lx : w0.heap.size ≤ X
  own : W.ownsRow w0.heap.size 62 1 v k cs
  ox : ∀ q, v.ownBlock = some q → q ≠ X
  e : ∀ u ∈ cs, ZS w0 W X v.ownBlock u
theorem ZS.turn {F : Nat → Prop} {w0 W W' : World} {X : Nat} {ow ow' : Option Nat} {u : Value} (h : ZS w0 W X ow u) (ht : Turn F W W') (hF : ∀ q, F q → q = X ∨ ow = some q) (ho : ∀ q, ow' = some q → ow = some q ∨ W.heap.size ≤ q) : ZS w0 W' X ow' u := by
  obtain ⟨g, gb, e, ⟨a1, a2, a3, a4⟩, ⟨b1, b2, b3, b4⟩, hc, hr⟩ := h
  have nF : ∀ q, q ≠ X → ow ≠ some q → ¬ F q := fun q h1 h2 hf => (hF q hf).elim h1 h2
  have nO : ∀ q, q < W.heap.size → ow ≠ some q → ow' ≠ some q := fun q h1 h2 h3 => (ho q h3).elim h2 (fun h => by omega)
  exact ⟨g, gb, e, ⟨a1, Nat.lt_of_lt_of_le a2 ht.size, a3, nO g a2 a4⟩, ⟨b1, Nat.lt_of_lt_of_le b2 ht.size, b3, nO gb b2 b4⟩, (ht.cell a2 (nF g a3 a4)).trans hc, hr.turnM ht (fun _ a ha => by cases ha; exact nF gb b3 b4)⟩
theorem zc_new (w : World) : SlRead (w.alloc (.cells (Array.replicate 128 (.int .u8 0)) 5)) (some ⟨w.heap.size, 0, none⟩) (bcells zc) := fun _ => ⟨w.heap.size, 0, rfl, by simp, fun j u hj => by
  rw [zc_cells] at hj
  have h : (w.alloc (.cells (List.replicate 128 (Value.int .u8 0)).toArray 5)).rangeAt w.heap.size 0 (List.replicate 128 (.int .u8 0)) := range_new (heap1_0 w _)
  rw [List.toArray_replicate] at h
  exact h j u hj⟩
set_option maxRecDepth 100000 in
set_option maxHeartbeats 3200000 in
theorem newdisk_any (z : Int) (M : Nat) (hM : (M : Int) = min (max z 1) 400) (w : World) : Calls Tryd.prog 10 #[.int .i64 z] w fun e w' =>
    ∃ X T cT, e = .returned (.pointer (some ⟨X, 0, none⟩)) ∧ DdS w' w.heap.size X T cT (fun q => w.heap.size ≤ q ∧ q ≠ X ∧ q ≠ T) (List.replicate M [zc]) (-1) false ∧ Below w.heap.size w w' := by
  have hmx : (if z < 1 then (1 : Int) else z) = max z 1 := by split <;> omega
  have hmn : (if 400 < max z 1 then (400 : Int) else max z 1) = (M : Int) := by split <;> omega
  have hMb : 1 ≤ M ∧ M ≤ 400 := by omega
  generalize max z 1 = mx at *
  clear hM
  go_enter Tryd.func10, Tryd.ntmps10
  go_upto_region 2 with (fail)
  obtain ⟨X, hX⟩ : ∃ X, X = w.heap.size := ⟨_, rfl⟩
  refine wp_world (fun W => NdS w W X 0 (.slice none 0 0) []) ?_ ?_
  · rw [hX]
    exact ⟨below_alc w _, by simp [go_sem], by simp [go_sem], by simp [go_sem], fun o => by simp [go_sem], Nat.le_refl _, World.ownsRow_nil _ _ _ _, fun q hq => by simp [Value.ownBlock] at hq, fun u hu => absurd hu (by simp)⟩
  rintro W0 hN0
  rw [← hX]
  clear hX
  go_wp2_with fail
  go_loopw [4] (fun x wr => ∃ (k : Nat) (v : Value) (cs : List Value), k ≤ M ∧ x = .int .i64 (k : Int) ∧ NdS w wr X k v cs) (fun x _ => M - (intOf x).toNat)
  case atStart => exact ⟨0, _, _, by omega, rfl, hN0⟩
  clear hN0
  case round =>
    obtain ⟨k, v, cs, hk, rfl, hN⟩ := hrel
    by_cases hlt : k < M
    · have hkM : (k : Int) < (M : Int) := by omega
      have hc0 := hN.c0
      have hXl : X < wr.heap.size := cell_lt hc0
      have hb1 : Below wr.heap.size wr (wr.drew.alloc (.cells (Array.replicate 128 (.int .u8 0)) 5)) := (Below.drewNr (w := wr) 1).trans ((below_alc wr.drew _).mono (by simp))
      have hb2 : Below wr.heap.size wr ((wr.drew.alloc (.cells (Array.replicate 128 (.int .u8 0)) 5)).alloc (.cells #[.slice (some ⟨wr.drew.heap.size, 0, none⟩) 128 128] 32)) := hb1.trans ((below_alc (wr.drew.alloc (.cells (Array.replicate 128 (.int .u8 0)) 5)) _).mono hb1.size)
      have hb3 : Below wr.heap.size wr (((wr.drew.alloc (.cells (Array.replicate 128 (.int .u8 0)) 5)).alloc (.cells #[.slice (some ⟨wr.drew.heap.size, 0, none⟩) 128 128] 32)).alloc (.cells #[.slice (some ⟨(wr.drew.alloc (.cells (Array.replicate 128 (.int .u8 0)) 5)).heap.size, 0, none⟩) 1 1] 62)) := hb2.trans ((below_alc ((wr.drew.alloc (.cells (Array.replicate 128 (.int .u8 0)) 5)).alloc (.cells #[.slice (some ⟨wr.drew.heap.size, 0, none⟩) 128 128] 32)) _).mono hb2.size)
      have hvX : ¬ v.ownBlock = some X := fun e => hN.ox X e rfl
      have s0 : wr.drew.heap.size = wr.heap.size := rfl
      have s1 : (wr.drew.alloc (.cells (Array.replicate 128 (.int .u8 0)) 5)).heap.size = wr.heap.size + 1 := by simp
      have s2 : ((wr.drew.alloc (.cells (Array.replicate 128 (.int .u8 0)) 5)).alloc (.cells #[.slice (some ⟨wr.drew.heap.size, 0, none⟩) 128 128] 32)).heap.size = wr.heap.size + 2 := by simp
      have s3 : (((wr.drew.alloc (.cells (Array.replicate 128 (.int .u8 0)) 5)).alloc (.cells #[.slice (some ⟨wr.drew.heap.size, 0, none⟩) 128 128] 32)).alloc (.cells #[.slice (some ⟨(wr.drew.alloc (.cells (Array.replicate 128 (.int .u8 0)) 5)).heap.size, 0, none⟩) 1 1] 62)).heap.size = wr.heap.size + 3 := by simp
      have hbs := hN.b.size
      have hown3 : World.ownsRow (((wr.drew.alloc (.cells (Array.replicate 128 (.int .u8 0)) 5)).alloc (.cells #[.slice (some ⟨wr.drew.heap.size, 0, none⟩) 128 128] 32)).alloc (.cells #[.slice (some ⟨(wr.drew.alloc (.cells (Array.replicate 128 (.int .u8 0)) 5)).heap.size, 0, none⟩) 1 1] 62)) w.heap.size 62 1 v k cs := (((show World.ownsRow wr.drew w.heap.size 62 1 v k cs from own_kept hN.own (fun _ _ => rfl)).alloc _).alloc _).alloc _
      obtain ⟨v4, w4, hap4, hown4, hg4, hat4⟩ := app_T2 (((wr.drew.alloc (.cells (Array.replicate 128 (.int .u8 0)) 5)).alloc (.cells #[.slice (some ⟨wr.drew.heap.size, 0, none⟩) 128 128] 32)).alloc (.cells #[.slice (some ⟨(wr.drew.alloc (.cells (Array.replicate 128 (.int .u8 0)) 5)).heap.size, 0, none⟩) 1 1] 62)) w.heap.size v k cs hown3 ⟨((wr.drew.alloc (.cells (Array.replicate 128 (.int .u8 0)) 5)).alloc (.cells #[.slice (some ⟨wr.drew.heap.size, 0, none⟩) 128 128] 32)).heap.size, 0, none⟩ 1 1 [.slice (some ⟨(wr.drew.alloc (.cells (Array.replicate 128 (.int .u8 0)) 5)).heap.size, 0, none⟩) 1 1] rfl (fun q u hu => by rw [Addr.add_mid]; exact range_new (heap1_0 ((wr.drew.alloc (.cells (Array.replicate 128 (.int .u8 0)) 5)).alloc (.cells #[.slice (some ⟨wr.drew.heap.size, 0, none⟩) 128 128] 32)) _) q u hu) (by intro u hu; rw [List.mem_singleton.1 hu]; rfl) (by omega) (by omega)
      obtain ⟨A4, c4, rfl, hc4, _, hA4⟩ := own_slice hown4
      have hT4 : Turn (fun q => v.ownBlock = some q) (((wr.drew.alloc (.cells (Array.replicate 128 (.int .u8 0)) 5)).alloc (.cells #[.slice (some ⟨wr.drew.heap.size, 0, none⟩) 128 128] 32)).alloc (.cells #[.slice (some ⟨(wr.drew.alloc (.cells (Array.replicate 128 (.int .u8 0)) 5)).heap.size, 0, none⟩) 1 1] 62)) w4 := Turn.of_grown hg4 (fun q hq => hq)
      have hT : Turn (fun q => v.ownBlock = some q) wr w4 := (Turn.of_below hb3).trans hT4 (fun q hq => .inl hq)
      have hZ : ZS w (((wr.drew.alloc (.cells (Array.replicate 128 (.int .u8 0)) 5)).alloc (.cells #[.slice (some ⟨wr.drew.heap.size, 0, none⟩) 128 128] 32)).alloc (.cells #[.slice (some ⟨(wr.drew.alloc (.cells (Array.replicate 128 (.int .u8 0)) 5)).heap.size, 0, none⟩) 1 1] 62)) X v.ownBlock (.slice (some ⟨(wr.drew.alloc (.cells (Array.replicate 128 (.int .u8 0)) 5)).heap.size, 0, none⟩) 1 1) := by
        have hlt := fun q hq => (hN.own.lt q hq).2
        refine ⟨(wr.drew.alloc (.cells (Array.replicate 128 (.int .u8 0)) 5)).heap.size, wr.drew.heap.size, rfl, ⟨by omega, by omega, by omega, fun e => by have := hlt _ e; omega⟩, ⟨by omega, by omega, by omega, fun e => by have := hlt _ e; omega⟩, ?_, ((zc_new wr.drew).below (below_alc (wr.drew.alloc (.cells (Array.replicate 128 (.int .u8 0)) 5)) _)).below (below_alc ((wr.drew.alloc (.cells (Array.replicate 128 (.int .u8 0)) 5)).alloc (.cells #[.slice (some ⟨wr.drew.heap.size, 0, none⟩) 128 128] 32)) _)⟩
        exact ((below_alc ((wr.drew.alloc (.cells (Array.replicate 128 (.int .u8 0)) 5)).alloc (.cells #[.slice (some ⟨wr.drew.heap.size, 0, none⟩) 128 128] 32)) _).cell (p := ⟨(wr.drew.alloc (.cells (Array.replicate 128 (.int .u8 0)) 5)).heap.size, 0, none⟩) (by show (wr.drew.alloc (.cells (Array.replicate 128 (.int .u8 0)) 5)).heap.size < ((wr.drew.alloc (.cells (Array.replicate 128 (.int .u8 0)) 5)).alloc (.cells #[.slice (some ⟨wr.drew.heap.size, 0, none⟩) 128 128] 32)).heap.size; omega)).trans (range_new (heap1_0 (wr.drew.alloc (.cells (Array.replicate 128 (.int .u8 0)) 5)) _) 0 _ rfl)
      have hX4 := (hT.cell (o := 0) hXl hvX).trans hc0
      have hf4 : w4.frozen? ⟨X, 0, none⟩ = false := (World.frozen?_of_block (hT.block X hXl hvX)).trans (hN.fr 0)
      have hset := set_turn w4 X 0 (.slice A4 (k + 1) c4)
      have hN4 : NdS w (w4.setCell ⟨X, 0, none⟩ (.slice A4 (k + 1) c4)) X (k + 1) (.slice A4 (k + 1) c4) (cs ++ [.slice (some ⟨(wr.drew.alloc (.cells (Array.replicate 128 (.int .u8 0)) 5)).heap.size, 0, none⟩) 1 1]) := by
        have o4 : ∀ q, (Value.slice A4 (k + 1) c4).ownBlock = some q → q ≠ X := fun q hq => by
          rcases hat4 q hq with h | h
          · exact hN.ox q h
          · omega
        have oth : ∀ j, j ≠ 0 → (w4.setCell ⟨X, 0, none⟩ (.slice A4 (k + 1) c4)).cell? ⟨X, j, none⟩ = w4.cell? ⟨X, j, none⟩ := fun j hj => World.cell?_setCell_other _ _ _ _ (by intro e; have := congrArg Addr.off e; simp at this; omega)
        have htt : Turn (fun q => q = X ∨ v.ownBlock = some q) wr (w4.setCell ⟨X, 0, none⟩ (.slice A4 (k + 1) c4)) := (hT.mono (fun q hq => (.inr hq : q = X ∨ v.ownBlock = some q))).trans hset (fun q hq => .inl (.inl hq))
        have ht3 : Turn (fun q => q = X ∨ v.ownBlock = some q) (((wr.drew.alloc (.cells (Array.replicate 128 (.int .u8 0)) 5)).alloc (.cells #[.slice (some ⟨wr.drew.heap.size, 0, none⟩) 128 128] 32)).alloc (.cells #[.slice (some ⟨(wr.drew.alloc (.cells (Array.replicate 128 (.int .u8 0)) 5)).heap.size, 0, none⟩) 1 1] 62)) (w4.setCell ⟨X, 0, none⟩ (.slice A4 (k + 1) c4)) := (hT4.mono (fun q hq => (.inr hq : q = X ∨ v.ownBlock = some q))).trans hset (fun q hq => .inl (.inl hq))
        refine ⟨htt.below hN.b hbs (fun q hq => hq.elim (fun e => by rw [e]; exact hN.lx) (fun e => (hN.own.lt q e).1)), World.cell?_setCell_same w4 _ _ hX4, (oth 1 (by omega)).trans ((hT.cell hXl hvX).trans hN.c1), (oth 2 (by omega)).trans ((hT.cell hXl hvX).trans hN.c2), fun o => by rw [frozen_setCell]; exact (World.frozen?_of_block (hT.block X hXl hvX)).trans (hN.fr o), hN.lx, own_kept hown4 (fun q hq => hset.block q (hown4.lt q hq).2 (o4 q hq)), o4, fun u hu => ?_⟩
        rcases List.mem_append.1 hu with h | h
        · exact (hN.e u h).turn htt (fun q hq => hq) (fun q hq => (hat4 q hq).imp id (fun h => by omega))
        · rw [List.mem_singleton.1 h]
          exact hZ.turn ht3 (fun q hq => hq) hat4
      have HN := Lib.hid hN4
      clear hN4 hset hZ hT4 hat4 hg4 hown4 hown3 hA4 hc4 hN
      go_upto_region 5 with (fail)
      refine wp_region_held_cut (S := fun V => Turn (fun q => v.ownBlock = some q) wr V) 9 (by kernel_rfl) (by kernel_rfl) (Turn.of_below (Below.drewNr (w := wr) 1)) (fun hHeld => ?_)
      refine held_move 0 (Go.Operand.tmp 3) (some 14) (.pointer (some ⟨X, 0, none⟩)) (by kernel_rfl) (by kernel_rfl) (by kernel_rfl) (by kernel_rfl) (by kernel_rfl) (fun _ _ _ _ _ h => h) hHeld ?_
      refine held_move 1 (Go.Operand.tmp 3) (some 15) (.pointer (some ⟨X, 0, none⟩)) (by kernel_rfl) (by kernel_rfl) (by kernel_rfl) (by kernel_rfl) (by kernel_rfl) (fun _ _ _ _ _ h => h) hHeld ?_
      refine held_nil 2 (Go.Operand.tmp 15) (some 16) ⟨X, 0, none⟩ (by kernel_rfl) (by kernel_rfl) (by kernel_rfl) (by kernel_rfl) (by kernel_rfl) (fun _ _ _ _ _ h => h) hHeld ?_
      refine held_field 3 51 (Go.Operand.tmp 16) 0 (some 17) (.pointer (some ⟨X, 0, none⟩)) (.pointer (some ⟨X, 0, none⟩)) (by kernel_rfl) (by kernel_rfl) (fun w => by kernel_rfl) (by kernel_rfl) (by kernel_rfl) (by kernel_rfl) (fun _ _ _ _ _ h => h) hHeld ?_
      refine held_cell 4 49 (Go.Operand.tmp 17) (some 18) (.pointer (some ⟨X, 0, none⟩)) (v) (by kernel_rfl) (by kernel_rfl) (fun V hV => load_slice X 0 V 49 (fun w => by kernel_rfl) _ ((hV.cell hXl hvX).trans hc0)) (by kernel_rfl) (by kernel_rfl) (by kernel_rfl) (fun _ _ _ _ _ h => h) hHeld ?_
      refine held_run 5 (Go.Op.makeSlice 32 (Go.Operand.const (Go.Value.int Go.IntKind.i64 128)) (Go.Operand.const (Go.Value.int Go.IntKind.i64 128))) 32 (some 19) (.slice (some ⟨wr.drew.heap.size, 0, none⟩) 128 128) ((wr.drew.alloc (.cells (Array.replicate 128 (.int .u8 0)) 5))) (by kernel_rfl) (by kernel_rfl) (by kernel_rfl) (fun o ho ht => exec_mk ho (by kernel_rfl) (mk128 _)) (Turn.of_below hb1) ?_
      intro hHeld
      refine held_run 6 (Go.Op.buildSlice 62 1 #[(0, Go.Operand.tmp 19)]) 62 (some 20) (.slice (some ⟨(wr.drew.alloc (.cells (Array.replicate 128 (.int .u8 0)) 5)).heap.size, 0, none⟩) 1 1) (((wr.drew.alloc (.cells (Array.replicate 128 (.int .u8 0)) 5)).alloc (.cells #[.slice (some ⟨wr.drew.heap.size, 0, none⟩) 128 128] 32))) (by kernel_rfl) (by kernel_rfl) (by kernel_rfl) (fun o ho ht => exec_bsl (vs := #[(0, .slice (some ⟨wr.drew.heap.size, 0, none⟩) 128 128)]) ho (by kernel_rfl) (bsl_T1 _ _ _ _)) (Turn.of_below hb2) ?_
      intro hHeld
      refine held_run 7 (Go.Op.buildSlice 49 1 #[(0, Go.Operand.tmp 20)]) 49 (some 21) (.slice (some ⟨((wr.drew.alloc (.cells (Array.replicate 128 (.int .u8 0)) 5)).alloc (.cells #[.slice (some ⟨wr.drew.heap.size, 0, none⟩) 128 128] 32)).heap.size, 0, none⟩) 1 1) ((((wr.drew.alloc (.cells (Array.replicate 128 (.int .u8 0)) 5)).alloc (.cells #[.slice (some ⟨wr.drew.heap.size, 0, none⟩) 128 128] 32)).alloc (.cells #[.slice (some ⟨(wr.drew.alloc (.cells (Array.replicate 128 (.int .u8 0)) 5)).heap.size, 0, none⟩) 1 1] 62))) (by kernel_rfl) (by kernel_rfl) (by kernel_rfl) (fun o ho ht => exec_bsl (vs := #[(0, .slice (some ⟨(wr.drew.alloc (.cells (Array.replicate 128 (.int .u8 0)) 5)).heap.size, 0, none⟩) 1 1)]) ho (by kernel_rfl) (bsl_T2 _ _ _ _)) (Turn.of_below hb3) ?_
      intro hHeld
      refine held_run 8 (Go.Op.call { callee := Go.Callee.builtin Go.Builtin.append, args := #[Go.Operand.tmp 18, Go.Operand.tmp 21], argTypes := #[49, 49] }) 49 (some 22) (.slice A4 (k + 1) c4) (w4) (by kernel_rfl) (by kernel_rfl) (by kernel_rfl) (fun o ho ht => exec_append ho ht (vs := v) (vx := .slice (some ⟨((wr.drew.alloc (.cells (Array.replicate 128 (.int .u8 0)) 5)).alloc (.cells #[.slice (some ⟨wr.drew.heap.size, 0, none⟩) 128 128] 32)).heap.size, 0, none⟩) 1 1) (by kernel_rfl) (hap4)) (hT) ?_
      intro hHeld
      refine wpAnyH_done (by kernel_rfl) ?_ _
      show wpList _ _ _ _ _ _
      simp only [Act.put, List.setIfInBounds_toArray, List.set_cons_zero, List.set_cons_succ, List.drop_succ_cons, List.drop_zero]
      clear hHeld hap4 hb1 hb2 hb3 hT hc0
      go_wp2_with fail
      go_roundw
      case rel => exact ⟨k + 1, _, _, by omega, by go_num, HN.out⟩
      case measure => simp [intOf] <;> omega
    · have hkM : ¬ (k : Int) < (M : Int) := by omega
      have hkE : k = M := by omega
      subst hkE
      have hM0 : 0 < k := by omega
      have hcl : cs.length = k := by have := hN.own.1; omega
      obtain ⟨T, cT, hv, hTl, hTh, hTr, hcT⟩ : ∃ T cT, v = .slice (some ⟨T, 0, none⟩) k cT ∧ w.heap.size ≤ T ∧ (∃ cur, wr.heap[T]? = some (.cells cur 62 (0, 0))) ∧ wr.rangeAt T 0 cs ∧ k ≤ cT := by
        rcases own_cells hN.own with ⟨e, _⟩ | ⟨g, c, e, h1, _, h3, _⟩
        · omega
        · subst e
          rcases hN.own.2 with ⟨e, _⟩ | ⟨g', cap, cur, e, _, h5, h6, _⟩
          · cases e
          · cases e
            exact ⟨g, c, rfl, h1, ⟨cur, h5⟩, h3, h6⟩
      subst hv
      obtain ⟨cur, hcur⟩ := hTh
      have hob : (Value.slice (some ⟨T, 0, none⟩) k cT).ownBlock = some T := by simp [Value.ownBlock]
      have hTX := hN.ox T hob
      have hfT : ∀ o, wr.frozen? ⟨T, o, none⟩ = false := fun o => by unfold World.frozen?; simp [hcur]
      have hDD : DdS wr w.heap.size X T cT (fun q => w.heap.size ≤ q ∧ q ≠ X ∧ q ≠ T) (List.replicate k [zc]) (-1) false := by
        refine ⟨by rw [List.length_replicate]; exact hN.c0, hN.c1, hN.c2, fun o => ⟨hN.fr o, hfT o⟩, fun i l hl => ?_, fun l hl => by rw [List.eq_of_mem_replicate hl]; exact ⟨by simp, by simp, fun b hb => by rw [List.mem_singleton.1 hb]; exact zc_len⟩, fun q hq => hq.2, fun e => hTX e.symm, ⟨hN.lx, hTl⟩, by rw [List.length_replicate]; omega, by rw [List.length_replicate]; exact hcT, by omega⟩
        have hi : i < k := by have := (List.getElem?_eq_some_iff.1 hl).1; simpa using this
        rw [List.getElem?_replicate, if_pos hi] at hl
        cases hl
        have hcu : cs[i]? = some cs[i] := List.getElem?_eq_getElem (by omega)
        obtain ⟨g, gb, e, ⟨a1, a2, a3, a4⟩, ⟨b1, b2, b3, b4⟩, hc, hr⟩ := hN.e cs[i] (List.getElem_mem (by omega))
        have hcell := hTr i _ hcu
        rw [Nat.zero_add, e] at hcell
        refine ⟨some ⟨g, 0, none⟩, 1, hcell, by simp, fun j b hb => ?_⟩
        rcases j with _ | j
        · simp at hb
          subst hb
          exact ⟨g, 0, some ⟨gb, 0, none⟩, 128, rfl, ⟨a1, a3, fun e => a4 (by rw [hob, e])⟩, a2, hc, Nat.le_refl _, hr, fun a ha => by cases ha; exact ⟨⟨b1, b3, fun e => b4 (by rw [hob, ← e])⟩, b2⟩⟩
        · simp at hb
      have HF := Lib.hid (And.intro hDD hN.b)
      clear hDD hN hTr hcur hfT
      go_wp2_with fail
      go_ret
      exact ⟨X, rfl, ⟨T, cT, HF.out.1⟩, HF.out.2⟩
end Go.Proofs.YtionjhlllpipjaaDoor
