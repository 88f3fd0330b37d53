import Derived.Test.YtegijahkiopncaaDoorBlc
/-
  blob: Used, Open.
-/
namespace Go.Proofs.YtegijahkiopncaaDoor
open Go.RowKit
def sumN (es : List Be) : Int := (es.map Be.n).sum
theorem sumN_take (es : List Be) (i : Nat) (e : Be) (h : es[i]? = some e) : sumN (es.take (i + 1)) = sumN (es.take i) + e.n := by
  unfold sumN
  rw [List.take_add_one, h, List.map_append, List.sum_append]
  simp
/-- few entries, none of them long -/
def Few (es : List Be) : Prop := es.length ≤ 16 ∧ ∀ (i : Nat) (e : Be), es[i]? = some e → 0 ≤ e.n ∧ e.n ≤ 30000
theorem sumN_bound {es : List Be} (h : ∀ (i : Nat) (e : Be), es[i]? = some e → 0 ≤ e.n ∧ e.n ≤ 30000) : 0 ≤ sumN es ∧ sumN es ≤ 30000 * es.length := by
  induction es with
  | nil => simp [sumN]
  | cons x xs ih =>
    have h1 := ih (fun i e he => h (i + 1) e (by simpa using he))
    have h2 := h 0 x (by simp)
    have e3 : sumN (x :: xs) = x.n + sumN xs := by simp [sumN]
    rw [e3]
    simp only [List.length_cons] at h1 ⊢
    constructor <;> omega
theorem sumN_tb {es : List Be} (h : Few es) (i : Nat) : 0 ≤ sumN (es.take i) ∧ sumN (es.take i) ≤ 480000 := by
  have := sumN_bound (es := es.take i) (fun j e he => by
    rw [List.getElem?_take] at he
    split at he
    · exact h.2 j e he
    · cases he)
  have hl : (es.take i).length ≤ 16 := Nat.le_trans (by rw [List.length_take]; exact Nat.min_le_right _ _) h.1
  omega
theorem load_n {W : World} {e : Be} (h : e.at W) : W.cell? ⟨e.g, 32, none⟩ = some (.int .i64 e.n) := cell_heap h (en_c32 _ _ _ _ _)
set_option maxRecDepth 100000 in
set_option maxHeartbeats 800000 in
theorem used_b {w : World} {S : Nat} {q l : Int} {V : Value} {es : List Be} (h : StS w S q l V es) (hn : es.length ≤ 16) (hF : Few es) :
    Calls Tryd.prog 20 #[.pointer (some ⟨S, 0, none⟩)] w fun r w' => r = .returned (.int .i64 (sumN es)) ∧ w' = w := by
  obtain ⟨A, c, hV, _⟩ := own_slice h.own
  have hst := load_st2 S w q l V h.st
  have hrow : ∀ (i : Nat) (e : Be), es[i]? = some e → ∃ g, A = some ⟨g, 0, none⟩ ∧ w.cell? ⟨g, i, none⟩ = some (.pointer (some ⟨e.g, 0, none⟩)) ∧ w.cell? ⟨e.g, 32, none⟩ = some (.int .i64 e.n) := by
    intro i e he
    have hlt := (List.getElem?_eq_some_iff.1 he).1
    rcases h.own.2 with ⟨_, h0⟩ | ⟨g, c', cur, e1, _⟩
    · omega
    · rw [hV] at e1
      simp only [Value.slice.injEq] at e1
      have ho := h.own
      rw [hV, e1.1] at ho
      exact ⟨g, e1.1, row_cell ho he, load_n (h.ent i e he)⟩
  have HR := Lib.hid hrow
  have HF := Lib.hid hF
  obtain ⟨len, hlen⟩ : ∃ x, x = es.length := ⟨_, rfl⟩
  rw [hV, ← hlen] at hst
  have HL := Lib.hid hlen
  have hl16 : len ≤ 16 := by omega
  clear h hrow hF hlen hn hV
  go_enter Tryd.func20, Tryd.ntmps20
  go_wp2_with fail
  go_loopg [3, 5, 11] len (fun gg s3 _ s11 wr => ∃ kk : Nat, kk ≤ len ∧ len - kk ≤ gg ∧ s3 = .int .i64 (sumN (es.take kk)) ∧ s11 = .int .i64 (kk : Int) ∧ wr = w)
  case atStart => exact ⟨0, Nat.zero_le _, by omega, rfl, rfl, rfl⟩
  case round =>
    obtain ⟨kk, hkk, hgg, rfl, rfl, rfl⟩ := hrel
    by_cases hlt : kk < len
    · have hk1 : (kk : Int) < (len : Int) := by omega
      obtain ⟨e, he⟩ : ∃ e, es[kk]? = some e := ⟨es[kk]'(by rw [← HL.out]; exact hlt), List.getElem?_eq_getElem _⟩
      obtain ⟨g, rfl, hc1, hc2⟩ := HR.out kk e he
      have hb1 := sumN_tb HF.out kk
      have hb2 := HF.out.2 kk e he
      have hE := Lib.hid (sumN_take es kk e he)
      generalize sumN (es.take kk) = s at *
      generalize e.n = x at *
      clear he
      go_wp2_with fail
      go_roundg (len - (kk + 1))
      case measure => omega
      case rel =>
        refine ⟨kk + 1, by omega, by omega, ?_, by go_num, rfl⟩
        rw [hE.out]
    · have hk1 : ¬ (kk : Int) < (len : Int) := by omega
      obtain rfl : kk = len := by omega
      have ht : es.take kk = es := List.take_of_length_le (by have := HL.out; omega)
      rw [ht]
      go_wp2
      go_ret
      exact ⟨rfl, rfl⟩
theorem add_i (t : TypeId) (x y : Operand) (a b : Int) (h1 : -9223372036854775808 ≤ a + b) (h2 : a + b ≤ 9223372036854775807) (w : World) : (do eqGuard .add t x y (.int .i64 a) (.int .i64 b); binOp .add t (.int .i64 a) (.int .i64 b) : Sem Value).run Tryd.prog w = .ok (.int .i64 (a + b)) w := by
  have hw : IntKind.i64.wrap (a + b) = a + b := IntWalk.i64_in _ (by omega)
  simp [eqGuard, binOp, Op.intArith, hw]
theorem load_i0 {W : World} {S : Nat} {q l : Int} {V : Value} (h : W.heap[S]? = some (.cells (stA q l V) 59 (0, 0))) : (Instr.loadAt 3 (.pointer (some ⟨S, 0, none⟩))).run Tryd.prog W = .ok (.int .i64 q) W := by
  have h1 : W.cell? ⟨S, 0, none⟩ = some (.int .i64 q) := cell_heap h rfl
  have h2 := Tryd.underlying3
  go_simp
theorem load_stV {W : World} {S : Nat} {q l : Int} {V : Value} (h : W.heap[S]? = some (.cells (stA q l V) 59 (0, 0))) : (Instr.loadAt 57 (.pointer (some ⟨S, 2, none⟩))).run Tryd.prog W = .ok V W := by
  have h1 : W.cell? ⟨S, 2, none⟩ = some V := cell_heap h rfl
  have h2 := Tryd.underlying57
  go_simp
theorem exec_boxE {P : Program} {a : Act} {o : Oper} {t : TypeId} {x : Operand} {w w' : World} {vx v : Value} (ho : o.op = .box t x) (hx : a.eval x = vx) (hr : (Instr.box t vx).run P w = .ok v w') : (execOp a.eval o).run P w = .ok (.value v) w' := by
  unfold execOp
  simp [ho, hx, hr, Result.andThen]
theorem heap_grown {W W' : World} {g : Nat} {o : Obj} {row : Option Nat} (h : W.heap[g]? = some o) (hg : W.grownBy W' row) (hn : some g ≠ row) : W'.heap[g]? = some o := (hg.block g (lt_heap h) hn).trans h
theorem own_ne {W : World} {n size g : Nat} {t u : TypeId} {v : Value} {xs : List Value} {cs : Array Value} (h : W.ownsRow 0 t size v n xs) (k : W.heap[g]? = some (.cells cs u (0, 0))) (hne : t ≠ u) : some g ≠ v.ownBlock := fun e => by
  obtain ⟨cur, hc⟩ := own_cells h e.symm
  exact ty_ne hc k hne rfl
/-- what Open's last region wants -/
def OpP (S bx : Nat) (q l : Int) (V : Value) (k : Nat → BitVec 8) (W : World) : Prop := W.heap[S]? = some (.cells (stA q l V) 59 (0, 0)) ∧ W.heap[bx]? = some (.cells (arr8 32 k) 26 (0, 0))
theorem OpP.alc {S bx : Nat} {q l : Int} {V : Value} {k : Nat → BitVec 8} {W : World} (h : OpP S bx q l V k W) (o : Obj) : OpP S bx q l V k (W.alloc o) := ⟨heap_below h.1 (below_alc W o), heap_below h.2 (below_alc W o)⟩
theorem OpP.grown {S bx : Nat} {q l : Int} {V : Value} {k : Nat → BitVec 8} {W W' : World} {row : Option Nat} (h : OpP S bx q l V k W) (hg : W.grownBy W' row) (h1 : some S ≠ row) (h2 : some bx ≠ row) : OpP S bx q l V k W' := ⟨heap_grown h.1 hg h1, heap_grown h.2 hg h2⟩
theorem push_p (ty : TypeId) (W : World) (V : Value) (es : List Be) (x : Be) (hown : W.ownsRow 0 60 1 V es.length (es.map Be.ptr)) (a : Addr) (c : Nat)
    (hnews : ∀ j u, ([x.ptr] : List Value)[j]? = some u → W.cell? (a.add j) = some u) (hn : es.length ≤ 1000) :
    ∃ v' w', (Builtin.append_ #[57, 57] ty #[V, .slice (some a) 1 c]).run Tryd.prog W = .ok v' w' ∧ w'.ownsRow 0 60 1 v' (es ++ [x]).length ((es ++ [x]).map Be.ptr) ∧ W.grownBy w' V.ownBlock ∧ (∀ k, v'.ownBlock = some k → V.ownBlock = some k ∨ W.heap.size ≤ k) := by
  obtain ⟨i, hi, hz⟩ := Option.map_eq_some_iff.1 (show (Tryd.prog.info? 60).map (fun i => (i.size, i.bytes, i.zero)) = some (1, 8, some (.pointer none)) by kernel_rfl)
  simp only [Prod.mk.injEq] at hz
  obtain ⟨v', w', h1, h2, h3, _, h4⟩ := run_append_own2 (P := Tryd.prog) W 0 57 ty 60 i (.pointer none) 1 8 Tryd.underlying57 hi hz.2.2 hz.1 hz.2.1 rfl (by omega) V es.length (es.map Be.ptr) hown a 1 c [x.ptr] rfl hnews (by intro u hu; rw [List.mem_singleton.1 hu]; rfl) (by unfold maxLen; omega) (by omega) (Nat.zero_le _)
  exact ⟨v', w', h1, by rw [List.length_append, List.map_append]; exact h2, h3, h4⟩
/-- an entry of no bytes more -/
theorem StS.push {W W' : World} {S : Nat} {q l : Int} {V V' : Value} {es : List Be} (h : StS W S q l V es) (e : Be) (hst : W'.heap[S]? = some (.cells (stA q l V') 59 (0, 0))) (hown : W'.ownsRow 0 60 1 V' (es ++ [e]).length ((es ++ [e]).map Be.ptr)) (he : e.at W') (hD : e.D = .slice none 0 0) (hbs : e.bs = []) (hge : W.heap.size ≤ e.g)
    (hk : ∀ k, k < W.heap.size → k ≠ S → V.ownBlock ≠ some k → W'.heap[k]? = W.heap[k]?) : StS W' S q l V' (es ++ [e]) := by
  have get : ∀ (j : Nat) (x : Be), (es ++ [e])[j]? = some x → (j = es.length ∧ x = e) ∨ (j < es.length ∧ es[j]? = some x) := by
    intro j x hx
    by_cases hj : j < es.length
    · rw [List.getElem?_append_left hj] at hx
      exact .inr ⟨hj, hx⟩
    · rw [List.getElem?_append_right (by omega)] at hx
      have hlt := (List.getElem?_eq_some_iff.1 hx).1
      simp only [List.length_singleton] at hlt
      have h0 : j - es.length = 0 := by omega
      rw [h0] at hx
      exact .inl ⟨by omega, (Option.some.inj hx).symm⟩
  have hnd : e.D.ownBlock = none := by rw [hD]; rfl
  have old : ∀ (j : Nat) (x : Be), es[j]? = some x → W'.heap[x.g]? = W.heap[x.g]? ∧ ∀ k, x.D.ownBlock = some k → W'.heap[k]? = W.heap[k]? := by
    intro j x hx
    refine ⟨hk _ (lt_heap (h.ent j x hx)) (ty_ne (h.ent j x hx) h.st (by decide)) (fun y => own_ne h.own (h.ent j x hx) (by decide) y.symm), fun k hxk => ?_⟩
    obtain ⟨cur, hc⟩ := own_cells (h.byt j x hx) hxk
    exact hk k (lt_heap hc) (ty_ne hc h.st (by decide)) (fun y => own_ne h.own hc (by decide) y.symm)
  refine ⟨hst, hown, fun j x hx => ?_, fun j x hx => ?_, fun j m x y hjm hx hy => ?_, fun j m x y hjm hx hy k hxk => ?_⟩
  · rcases get j x hx with ⟨_, rfl⟩ | ⟨_, hx2⟩
    · exact he
    · exact (old j x hx2).1.trans (h.ent j x hx2)
  · rcases get j x hx with ⟨_, rfl⟩ | ⟨_, hx2⟩
    · rw [hD, hbs]; exact World.ownsRow_nil _ _ _ _
    · exact own_keep (h.byt j x hx2) (old j x hx2).2
  · rcases get j x hx with ⟨hj, rfl⟩ | ⟨_, hx2⟩ <;> rcases get m y hy with ⟨hm, hy'⟩ | ⟨_, hy2⟩
    · omega
    · have := lt_heap (h.ent m y hy2)
      omega
    · have := lt_heap (h.ent j x hx2)
      rw [hy']
      omega
    · exact h.gne j m x y hjm hx2 hy2
  · rcases get j x hx with ⟨hj, rfl⟩ | ⟨_, hx2⟩ <;> rcases get m y hy with ⟨hm, hy'⟩ | ⟨_, hy2⟩
    · omega
    · rw [hnd] at hxk; cases hxk
    · rw [hy', hnd]; exact fun z => by cases z
    · exact h.dne j m x y hjm hx2 hy2 k hxk
section
variable {w : World} {S : Nat} {q l : Int} {V : Value} {es : List Be}
set_option maxRecDepth 100000 in
set_option maxHeartbeats 800000 in
theorem open_range (E : Nat → Addr) (hE : ErrsAt E w) (k : Nat → BitVec 8) (n : Int) (hn : n < 1 ∨ 30000 < n) : Calls Tryd.prog 12 #[.pointer (some ⟨S, 0, none⟩), .agg (arr8 32 k), .int .i64 n] w fun r w' => r = .returned (errV (E 1)) ∧ Below w.heap.size w w' := by
  have hb0 := below_alc w (.cells (arr8 32 k) 26)
  have he : (w.alloc (.cells (arr8 32 k) 26)).cell? ⟨0, 0, none⟩ = some (errV (E 1)) := (hE.below hb0).c 1 (by decide)
  clear hE
  by_cases h1 : n < 1
  · go_enter Tryd.func12, Tryd.ntmps12
    go_wp2_with fail
    go_ret
    exact ⟨rfl, hb0⟩
  · have h2 : 30000 < n := by omega
    go_enter Tryd.func12, Tryd.ntmps12
    go_wp2_with fail
    go_ret
    exact ⟨rfl, hb0⟩
set_option maxRecDepth 100000 in
set_option maxHeartbeats 800000 in
theorem open_open (E : Nat → Addr) (hE : ErrsAt E w) (h : StS w S q l V es) (hl : es.length ≤ 16) (k : Nat → BitVec 8) (n : Int) (h1 : 1 ≤ n) (h2 : n ≤ 30000) {i : Nat} {e : Be} (hf : es.findIdx? (Be.is k) = some i) (hi : es[i]? = some e) (hgE : Hid (∀ j, j < 19 → gE j ≠ e.g)) :
    Calls Tryd.prog 12 #[.pointer (some ⟨S, 0, none⟩), .agg (arr8 32 k), .int .i64 n] w fun r w' => r = .returned (errV (E 14)) ∧ StS w' S q l V (es.set i e.used) ∧ Turn (· = e.g) w w' := by
  have hb0 := below_alc w (.cells (arr8 32 k) 26)
  have hus := Lib.hid (use_some (h.below hb0) (by omega) k hf hi)
  have hptr : e.ptr = .pointer (some ⟨e.g, 0, none⟩) := rfl
  rw [hptr] at hus
  have he : (w.alloc (.cells (arr8 32 k) 26)).cell? ⟨1, 0, none⟩ = some (errV (E 14)) := (hE.below hb0).c 14 (by decide)
  have heg : 1 ≠ e.g := hgE.out 14 (by decide)
  clear hE h hf hi hptr
  generalize e.g = eg at *
  go_enter Tryd.func12, Tryd.ntmps12
  go_wp2_with (first | (refine wpList_load_row rfl 26 _ rfl w.heap.size rfl _ _ _ _ (heap_alloc_new _ _) Tryd.underlying26 rfl (by rw [arr8_size]; kernel_rfl) ?_) | (go_at_call 28; refine hus.out.mono ?_; rintro r W1 ⟨rfl, hs1, ht1⟩; have HS := Lib.hid (And.intro hs1 ht1); have he2 := (ht1.cell (o := 0) (World.block_lt_of_cell? _ _ he) heg).trans he; clear hs1 ht1 he))
  go_ret
  obtain ⟨s1, t1⟩ := HS.out
  exact ⟨rfl, s1, (Turn.of_below hb0).trans t1 (fun k hk => .inl hk)⟩
set_option maxRecDepth 100000 in
set_option maxHeartbeats 800000 in
theorem open_limit (E : Nat → Addr) (hE : ErrsAt E w) (h : StS w S q l V es) (hl : es.length = 16) (k : Nat → BitVec 8) (n : Int) (h1 : 1 ≤ n) (h2 : n ≤ 30000) (hf : es.findIdx? (Be.is k) = none) :
    Calls Tryd.prog 12 #[.pointer (some ⟨S, 0, none⟩), .agg (arr8 32 k), .int .i64 n] w fun r w' => r = .returned (errV (E 17)) ∧ Below w.heap.size w w' := by
  have hb0 := below_alc w (.cells (arr8 32 k) 26)
  have hus := Lib.hid (use_none (h.below hb0) (by omega) k hf)
  obtain ⟨A, c, hV, _⟩ := own_slice h.own
  rw [hl] at hV
  subst hV
  have HF : Hid (∀ W1, Below (w.alloc (.cells (arr8 32 k) 26)).heap.size (w.alloc (.cells (arr8 32 k) 26)) W1 → W1.cell? ⟨S, 2, none⟩ = some (.slice A 16 c) ∧ W1.cell? ⟨2, 0, none⟩ = some (errV (E 17))) := fun W1 hb => ⟨load_st2 S W1 q l _ ((h.below hb0).below hb).st, ((hE.below hb0).below hb).c 17 (by decide)⟩
  clear hE h hf
  go_enter Tryd.func12, Tryd.ntmps12
  go_wp2_with (first | (refine wpList_load_row rfl 26 _ rfl w.heap.size rfl _ _ _ _ (heap_alloc_new _ _) Tryd.underlying26 rfl (by rw [arr8_size]; kernel_rfl) ?_) | (go_at_call 28; refine hus.out.mono ?_; rintro r W1 ⟨rfl, hb'⟩; obtain ⟨hc1, hc2⟩ := HF.out W1 hb'))
  go_ret
  exact ⟨rfl, hb0.trans (hb'.mono hb0.size)⟩
end
end Go.Proofs.YtegijahkiopncaaDoor
