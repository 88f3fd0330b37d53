import Derived.Test.YtffkjbbhbpaacaaDoorFil
import Derived.Test.YtffkjbbhbpaacaaDoorHx
import Derived.Test.YtffkjbbhbpaacaaDoorCc
import Derived.Stop.BytesEq
import Derived.Laws.AppendOwnNone
import Derived.IntWalk
import Derived.Test.YtffkjbbhbpaacaaDoorCpy
import Derived.Test.YtffkjbbhbpaacaaDoorRsm
/-
  The document's store: an entry, its cells, the state; place, Used, NewStore.
  The document's store: New, Stat, Used, Open.
  The document's store: Put.
  The document's store: Commit.
-/
namespace Go.Proofs.YtffkjbbhbpaacaaDoor
open Go.RowKit

/-- an entry: whose it is, how long, what has come, whether it is whole, since when -/
structure Ds where
  f : Nat → BitVec 8
  n : Int
  D : Value
  bs : List Int
  done : Bool
  age : Int
def edA (f : Nat → BitVec 8) (n : Int) (D : Value) (done : Bool) (age : Int) : List Value := ((List.range 32).map fun i => v8 (f i)) ++ [.int .i64 n, D, .bool done, .int .i64 age]
def Ds.ce (e : Ds) : List Value := edA e.f e.n e.D e.done e.age
theorem Ds.ce_len (e : Ds) : e.ce.length = 36 := by simp [Ds.ce, edA]
def Ds.used (e : Ds) : Ds := ⟨e.f, e.n, e.D, e.bs, e.done, 0⟩
def idk (f : Nat → BitVec 8) : List UInt8 := (List.range 32).map fun i => UInt8.ofBitVec (f i)
def Ds.is (k : Nat → BitVec 8) (e : Ds) : Bool := idk e.f == idk k
instance : Inhabited Ds := ⟨⟨fun _ => 0, 0, .slice none 0 0, [], false, 0⟩⟩
def dcel (es : List Ds) : List Value := es.flatMap Ds.ce
theorem dcel_len (es : List Ds) : (dcel es).length = es.length * 36 := by
  induction es with
  | nil => rfl
  | cons e es ih =>
    simp only [dcel, List.flatMap_cons, List.length_append, List.length_cons] at ih ⊢
    rw [ih, e.ce_len]
    omega
theorem dcel_get : ∀ (es : List Ds) (j : Nat) (e : Ds), es[j]? = some e → ∀ (i : Nat), i < 36 → (dcel es)[36 * j + i]? = (e.ce)[i]?
  | [], j, e, h, _, _ => by simp at h
  | x :: es, 0, e, h, i, hi => by
    obtain rfl : x = e := by simpa using h
    simp only [dcel, List.flatMap_cons, Nat.mul_zero, Nat.zero_add]
    rw [List.getElem?_append_left (by rw [x.ce_len]; exact hi)]
  | x :: es, j + 1, e, h, i, hi => by
    have ih := dcel_get es j e (by simpa using h) i hi
    simp only [dcel, List.flatMap_cons] at ih ⊢
    rw [List.getElem?_append_right (by rw [x.ce_len]; omega), x.ce_len, show 36 * (j + 1) + i - 36 = 36 * j + i by omega, ih]
theorem dcel_app (a b : List Ds) : dcel (a ++ b) = dcel a ++ dcel b := by simp [dcel]
theorem dcel_set : ∀ (es : List Ds) (j : Nat) (e e' : Ds) (i : Nat) (u : Value), es[j]? = some e → i < 36 → e'.ce = e.ce.set i u → (dcel es).set (36 * j + i) u = dcel (es.set j e')
  | [], j, e, _, _, _, h, _, _ => by simp at h
  | x :: es, 0, e, e', i, u, h, hi, hc => by
    obtain rfl : x = e := by simpa using h
    simp only [dcel, List.flatMap_cons, Nat.mul_zero, Nat.zero_add, List.set_cons_zero]
    rw [List.set_append_left _ _ (by rw [x.ce_len]; exact hi), hc]
  | x :: es, j + 1, e, e', i, u, h, hi, hc => by
    have ih := dcel_set es j e e' i u (by simpa using h) hi hc
    simp only [dcel, List.flatMap_cons, List.set_cons_succ] at ih ⊢
    rw [List.set_append_right _ _ (by rw [x.ce_len]; omega), x.ce_len, show 36 * (j + 1) + i - 36 = 36 * j + i by omega, ih]
theorem ce_set33 (e : Ds) (D : Value) (bs : List Int) : (⟨e.f, e.n, D, bs, e.done, e.age⟩ : Ds).ce = e.ce.set 33 D := by simp only [Ds.ce]; exact (show ∀ (f : Nat → BitVec 8) (n : Int) (D0 : Value) (d : Bool) (a : Int), edA f n D d a = (edA f n D0 d a).set 33 D from fun _ _ _ _ _ => by kernel_rfl) _ _ _ _ _
theorem ce_set34 (e : Ds) (d : Bool) : (⟨e.f, e.n, e.D, e.bs, d, e.age⟩ : Ds).ce = e.ce.set 34 (.bool d) := by simp only [Ds.ce]; exact (show ∀ (f : Nat → BitVec 8) (n : Int) (D0 : Value) (d0 : Bool) (a : Int), edA f n D0 d a = (edA f n D0 d0 a).set 34 (.bool d) from fun _ _ _ _ _ => by kernel_rfl) _ _ _ _ _
theorem ce_set35 (e : Ds) (z : Int) : (⟨e.f, e.n, e.D, e.bs, e.done, z⟩ : Ds).ce = e.ce.set 35 (.int .i64 z) := by simp only [Ds.ce]; exact (show ∀ (f : Nat → BitVec 8) (n : Int) (D0 : Value) (d0 : Bool) (a : Int), edA f n D0 d0 z = (edA f n D0 d0 a).set 35 (.int .i64 z) from fun _ _ _ _ _ => by kernel_rfl) _ _ _ _ _
theorem ce_32 (e : Ds) : (e.ce)[32]? = some (.int .i64 e.n) := by simp only [Ds.ce]; exact (show ∀ (f : Nat → BitVec 8) (n : Int) (D : Value) (d : Bool) (a : Int), (edA f n D d a)[32]? = some (.int .i64 n) from fun _ _ _ _ _ => by kernel_rfl) _ _ _ _ _
theorem ce_33 (e : Ds) : (e.ce)[33]? = some e.D := by simp only [Ds.ce]; exact (show ∀ (f : Nat → BitVec 8) (n : Int) (D : Value) (d : Bool) (a : Int), (edA f n D d a)[33]? = some D from fun _ _ _ _ _ => by kernel_rfl) _ _ _ _ _
theorem ce_34 (e : Ds) : (e.ce)[34]? = some (.bool e.done) := by simp only [Ds.ce]; exact (show ∀ (f : Nat → BitVec 8) (n : Int) (D : Value) (d : Bool) (a : Int), (edA f n D d a)[34]? = some (.bool d) from fun _ _ _ _ _ => by kernel_rfl) _ _ _ _ _
theorem ce_35 (e : Ds) : (e.ce)[35]? = some (.int .i64 e.age) := by simp only [Ds.ce]; exact (show ∀ (f : Nat → BitVec 8) (n : Int) (D : Value) (d : Bool) (a : Int), (edA f n D d a)[35]? = some (.int .i64 a) from fun _ _ _ _ _ => by kernel_rfl) _ _ _ _ _
theorem ce_id (e : Ds) (j : Nat) (v : Value) (h : (arr8 32 e.f).toList[j]? = some v) : (e.ce)[j]? = some v := by
  have hj : j < 32 := by have := (List.getElem?_eq_some_iff.1 h).1; simpa using this
  have e1 : v = v8 (e.f j) := by
    have := arr8_get 32 e.f j hj
    rw [← Array.getElem?_toList, h] at this
    exact Option.some.inj this
  rw [e1]
  unfold Ds.ce edA
  rw [List.getElem?_append_left (by simpa using hj)]
  simp [hj]
theorem ce_one (e : Ds) (h : ∃ A l c, e.D = .slice A l c) : e.ce.toArray.all (·.oneCell') = true := by
  obtain ⟨A, l, c, h⟩ := h
  simp only [Ds.ce]
  rw [h]
  exact (show ∀ (f : Nat → BitVec 8) (n : Int) (d : Bool) (a : Int), (edA f n (.slice A l c) d a).toArray.all (·.oneCell') = true from fun _ _ _ _ => by kernel_rfl) _ _ _ _
/-- the store's cells -/
def sdA (q l : Int) (V : Value) : Array Value := #[.int .i64 q, .int .i64 l, V]
/-- the document's store in memory -/
structure DsS (W : World) (S B : Nat) (q l : Int) (V : Value) (es : List Ds) : Prop where
  st : W.heap[S]? = some (.cells (sdA q l V) 90 (0, 0))
  own : W.ownsRow B 92 36 V es.length (dcel es)
  byt : ∀ e, e ∈ es → W.ownsRow B 5 1 e.D e.bs.length (ints .u8 e.bs)
  lo : B ≤ S
/-- what the store lies in -/
def dsF (S : Nat) (V : Value) (es : List Ds) (k : Nat) : Prop := k = S ∨ V.ownBlock = some k ∨ ∃ e, e ∈ es ∧ e.D.ownBlock = some k
/-- what a method turns -/
def dsG (S : Nat) (V : Value) (k : Nat) : Prop := k = S ∨ V.ownBlock = some k
theorem cell_heapD {W : World} {g i : Nat} {cs : Array Value} {t : TypeId} {v : Value} (h : W.heap[g]? = some (.cells cs t (0, 0))) (hv : cs[i]? = some v) : W.cell? ⟨g, i, none⟩ = some v := by
  have := range_new (W := W) (g := g) (cs := cs.toList) (t := t) (fr := (0, 0)) (by simpa using h) i v (by simpa using hv)
  rwa [Nat.zero_add] at this
theorem thaw_heapD {W : World} {g : Nat} {cs : Array Value} {t : TypeId} (h : W.heap[g]? = some (.cells cs t (0, 0))) (k : Nat) : W.frozen? ⟨g, k, none⟩ = false := by simp [World.frozen?, h]
theorem lt_heapD {W : World} {g : Nat} {o : Obj} (h : W.heap[g]? = some o) : g < W.heap.size := (Array.getElem?_eq_some_iff.1 h).1
theorem own_cellsD {w : World} {base n size : Nat} {t : TypeId} {v : Value} {xs : List Value} (h : w.ownsRow base t size v n xs) {k : Nat} (hk : v.ownBlock = some k) : ∃ cur, w.heap[k]? = some (.cells cur t (0, 0)) := by
  rcases h.2 with ⟨rfl, _⟩ | ⟨g, c, cur, rfl, _, hg, _⟩
  · simp [Value.ownBlock] at hk
  · simp only [Value.ownBlock, Option.some.injEq] at hk
    exact ⟨cur, by rw [← hk]; exact hg⟩
theorem own_keepD {w w' : World} {base n size : Nat} {t : TypeId} {v : Value} {xs : List Value} (h : w.ownsRow base t size v n xs) (hk : ∀ k, v.ownBlock = some k → w'.heap[k]? = w.heap[k]?) : w'.ownsRow base t size v n xs := by
  refine ⟨h.1, ?_⟩
  rcases h.2 with h1 | ⟨g, c, cur, rfl, hb, hg, hr⟩
  · exact .inl h1
  · exact .inr ⟨g, c, cur, rfl, hb, (hk g rfl).trans hg, hr⟩
section
variable {W W' : World} {S B : Nat} {q l : Int} {V : Value} {es : List Ds}
theorem DsS.lt (h : DsS W S B q l V es) {k : Nat} (hk : dsF S V es k) : B ≤ k ∧ k < W.heap.size := by
  rcases hk with rfl | hk | ⟨e, he, hk⟩
  · exact ⟨h.lo, lt_heapD h.st⟩
  · exact h.own.lt k hk
  · exact (h.byt e he).lt k hk
theorem DsS.keep (h : DsS W S B q l V es) (hk : ∀ k, dsF S V es k → W'.heap[k]? = W.heap[k]?) : DsS W' S B q l V es :=
  ⟨(hk S (.inl rfl)).trans h.st, own_keepD h.own fun k e => hk k (.inr (.inl e)), fun e he => own_keepD (h.byt e he) fun k y => hk k (.inr (.inr ⟨e, he, y⟩)), h.lo⟩
theorem DsS.below (h : DsS W S B q l V es) (hb : Below W.heap.size W W') : DsS W' S B q l V es := h.keep fun k hk => hb.block k (h.lt hk).2
theorem DsS.turn (h : DsS W S B q l V es) {F : Nat → Prop} (ht : Turn F W W') (hF : ∀ k, dsF S V es k → ¬ F k) : DsS W' S B q l V es := h.keep fun k hk => ht.block k (h.lt hk).2 (hF k hk)
/-- a block of another type is none of it -/
theorem DsS.not (h : DsS W S B q l V es) {g : Nat} {cs : Array Value} {t : TypeId} (hg : W.heap[g]? = some (.cells cs t (0, 0))) (h1 : t ≠ 90) (h2 : t ≠ 92) (h3 : t ≠ 5) : ¬ dsF S V es g := fun hk => by
  rcases hk with rfl | hk | ⟨e, he, hk⟩
  · have := h.st; rw [hg] at this; exact h1 (by injection (Option.some.inj this))
  · obtain ⟨cur, hc⟩ := own_cellsD h.own hk; rw [hg] at hc; exact h2 (by injection (Option.some.inj hc))
  · obtain ⟨cur, hc⟩ := own_cellsD (h.byt e he) hk; rw [hg] at hc; exact h3 (by injection (Option.some.inj hc))
theorem DsS.cell2 (h : DsS W S B q l V es) : W.cell? ⟨S, 2, none⟩ = some V := cell_heapD h.st rfl
theorem DsS.cell0 (h : DsS W S B q l V es) : W.cell? ⟨S, 0, none⟩ = some (.int .i64 q) := cell_heapD h.st rfl
end
theorem drB {w w' : World} (hb : Below w.drew.heap.size w.drew w') : Below w.heap.size w w' := ⟨hb.os, hb.tape, hb.output, hb.size, hb.block⟩
theorem load_dsl (b o : Nat) {v : Value} (w : World) (h : w.cell? ⟨b, o, none⟩ = some v) : (Instr.loadAt 88 (.pointer (some ⟨b, o, none⟩))).run Tryd.prog w = .ok v w := by
  have h2 := Tryd.underlying88
  go_simp
theorem load_idD (g o : Nat) (f : Nat → BitVec 8) (w : World) (h : w.rangeAt g o (arr8 32 f).toList) : (Instr.loadAt 37 (.pointer (some ⟨g, o, none⟩))).run Tryd.prog w = .ok (.agg (arr8 32 f)) w := by
  have := load_row 37 g o (arr8 32 f).toList _ Tryd.underlying37 rfl (by rw [Array.length_toList, arr8_size]; kernel_rfl) w h
  simpa using this
theorem field_D0 (b o : Nat) (w : World) : (Instr.fieldAt 92 (.pointer (some ⟨b, o, none⟩)) 0).run Tryd.prog w = .ok (.pointer (some ⟨b, o, none⟩)) w := by
  go_simp
theorem field_D1 (b o : Nat) (w : World) : (Instr.fieldAt 92 (.pointer (some ⟨b, o, none⟩)) 1).run Tryd.prog w = .ok (.pointer (some ⟨b, o + 32, none⟩)) w := by
  kernel_rfl
theorem field_D2 (b o : Nat) (w : World) : (Instr.fieldAt 92 (.pointer (some ⟨b, o, none⟩)) 2).run Tryd.prog w = .ok (.pointer (some ⟨b, o + 33, none⟩)) w := by
  kernel_rfl
theorem field_D3 (b o : Nat) (w : World) : (Instr.fieldAt 92 (.pointer (some ⟨b, o, none⟩)) 3).run Tryd.prog w = .ok (.pointer (some ⟨b, o + 34, none⟩)) w := by
  kernel_rfl
theorem field_D4 (b o : Nat) (w : World) : (Instr.fieldAt 92 (.pointer (some ⟨b, o, none⟩)) 4).run Tryd.prog w = .ok (.pointer (some ⟨b, o + 35, none⟩)) w := by
  kernel_rfl
theorem size_D (w : World) : (sizeOf 92).run Tryd.prog w = .ok 36 w := by kernel_rfl
theorem idx_D (g n c i : Nat) (hi : i < n) (w : World) : (Instr.indexAt 88 (.slice (some ⟨g, 0, none⟩) n c) (.int .i64 (i : Int))).run Tryd.prog w = .ok (.pointer (some ⟨g, 36 * i, none⟩)) w := by
  have hu := Tryd.underlying88
  have e2 : Tryd.prog.elem 88 = 92 := by simp [Program.elem, hu]
  rw [run_indexAt_slice (h := by rw [e2]; exact hu), if_pos (by omega)]
  simp only [e2, size_D, Result.andThen, Int.toNat_natCast, Addr.add_lit, Nat.mul_comm, Nat.zero_add]
theorem arr8_idk (f : Nat → BitVec 8) : arr8 32 f = ((idk f).map Extern.Stop.cell).toArray := by
  unfold arr8 idk
  rw [List.map_map]
  congr 1
theorem eq_idsD (f k : Nat → BitVec 8) (w : World) : (Op.equalIn 10000 37 (.agg (arr8 32 f)) (.agg (arr8 32 k))).run Tryd.prog w = .ok (idk f == idk k) w := by
  rw [arr8_idk, arr8_idk, run_equalIn_bytes w 9998 37 5 32 Tryd.underlying37 Tryd.underlying5 (fun w => by kernel_rfl) _ _ (by simp [idk]) (by simp [idk])]
theorem store_i64D (g o : Nat) (z : Int) (w : World) {u : Value} (h : w.cell? ⟨g, o, none⟩ = some u) (hf : w.frozen? ⟨g, o, none⟩ = false) : (Instr.storeAt 3 (.pointer (some ⟨g, o, none⟩)) (.int .i64 z)).run Tryd.prog w = .ok () (w.setCell ⟨g, o, none⟩ (.int .i64 z)) := by
  have h2 := Tryd.underlying3
  go_simp
/-- at which place -/
def dix (es : List Ds) (k : Nat → BitVec 8) : Int := match es.findIdx? (Ds.is k) with | some i => i | none => -1
def NoneD (es : List Ds) (k : Nat → BitVec 8) (i : Nat) : Prop := ∀ j e, j < i → es[j]? = some e → e.is k = false
theorem dfind_hit {es : List Ds} {k : Nat → BitVec 8} {i : Nat} {e : Ds} (h : es[i]? = some e) (hp : e.is k = true) (hn : NoneD es k i) : es.findIdx? (Ds.is k) = some i := by
  have hi := (List.getElem?_eq_some_iff.1 h).1
  rw [List.findIdx?_eq_some_iff_getElem]
  refine ⟨hi, ?_, fun j hj => ?_⟩
  · have := (List.getElem?_eq_some_iff.1 h).2
    rw [this]; exact hp
  · have hj' : j < es.length := by omega
    have := hn j es[j] hj (List.getElem?_eq_getElem hj')
    simp [this]
theorem dfind_miss {es : List Ds} {k : Nat → BitVec 8} (hn : NoneD es k es.length) : es.findIdx? (Ds.is k) = none := by
  rw [List.findIdx?_eq_none_iff]
  intro e he
  obtain ⟨j, hj, rfl⟩ := List.getElem_of_mem he
  exact hn j _ hj (List.getElem?_eq_getElem hj)
section
variable {w : World} {S B : Nat} {q l : Int} {V : Value} {es : List Ds}
theorem DsS.form (h : DsS w S B q l V es) (hl : 0 < es.length) : ∃ g c, V = .slice (some ⟨g, 0, none⟩) es.length c := by
  rcases h.own.2 with ⟨_, h0⟩ | ⟨g, c, _, h1, _⟩
  · omega
  · exact ⟨g, c, h1⟩
theorem DsS.row {g c : Nat} (h : DsS w S B q l (.slice (some ⟨g, 0, none⟩) es.length c) es) {i : Nat} {e : Ds} (he : es[i]? = some e) {j : Nat} (hj : j < 36) {v : Value} (hv : e.ce[j]? = some v) : w.cell? ⟨g, 36 * i + j, none⟩ = some v := by
  have hi := (List.getElem?_eq_some_iff.1 he).1
  have := h.own.cellAt (36 * i + j) (by omega)
  rw [this, dcel_get es i e he j hj, hv]
theorem DsS.idr {g c : Nat} (h : DsS w S B q l (.slice (some ⟨g, 0, none⟩) es.length c) es) {i : Nat} {e : Ds} (he : es[i]? = some e) : w.rangeAt g (36 * i) (arr8 32 e.f).toList := fun j v hv =>
  h.row he (by have := (List.getElem?_eq_some_iff.1 hv).1; simp at this; omega) (ce_id e j v hv)
/-- one cell of an entry is written -/
theorem DsS.write {g c : Nat} (h : DsS w S B q l (.slice (some ⟨g, 0, none⟩) es.length c) es) {i : Nat} {e e' : Ds} (he : es[i]? = some e) {j : Nat} {u : Value} (hj : j < 36) (hc : e'.ce = e.ce.set j u)
    (hb : w.ownsRow B 5 1 e'.D e'.bs.length (ints .u8 e'.bs)) : DsS (w.setCell ⟨g, 36 * i + j, none⟩ u) S B q l (.slice (some ⟨g, 0, none⟩) es.length c) (es.set i e') ∧ Turn (· = g) w (w.setCell ⟨g, 36 * i + j, none⟩ u) := by
  obtain ⟨h1, h2⟩ := h.own.stored (36 * i + j) u
  obtain ⟨cur, hcur⟩ := own_cellsD h.own (k := g) rfl
  have hT : Turn (· = g) w (w.setCell ⟨g, 36 * i + j, none⟩ u) := Turn.of_grown h2 (fun _ hk => (Option.some.inj hk).symm)
  have hgS : S ≠ g := fun e1 => by rw [← e1, h.st] at hcur; cases hcur
  have hU : ∀ e1 : Ds, w.ownsRow B 5 1 e1.D e1.bs.length (ints .u8 e1.bs) → (w.setCell ⟨g, 36 * i + j, none⟩ u).ownsRow B 5 1 e1.D e1.bs.length (ints .u8 e1.bs) := fun e1 hx => own_keepD hx fun k hk => hT.block k (hx.lt k hk).2 (fun y => by
    have y : k = g := y
    obtain ⟨c2, hc2⟩ := own_cellsD hx hk
    rw [y, hcur] at hc2
    cases hc2)
  refine ⟨⟨(hT.block S (lt_heapD h.st) hgS).trans h.st, ?_, fun e1 h1 => ?_, h.lo⟩, hT⟩
  · rw [dcel_set es i e e' j u he hj hc] at h1
    rw [List.length_set]
    exact h1
  · rcases List.mem_or_eq_of_mem_set h1 with h3 | rfl
    · exact hU e1 (h.byt e1 h3)
    · exact hU _ hb
/-- what place leaves -/
def usedD (es : List Ds) (k : Nat → BitVec 8) : List Ds := match es.findIdx? (Ds.is k) with | some i => es.set i (es[i]?.getD default).used | none => es
theorem used_hit {i : Nat} {e : Ds} {k : Nat → BitVec 8} (h : es.findIdx? (Ds.is k) = some i) (he : es[i]? = some e) : usedD es k = es.set i e.used := by
  unfold usedD
  rw [h]
  show es.set i (es[i]?.getD default).used = _
  rw [he]
  rfl
set_option maxRecDepth 100000 in
set_option maxHeartbeats 1600000 in
theorem dplace (h : DsS w S B q l V es) (hn : es.length ≤ 1000) (k : Nat → BitVec 8) :
    Calls Tryd.prog 41 #[.pointer (some ⟨S, 0, none⟩), .agg (arr8 32 k)] w fun r w' => r = .returned (.int .i64 (dix es k)) ∧ DsS w' S B q l V (usedD es k) ∧ Turn (fun x => V.ownBlock = some x) w w' := by
  have hB0 := below_alc w (.cells (arr8 32 k) 37)
  obtain ⟨bx, hbx⟩ : ∃ x, x = w.heap.size := ⟨_, rfl⟩
  have hrx : (w.alloc (.cells (arr8 32 k) 37)).rangeAt bx 0 (arr8 32 k).toList := by rw [hbx]; exact range_new (by simpa using heap1_0 _ _)
  have hlx : bx < (w.alloc (.cells (arr8 32 k) 37)).heap.size := by rw [hbx]; simp
  have h0 := h.below hB0
  go_enter Tryd.func41, Tryd.ntmps41
  go_upto_region 1 with (fail)
  refine wp_world (fun W => W.rangeAt bx 0 (arr8 32 k).toList ∧ DsS W S B q l V es ∧ bx < W.heap.size ∧ Below w.heap.size w W) ⟨hrx, h0, hlx, hB0⟩ ?_
  rw [← hbx]
  clear hrx h0 hB0 hlx
  rintro W1 ⟨hrx, h1, hlx, hB1⟩
  have HB1 : Hid (Below w.heap.size w W1) := Lib.hid (by rw [← hbx]; exact hB1)
  clear hB1 h hbx
  go_wp2_with fail
  go_loopw [5] (fun x wr => ∃ i : Nat, x = .int .i64 (i : Int) ∧ i ≤ es.length ∧ Below W1.heap.size W1 wr ∧ NoneD es k i) (fun x _ => es.length - (intOf x).toNat)
  case atStart => exact ⟨0, rfl, by omega, Below.refl _ _, fun j _ hj => absurd hj (Nat.not_lt_zero _)⟩
  case round =>
    obtain ⟨i, rfl, hi, hbw, hno⟩ := hrel
    by_cases hlt : i < es.length
    · obtain ⟨e, he⟩ : ∃ e, es[i]? = some e := ⟨es[i], List.getElem?_eq_getElem hlt⟩
      obtain ⟨g, c, rfl⟩ := h1.form (by omega)
      have hcell := (h1.below hbw).cell2
      have hlt' : (i : Int) < (es.length : Int) := Int.ofNat_lt.2 hlt
      have HC : ∀ V, Below wr.heap.size wr V → V.cell? ⟨S, 2, none⟩ = some (.slice (some ⟨g, 0, none⟩) es.length c) := fun V hV => (h1.below (hbw.trans (hV.mono hbw.size))).cell2
      have HD : ∀ V, Below wr.heap.size wr V → V.rangeAt g (36 * i) (arr8 32 e.f).toList := fun V hV => (h1.below (hbw.trans (hV.mono hbw.size))).idr he
      have HX : ∀ V, Below wr.heap.size wr V → V.rangeAt bx 0 (arr8 32 k).toList := fun V hV => rangeAt_below hrx (hbw.trans (hV.mono hbw.size)) hlx
      have HE := Lib.hid he
      clear he
      go_upto_region 4 with (fail)
      cases his : (idk e.f == idk k) with
      | true =>
        refine wp_region_noPanic ?_
        refine wp_region_held_drew (S := fun V => Below wr.drew.heap.size wr.drew V) (by kernel_rfl) (Below.refl _ _) (fun hHeld => ?_)
        refine held_move 0 (Go.Operand.tmp 0) (some 15) (.pointer (some ⟨S, 0, none⟩)) (by kernel_rfl) (by kernel_rfl) (by kernel_rfl) (by kernel_rfl) (by kernel_rfl) (fun _ _ _ _ _ h => h) hHeld ?_
        refine held_nil 1 (Go.Operand.tmp 15) (some 16) ⟨S, 0, none⟩ (by kernel_rfl) (by kernel_rfl) (by kernel_rfl) (by kernel_rfl) (by kernel_rfl) (fun _ _ _ _ _ h => h) hHeld ?_
        refine held_field 2 90 (Go.Operand.tmp 16) 2 (some 17) (.pointer (some ⟨S, 0, none⟩)) (.pointer (some ⟨S, 2, none⟩)) (by kernel_rfl) (by kernel_rfl) (fun w => by kernel_rfl) (by kernel_rfl) (by kernel_rfl) (by kernel_rfl) (fun _ _ _ _ _ h => h) hHeld ?_
        refine held_cell 3 88 (Go.Operand.tmp 17) (some 18) (.pointer (some ⟨S, 2, none⟩)) (.slice (some ⟨g, 0, none⟩) es.length c) (by kernel_rfl) (by kernel_rfl) (fun V hV => load_dsl _ _ V (HC V (drB hV))) (by kernel_rfl) (by kernel_rfl) (by kernel_rfl) (fun _ _ _ _ _ h => h) hHeld ?_
        refine held_move 4 (Go.Operand.tmp 5) (some 19) (.int .i64 (i : Int)) (by kernel_rfl) (by kernel_rfl) (by kernel_rfl) (by kernel_rfl) (by kernel_rfl) (fun _ _ _ _ _ h => h) hHeld ?_
        refine held_index 5 88 (Go.Operand.tmp 18) (Go.Operand.tmp 19) (some 20) (.slice (some ⟨g, 0, none⟩) es.length c) (.int .i64 (i : Int)) (.pointer (some ⟨g, 36 * i, none⟩)) (by kernel_rfl) (by kernel_rfl) (idx_D g es.length c i hlt) (by kernel_rfl) (by kernel_rfl) (by kernel_rfl) (fun _ _ _ _ _ h => h) hHeld ?_
        refine held_field 6 92 (Go.Operand.tmp 20) 0 (some 21) (.pointer (some ⟨g, 36 * i, none⟩)) (.pointer (some ⟨g, 36 * i, none⟩)) (by kernel_rfl) (by kernel_rfl) (field_D0 g _) (by kernel_rfl) (by kernel_rfl) (by kernel_rfl) (fun _ _ _ _ _ h => h) hHeld ?_
        refine held_cell 7 37 (Go.Operand.tmp 21) (some 22) (.pointer (some ⟨g, 36 * i, none⟩)) (.agg (arr8 32 e.f)) (by kernel_rfl) (by kernel_rfl) (fun V hV => load_idD _ _ _ V (HD V (drB hV))) (by kernel_rfl) (by kernel_rfl) (by kernel_rfl) (fun _ _ _ _ _ h => h) hHeld ?_
        refine held_cell 8 37 (Go.Operand.tmp 3) (some 23) (.pointer (some ⟨bx, 0, none⟩)) (.agg (arr8 32 k)) (by kernel_rfl) (by kernel_rfl) (fun V hV => load_idD _ _ _ V (HX V (drB hV))) (by kernel_rfl) (by kernel_rfl) (by kernel_rfl) (fun _ _ _ _ _ h => h) hHeld ?_
        refine held_any 9 (Go.Op.binOp Go.BinOp.eql 37 (Go.Operand.tmp 22) (Go.Operand.tmp 23) 37) (some 24) (.bool true) (by kernel_rfl) (by kernel_rfl) (by kernel_rfl) (by kernel_rfl) (fun _ _ _ _ _ h => h) hHeld (fun o ho w hw => exec_eqrow (k := .eql) (cx := arr8 32 e.f) (cy := arr8 32 k) (b := true) (.inl rfl) ho (by kernel_rfl) (by kernel_rfl) (by rw [← his]; exact eq_idsD e.f k w)) ?_
        refine wpAnyH_done (by kernel_rfl) ?_ _
        refine NoPanic.normal ?_
        try simp only [Act.put, List.setIfInBounds_toArray, List.set_cons_zero, List.set_cons_succ]
        obtain ⟨W3, hW3⟩ : ∃ W3, W3 = wr.drew := ⟨_, rfl⟩
        have hb3 : Below wr.heap.size wr W3 := by rw [hW3]; exact drB (Below.refl _ _)
        rw [← hW3]
        have h3 := h1.below (hbw.trans (hb3.mono hbw.size))
        have hc35 : W3.cell? ⟨g, 36 * i + 35, none⟩ = some (.int .i64 e.age) := h3.row HE.out (by decide) (ce_35 e)
        have hf35 : W3.frozen? ⟨g, 36 * i + 35, none⟩ = false := h3.own.frozenAt _
        have hff := dfind_hit HE.out his hno
        obtain ⟨hs, ht⟩ := h3.write (e' := e.used) (u := .int .i64 0) HE.out (j := 35) (by decide) (ce_set35 e 0) (h3.byt e (List.mem_of_getElem? HE.out))
        have hT0 : Turn (fun x => (Value.slice (some ⟨g, 0, none⟩) es.length c).ownBlock = some x) w W3 := Turn.of_below (HB1.out.trans ((hbw.trans (hb3.mono hbw.size)).mono HB1.out.size))
        have HZ := Lib.hid (And.intro hs (And.intro (hT0.trans ht (fun q hq => .inl (by rw [show q = g from hq]; rfl))) hff))
        clear hs ht hT0 hff hHeld hW3 h3 hno HD HX
        go_upto_region 5 with (fail)
        refine wp_region_lit ?_
        try simp only [put_list, List.set_cons_zero, List.set_cons_succ]
        refine wpList_run (by kernel_rfl) (.pointer (some ⟨S, 0, none⟩)) (W3) (exec_move rfl (by kernel_rfl)) ?_
        try simp only [put_list, List.set_cons_zero, List.set_cons_succ]
        refine wpList_run (by kernel_rfl) (.pointer (some ⟨S, 0, none⟩)) (W3) (exec_nil rfl (by kernel_rfl)) ?_
        try simp only [put_list, List.set_cons_zero, List.set_cons_succ]
        refine wpList_run (by kernel_rfl) (.pointer (some ⟨S, 2, none⟩)) (W3) (exec_field (vx := .pointer (some ⟨S, 0, none⟩)) rfl (by kernel_rfl) (by kernel_rfl)) ?_
        try simp only [put_list, List.set_cons_zero, List.set_cons_succ]
        refine wpList_run (by kernel_rfl) (.slice (some ⟨g, 0, none⟩) es.length c) (W3) (exec_load (vx := .pointer (some ⟨S, 2, none⟩)) rfl (by kernel_rfl) (load_dsl _ _ W3 (HC W3 hb3))) ?_
        try simp only [put_list, List.set_cons_zero, List.set_cons_succ]
        refine wpList_run (by kernel_rfl) (.int .i64 (i : Int)) (W3) (exec_move rfl (by kernel_rfl)) ?_
        try simp only [put_list, List.set_cons_zero, List.set_cons_succ]
        refine wpList_run (by kernel_rfl) (.pointer (some ⟨g, 36 * i, none⟩)) (W3) (exec_index (vx := .slice (some ⟨g, 0, none⟩) es.length c) (vy := .int .i64 (i : Int)) rfl (by kernel_rfl) (idx_D g es.length c i hlt W3)) ?_
        try simp only [put_list, List.set_cons_zero, List.set_cons_succ]
        refine wpList_run (by kernel_rfl) (.pointer (some ⟨g, 36 * i + 35, none⟩)) (W3) (exec_field (vx := .pointer (some ⟨g, 36 * i, none⟩)) rfl (by kernel_rfl) (field_D4 g _ W3)) ?_
        refine wpList_skip rfl ((W3.setCell ⟨g, 36 * i + 35, none⟩ (.int .i64 0))) (exec_store (vx := .pointer (some ⟨g, 36 * i + 35, none⟩)) (vy := Go.Value.int Go.IntKind.i64 0) rfl (by kernel_rfl) (store_i64D _ _ _ W3 hc35 hf35)) ?_
        refine wpList_nil ?_
        try simp only [put_list, put_none, List.set_cons_zero, List.set_cons_succ]
        go_wp2_with fail
        go_ret
        exact ⟨by unfold dix; rw [HZ.out.2.2]; rfl, by rw [used_hit HZ.out.2.2 HE.out]; exact HZ.out.1, HZ.out.2.1⟩
      | false =>
        refine wp_region_noPanic ?_
        refine wp_region_held_drew (S := fun V => Below wr.drew.heap.size wr.drew V) (by kernel_rfl) (Below.refl _ _) (fun hHeld => ?_)
        refine held_move 0 (Go.Operand.tmp 0) (some 15) (.pointer (some ⟨S, 0, none⟩)) (by kernel_rfl) (by kernel_rfl) (by kernel_rfl) (by kernel_rfl) (by kernel_rfl) (fun _ _ _ _ _ h => h) hHeld ?_
        refine held_nil 1 (Go.Operand.tmp 15) (some 16) ⟨S, 0, none⟩ (by kernel_rfl) (by kernel_rfl) (by kernel_rfl) (by kernel_rfl) (by kernel_rfl) (fun _ _ _ _ _ h => h) hHeld ?_
        refine held_field 2 90 (Go.Operand.tmp 16) 2 (some 17) (.pointer (some ⟨S, 0, none⟩)) (.pointer (some ⟨S, 2, none⟩)) (by kernel_rfl) (by kernel_rfl) (fun w => by kernel_rfl) (by kernel_rfl) (by kernel_rfl) (by kernel_rfl) (fun _ _ _ _ _ h => h) hHeld ?_
        refine held_cell 3 88 (Go.Operand.tmp 17) (some 18) (.pointer (some ⟨S, 2, none⟩)) (.slice (some ⟨g, 0, none⟩) es.length c) (by kernel_rfl) (by kernel_rfl) (fun V hV => load_dsl _ _ V (HC V (drB hV))) (by kernel_rfl) (by kernel_rfl) (by kernel_rfl) (fun _ _ _ _ _ h => h) hHeld ?_
        refine held_move 4 (Go.Operand.tmp 5) (some 19) (.int .i64 (i : Int)) (by kernel_rfl) (by kernel_rfl) (by kernel_rfl) (by kernel_rfl) (by kernel_rfl) (fun _ _ _ _ _ h => h) hHeld ?_
        refine held_index 5 88 (Go.Operand.tmp 18) (Go.Operand.tmp 19) (some 20) (.slice (some ⟨g, 0, none⟩) es.length c) (.int .i64 (i : Int)) (.pointer (some ⟨g, 36 * i, none⟩)) (by kernel_rfl) (by kernel_rfl) (idx_D g es.length c i hlt) (by kernel_rfl) (by kernel_rfl) (by kernel_rfl) (fun _ _ _ _ _ h => h) hHeld ?_
        refine held_field 6 92 (Go.Operand.tmp 20) 0 (some 21) (.pointer (some ⟨g, 36 * i, none⟩)) (.pointer (some ⟨g, 36 * i, none⟩)) (by kernel_rfl) (by kernel_rfl) (field_D0 g _) (by kernel_rfl) (by kernel_rfl) (by kernel_rfl) (fun _ _ _ _ _ h => h) hHeld ?_
        refine held_cell 7 37 (Go.Operand.tmp 21) (some 22) (.pointer (some ⟨g, 36 * i, none⟩)) (.agg (arr8 32 e.f)) (by kernel_rfl) (by kernel_rfl) (fun V hV => load_idD _ _ _ V (HD V (drB hV))) (by kernel_rfl) (by kernel_rfl) (by kernel_rfl) (fun _ _ _ _ _ h => h) hHeld ?_
        refine held_cell 8 37 (Go.Operand.tmp 3) (some 23) (.pointer (some ⟨bx, 0, none⟩)) (.agg (arr8 32 k)) (by kernel_rfl) (by kernel_rfl) (fun V hV => load_idD _ _ _ V (HX V (drB hV))) (by kernel_rfl) (by kernel_rfl) (by kernel_rfl) (fun _ _ _ _ _ h => h) hHeld ?_
        refine held_any 9 (Go.Op.binOp Go.BinOp.eql 37 (Go.Operand.tmp 22) (Go.Operand.tmp 23) 37) (some 24) (.bool false) (by kernel_rfl) (by kernel_rfl) (by kernel_rfl) (by kernel_rfl) (fun _ _ _ _ _ h => h) hHeld (fun o ho w hw => exec_eqrow (k := .eql) (cx := arr8 32 e.f) (cy := arr8 32 k) (b := false) (.inl rfl) ho (by kernel_rfl) (by kernel_rfl) (by rw [← his]; exact eq_idsD e.f k w)) ?_
        refine wpAnyH_done (by kernel_rfl) ?_ _
        refine NoPanic.normal ?_
        try simp only [Act.put, List.setIfInBounds_toArray, List.set_cons_zero, List.set_cons_succ]
        have hb3 : Below wr.heap.size wr wr.drew := drB (Below.refl _ _)
        have hno2 : NoneD es k (i + 1) := fun j e1 hj h1 => by
          rcases Nat.lt_or_ge j i with h2 | h2
          · exact hno j e1 h2 h1
          · obtain rfl : j = i := by omega
            rw [HE.out] at h1
            obtain rfl := Option.some.inj h1
            exact his
        clear HC HD HX hHeld
        go_wp2_with fail
        go_roundw
        case rel => exact ⟨i + 1, by go_num, by omega, hbw.trans (hb3.mono hbw.size), hno2⟩
        case measure => simp [intOf]; omega
    · obtain rfl : i = es.length := by omega
      have hff := Lib.hid (dfind_miss hno)
      have hcell := (h1.below hbw).cell2
      have hlt' : ¬ (es.length : Int) < (es.length : Int) := by omega
      obtain ⟨A, c, rfl, _⟩ := own_slice h1.own
      clear hno
      go_wp2_with fail
      go_ret
      exact ⟨by unfold dix; rw [hff.out]; rfl, by unfold usedD; rw [hff.out]; exact h1.below hbw, Turn.of_below (HB1.out.trans (hbw.mono HB1.out.size))⟩
end
theorem exec_lenD {P : Program} {a : Act} {w : World} {o : Oper} {x : Operand} {t : TypeId} {vx v : Value} (ho : o.op = .call { callee := .builtin .len, args := #[x], argTypes := #[t] }) (hx : a.eval x = vx)
    (he : ∀ ty, (Builtin.len_ #[t] ty #[vx]).run P w = .ok v w) : (execOp a.eval o).run P w = .ok (.value v) w := exec_len ho rfl hx (he _)
theorem sd_build (q l : Int) (w : World) : (Instr.build 90 #[(0, .int .i64 q), (1, .int .i64 l)]).run Tryd.prog w = .ok (.agg (sdA q l (.slice none 0 0))) w := by kernel_rfl
theorem ed_build (f : Nat → BitVec 8) (n : Int) (w : World) : (Instr.build 92 #[(0, .agg (arr8 32 f)), (1, .int .i64 n)]).run Tryd.prog w = .ok (.agg (edA f n (.slice none 0 0) false 0).toArray) w := by kernel_rfl
theorem ed_bsl (f : Nat → BitVec 8) (n : Int) (w : World) : (Instr.buildSlice 88 1 #[(0, .agg (edA f n (.slice none 0 0) false 0).toArray)]).run Tryd.prog w = .ok (.slice (some ⟨w.heap.size, 0, none⟩) 1 1) (w.alloc (.cells (edA f n (.slice none 0 0) false 0).toArray 92)) := by kernel_rfl
theorem ed_one (k : Nat → BitVec 8) (n : Int) (w : World) : SlRead (w.alloc (.cells (edA k n (.slice none 0 0) false 0).toArray 92)) (some ⟨w.heap.size, 0, none⟩) (dcel [⟨k, n, .slice none 0 0, [], false, 0⟩]) := fun _ =>
  ⟨w.heap.size, 0, rfl, by simp, fun j u hu => by
    rw [Nat.zero_add]
    exact (by simpa using range_new (cs := edA k n (.slice none 0 0) false 0) (heap1_0 w (.cells (edA k n (.slice none 0 0) false 0).toArray 92)) j u (by simpa [dcel, Ds.ce] using hu))⟩
def zeroD : List Value := edA (fun _ => 0) 0 (.slice none 0 0) false 0
theorem zero_D (i : TypeInfo) (h : Tryd.prog.info? 92 = some i) : i.zero = some (.agg zeroD.toArray) := by
  have : (Tryd.prog.info? 92).bind (·.zero) = some (.agg zeroD.toArray) := by kernel_rfl
  rw [h] at this
  exact this
theorem offs_D : (Tryd.prog.info? 92).map (fun i => (i.size, i.bytes)) = some (36, 80) := by kernel_rfl
theorem dcel_one (es : List Ds) (h : ∀ e, e ∈ es → ∃ A l c, e.D = .slice A l c) : ∀ u, u ∈ dcel es → u.oneCell' = true := by
  intro u hu
  obtain ⟨e, he, h1⟩ := List.mem_flatMap.1 hu
  have := ce_one e (h e he)
  rw [Array.all_eq_true'] at this
  exact this u (by simpa using h1)
theorem app_D (ty : TypeId) (W : World) (B : Nat) (v : Value) (es fs : List Ds) (hown : W.ownsRow B 92 36 v es.length (dcel es)) (A : Option Addr) (c : Nat)
    (hA : SlRead W A (dcel fs)) (hfs : es.length + fs.length ≤ 2000) (hbase : B ≤ W.heap.size) (hne : A = none → c = 0) (hD : ∀ e, e ∈ fs → ∃ A l c, e.D = .slice A l c := by intro e he; simp at he; subst he; exact ⟨_, _, _, rfl⟩) :
    ∃ v' w', (Builtin.append_ #[88, 88] ty #[v, .slice A fs.length c]).run Tryd.prog W = .ok v' w' ∧ w'.ownsRow B 92 36 v' (es ++ fs).length (dcel (es ++ fs)) ∧ W.grownBy w' v.ownBlock := by
  obtain ⟨i, hi, hz⟩ := Option.map_eq_some_iff.1 offs_D
  simp only [Prod.mk.injEq] at hz
  rcases A with _ | a
  · have hf : fs = [] := by
      rcases fs with _ | ⟨f, fs⟩
      · rfl
      · obtain ⟨b, o, h, _⟩ := hA (by rw [dcel_len]; simp)
        cases h
    subst hf
    obtain rfl := hne rfl
    refine ⟨v, W, run_append_owned_none (P := Tryd.prog) W B 88 ty 92 i 36 Tryd.underlying88 hi v es.length (dcel es) hown, by rw [List.append_nil]; exact hown, ⟨rfl, rfl, rfl, Nat.le_refl _, fun _ _ _ => rfl⟩⟩
  · obtain ⟨v', w', h1, h2, h3, _⟩ := run_append_own (P := Tryd.prog) W B 88 ty 92 i (.agg zeroD.toArray) 36 80 Tryd.underlying88 hi (zero_D i hi) hz.1 hz.2 (by kernel_rfl) (by omega) v es.length (dcel es) hown a fs.length c (dcel fs) (dcel_len fs) (by
      intro j u hu
      obtain ⟨b, o, h, _, hc⟩ := hA (by have := (List.getElem?_eq_some_iff.1 hu).1; omega)
      obtain rfl := Option.some.inj h
      rw [Addr.add_lit]
      exact hc j u hu) (dcel_one fs hD) (by unfold maxLen; omega) (by omega) hbase
    exact ⟨v', w', h1, by rw [dcel_app, List.length_append]; exact h2, h3⟩
theorem ownD_ne {W : World} {B n size g : Nat} {t u : TypeId} {v : Value} {xs : List Value} {cs : Array Value} (h : W.ownsRow B t size v n xs) (k : W.heap[g]? = some (.cells cs u (0, 0))) (hne : t ≠ u) : some g ≠ v.ownBlock := fun e => by
  obtain ⟨cur, hc⟩ := own_cellsD h e.symm
  rw [k] at hc
  exact hne (by injection (Option.some.inj hc) with _ h2; exact h2.symm)
theorem sub_D (t : TypeId) (x y : Operand) (a b : Int) (h1 : -9223372036854775808 ≤ a - b) (h2 : a - b ≤ 9223372036854775807) (w : World) : (do eqGuard .sub t x y (.int .i64 a) (.int .i64 b); binOp .sub t (.int .i64 a) (.int .i64 b) : Sem Value).run Tryd.prog w = .ok (.int .i64 (a - b)) w := by
  have hw : IntKind.i64.wrap (a - b) = a - b := IntWalk.i64_in _ (by omega)
  simp [eqGuard, binOp, Op.intArith, hw]
def OpD (S bx : Nat) (q l : Int) (V : Value) (k : Nat → BitVec 8) (W : World) : Prop := W.heap[S]? = some (.cells (sdA q l V) 90 (0, 0)) ∧ W.heap[bx]? = some (.cells (arr8 32 k) 37 (0, 0))
theorem OpD.alc {S bx : Nat} {q l : Int} {V : Value} {k : Nat → BitVec 8} {W : World} (h : OpD S bx q l V k W) (o : Obj) : OpD S bx q l V k (W.alloc o) := ⟨((below_alc W o).block S (lt_heapD h.1)).trans h.1, ((below_alc W o).block bx (lt_heapD h.2)).trans h.2⟩
theorem OpD.grown {S bx : Nat} {q l : Int} {V : Value} {k : Nat → BitVec 8} {W W' : World} {row : Option Nat} (h : OpD S bx q l V k W) (hg : W.grownBy W' row) (h1 : some S ≠ row) (h2 : some bx ≠ row) : OpD S bx q l V k W' := ⟨(hg.block S (lt_heapD h.1) h1).trans h.1, (hg.block bx (lt_heapD h.2) h2).trans h.2⟩
def sumD (es : List Ds) : Int := (es.map Ds.n).sum
theorem dnew (q l : Int) (h1 : 1 ≤ l) (w : World) : Calls Tryd.prog 18 #[.int .i64 q, .int .i64 l] w fun e w' => e = .returned (.pointer (some ⟨w.heap.size, 0, none⟩)) ∧ DsS w' w.heap.size w.heap.size q l (.slice none 0 0) [] ∧ Below w.heap.size w w' := by
  have hm : ∀ w, (Builtin.max_ #[3, 3] 3 #[.int .i64 l, .int .i64 1]).run Tryd.prog w = .ok (.int .i64 l) w := fun w => by
    rw [run_max_int2]
    congr 2
    split
    · omega
    · rfl
  go_enter Tryd.func18, Tryd.ntmps18
  go_wp2_with (first | (refine wpList_build rfl 90 _ rfl #[(0, .int .i64 q), (1, .int .i64 l)] (by kernel_rfl) (.agg (sdA q l (.slice none 0 0))) (fun w => sd_build q l w) ?_))
  go_ret
  exact ⟨rfl, ⟨heap1_0 w _, World.ownsRow_nil _ _ _ _, fun _ h => (List.not_mem_nil h).elim, Nat.le_refl _⟩, below_alc w _⟩
section
variable {w : World} {S B : Nat} {q l : Int} {V : Value} {es : List Ds}
theorem dplace_none (h : DsS w S B q l V es) (hn : es.length ≤ 1000) (k : Nat → BitVec 8) (hf : es.findIdx? (Ds.is k) = none) :
    Calls Tryd.prog 41 #[.pointer (some ⟨S, 0, none⟩), .agg (arr8 32 k)] w fun r w' => r = .returned (.int .i64 (-1)) ∧ DsS w' S B q l V es ∧ Turn (fun x => V.ownBlock = some x) w w' := by
  have := dplace h hn k
  rwa [show dix es k = -1 by unfold dix; rw [hf], show usedD es k = es by unfold usedD; rw [hf]] at this
theorem dplace_some (h : DsS w S B q l V es) (hn : es.length ≤ 1000) (k : Nat → BitVec 8) {i : Nat} {e : Ds} (hf : es.findIdx? (Ds.is k) = some i) (he : es[i]? = some e) :
    Calls Tryd.prog 41 #[.pointer (some ⟨S, 0, none⟩), .agg (arr8 32 k)] w fun r w' => r = .returned (.int .i64 (i : Int)) ∧ DsS w' S B q l V (es.set i e.used) ∧ Turn (fun x => V.ownBlock = some x) w w' := by
  have := dplace h hn k
  rwa [show dix es k = (i : Int) by unfold dix; rw [hf], used_hit hf he] at this
/-- a box for the id, then place's turn -/
theorem turn_box {w1 : World} {k : Nat → BitVec 8} (ht : Turn (fun x => V.ownBlock = some x) (w.alloc (.cells (arr8 32 k) 37)) w1) : Turn (dsG S V) w w1 := (Turn.of_below (below_alc w _)).trans ht (fun _ hq => .inl (.inr hq))
set_option maxRecDepth 100000 in
set_option maxHeartbeats 1600000 in
theorem dstat_none (h : DsS w S B q l V es) (hn : es.length ≤ 1000) (k : Nat → BitVec 8) (hf : es.findIdx? (Ds.is k) = none) :
    Calls Tryd.prog 24 #[.pointer (some ⟨S, 0, none⟩), .agg (arr8 32 k)] w fun r w' => r = .returned (.tuple #[.int .i64 0, .bool false, .int .i64 114]) ∧ DsS w' S B q l V es ∧ Turn (dsG S V) w w' := by
  have HP := Lib.hid (dplace_none (h.below (below_alc w (.cells (arr8 32 k) 37))) hn k hf)
  clear h hf
  go_enter Tryd.func24, Tryd.ntmps24
  go_wp2_with (first | (refine wpList_load_row rfl 37 _ rfl w.heap.size rfl _ _ _ _ (heap_alloc_new _ _) Tryd.underlying37 rfl (by rw [arr8_size]; kernel_rfl) ?_) | (go_at_call 41; refine HP.out.mono ?_; rintro r w1 ⟨rfl, hs1, ht1⟩; have HS := Lib.hid (And.intro hs1 ht1); clear hs1 ht1))
  go_ret3
  exact ⟨rfl, HS.out.1, turn_box HS.out.2⟩
set_option maxRecDepth 100000 in
set_option maxHeartbeats 1600000 in
theorem dstat_some (h : DsS w S B q l V es) (hn : es.length ≤ 1000) (k : Nat → BitVec 8) {i : Nat} {e : Ds} (hf : es.findIdx? (Ds.is k) = some i) (he : es[i]? = some e) :
    Calls Tryd.prog 24 #[.pointer (some ⟨S, 0, none⟩), .agg (arr8 32 k)] w fun r w' => r = .returned (.tuple #[.int .i64 (e.bs.length : Int), .bool e.done, .int .i64 0]) ∧ DsS w' S B q l V (es.set i e.used) ∧ Turn (dsG S V) w w' := by
  have hb0 := below_alc w (.cells (arr8 32 k) 37)
  have HP := Lib.hid (dplace_some (h.below hb0) hn k hf he)
  have hlt : i < es.length := (List.getElem?_eq_some_iff.1 he).1
  obtain ⟨g, c, rfl⟩ := h.form (by omega)
  obtain ⟨A, cA, hD, _⟩ := own_slice (h.byt e (List.mem_of_getElem? he))
  have he2 : (es.set i e.used)[i]? = some e.used := by rw [List.getElem?_set_self hlt]
  have HF : Hid (∀ W, DsS W S B q l (.slice (some ⟨g, 0, none⟩) es.length c) (es.set i e.used) → W.cell? ⟨S, 2, none⟩ = some (.slice (some ⟨g, 0, none⟩) es.length c) ∧ W.cell? ⟨g, 36 * i + 33, none⟩ = some (.slice A e.bs.length cA) ∧ W.cell? ⟨g, 36 * i + 34, none⟩ = some (.bool e.done)) := Lib.hid fun W hW => by
    refine ⟨hW.cell2, ?_, ?_⟩
    · have := hW
      rw [show es.length = (es.set i e.used).length by simp] at this
      rw [← hD]
      exact this.row he2 (by decide) (ce_33 e.used)
    · have := hW
      rw [show es.length = (es.set i e.used).length by simp] at this
      exact this.row he2 (by decide) (ce_34 e.used)
  obtain ⟨len, hlen⟩ : ∃ x, x = es.length := ⟨_, rfl⟩
  obtain ⟨L, hL⟩ : ∃ x, x = e.bs.length := ⟨_, rfl⟩
  obtain ⟨dn, hdn⟩ : ∃ x, x = e.done := ⟨_, rfl⟩
  rw [← hlen] at hlt
  rw [← hlen, ← hL, ← hdn] at HF
  rw [← hlen] at HP
  rw [← hlen, ← hL, ← hdn]
  have hneg : ¬ (i : Int) < 0 := by omega
  clear h hf he he2 hD hlen hL hdn hb0
  go_enter Tryd.func24, Tryd.ntmps24
  go_upto_region 4 with (first | (refine wpList_load_row rfl 37 _ rfl w.heap.size rfl _ _ _ _ (heap_alloc_new _ _) Tryd.underlying37 rfl (by rw [arr8_size]; kernel_rfl) ?_) | (go_at_call 41; refine HP.out.mono ?_; rintro r w1 ⟨rfl, hs1, ht1⟩; have HS := Lib.hid (And.intro hs1 ht1); clear hs1 ht1))
  have HC : ∀ V, Below w1.heap.size w1 V → V.cell? ⟨S, 2, none⟩ = some (.slice (some ⟨g, 0, none⟩) len c) := fun V hV => (HF.out V (HS.out.1.below hV)).1
  have HD : ∀ V, Below w1.heap.size w1 V → V.cell? ⟨g, 36 * i + 33, none⟩ = some (.slice A L cA) := fun V hV => (HF.out V (HS.out.1.below hV)).2.1
  have HN : ∀ V, Below w1.heap.size w1 V → V.cell? ⟨g, 36 * i + 34, none⟩ = some (.bool dn) := fun V hV => (HF.out V (HS.out.1.below hV)).2.2
  refine wp_region_noPanic ?_
  refine wp_region_held_drew (S := fun V => Below w1.drew.heap.size w1.drew V) (by kernel_rfl) (Below.refl _ _) (fun hHeld => ?_)
  refine held_move 0 (Go.Operand.tmp 0) (some 13) (.pointer (some ⟨S, 0, none⟩)) (by kernel_rfl) (by kernel_rfl) (by kernel_rfl) (by kernel_rfl) (by kernel_rfl) (fun _ _ _ _ _ h => h) hHeld ?_
  refine held_nil 1 (Go.Operand.tmp 13) (some 14) ⟨S, 0, none⟩ (by kernel_rfl) (by kernel_rfl) (by kernel_rfl) (by kernel_rfl) (by kernel_rfl) (fun _ _ _ _ _ h => h) hHeld ?_
  refine held_field 2 90 (Go.Operand.tmp 14) 2 (some 15) (.pointer (some ⟨S, 0, none⟩)) (.pointer (some ⟨S, 2, none⟩)) (by kernel_rfl) (by kernel_rfl) (fun w => by kernel_rfl) (by kernel_rfl) (by kernel_rfl) (by kernel_rfl) (fun _ _ _ _ _ h => h) hHeld ?_
  refine held_cell 3 88 (Go.Operand.tmp 15) (some 16) (.pointer (some ⟨S, 2, none⟩)) (.slice (some ⟨g, 0, none⟩) len c) (by kernel_rfl) (by kernel_rfl) (fun V hV => load_dsl _ _ V (HC V (drB hV))) (by kernel_rfl) (by kernel_rfl) (by kernel_rfl) (fun _ _ _ _ _ h => h) hHeld ?_
  refine held_move 4 (Go.Operand.tmp 7) (some 17) (.int .i64 (i : Int)) (by kernel_rfl) (by kernel_rfl) (by kernel_rfl) (by kernel_rfl) (by kernel_rfl) (fun _ _ _ _ _ h => h) hHeld ?_
  refine held_index 5 88 (Go.Operand.tmp 16) (Go.Operand.tmp 17) (some 18) (.slice (some ⟨g, 0, none⟩) len c) (.int .i64 (i : Int)) (.pointer (some ⟨g, 36 * i, none⟩)) (by kernel_rfl) (by kernel_rfl) (idx_D g len c i hlt) (by kernel_rfl) (by kernel_rfl) (by kernel_rfl) (fun _ _ _ _ _ h => h) hHeld ?_
  refine held_field 6 92 (Go.Operand.tmp 18) 2 (some 19) (.pointer (some ⟨g, 36 * i, none⟩)) (.pointer (some ⟨g, 36 * i + 33, none⟩)) (by kernel_rfl) (by kernel_rfl) (field_D2 g _) (by kernel_rfl) (by kernel_rfl) (by kernel_rfl) (fun _ _ _ _ _ h => h) hHeld ?_
  refine held_cell 7 25 (Go.Operand.tmp 19) (some 20) (.pointer (some ⟨g, 36 * i + 33, none⟩)) (.slice A L cA) (by kernel_rfl) (by kernel_rfl) (fun V hV => load_slice g _ V 25 (fun w => by kernel_rfl) _ (HD V (drB hV))) (by kernel_rfl) (by kernel_rfl) (by kernel_rfl) (fun _ _ _ _ _ h => h) hHeld ?_
  refine held_any 8 (Go.Op.call { callee := Go.Callee.builtin Go.Builtin.len, args := #[Go.Operand.tmp 20], argTypes := #[25] }) (some 21) (.int .i64 (L : Int)) (by kernel_rfl) (by kernel_rfl) (by kernel_rfl) (by kernel_rfl) (fun _ _ _ _ _ h => h) hHeld (fun o ho w _ => exec_lenD (vx := .slice A L cA) ho (by kernel_rfl) (fun _ => len_slice _ 5 _ Tryd.underlying25 A L cA _)) ?_
  refine held_move 9 (Go.Operand.tmp 0) (some 22) (.pointer (some ⟨S, 0, none⟩)) (by kernel_rfl) (by kernel_rfl) (by kernel_rfl) (by kernel_rfl) (by kernel_rfl) (fun _ _ _ _ _ h => h) hHeld ?_
  refine held_nil 10 (Go.Operand.tmp 22) (some 23) ⟨S, 0, none⟩ (by kernel_rfl) (by kernel_rfl) (by kernel_rfl) (by kernel_rfl) (by kernel_rfl) (fun _ _ _ _ _ h => h) hHeld ?_
  refine held_field 11 90 (Go.Operand.tmp 23) 2 (some 24) (.pointer (some ⟨S, 0, none⟩)) (.pointer (some ⟨S, 2, none⟩)) (by kernel_rfl) (by kernel_rfl) (fun w => by kernel_rfl) (by kernel_rfl) (by kernel_rfl) (by kernel_rfl) (fun _ _ _ _ _ h => h) hHeld ?_
  refine held_cell 12 88 (Go.Operand.tmp 24) (some 25) (.pointer (some ⟨S, 2, none⟩)) (.slice (some ⟨g, 0, none⟩) len c) (by kernel_rfl) (by kernel_rfl) (fun V hV => load_dsl _ _ V (HC V (drB hV))) (by kernel_rfl) (by kernel_rfl) (by kernel_rfl) (fun _ _ _ _ _ h => h) hHeld ?_
  refine held_move 13 (Go.Operand.tmp 7) (some 26) (.int .i64 (i : Int)) (by kernel_rfl) (by kernel_rfl) (by kernel_rfl) (by kernel_rfl) (by kernel_rfl) (fun _ _ _ _ _ h => h) hHeld ?_
  refine held_index 14 88 (Go.Operand.tmp 25) (Go.Operand.tmp 26) (some 27) (.slice (some ⟨g, 0, none⟩) len c) (.int .i64 (i : Int)) (.pointer (some ⟨g, 36 * i, none⟩)) (by kernel_rfl) (by kernel_rfl) (idx_D g len c i hlt) (by kernel_rfl) (by kernel_rfl) (by kernel_rfl) (fun _ _ _ _ _ h => h) hHeld ?_
  refine held_field 15 92 (Go.Operand.tmp 27) 3 (some 28) (.pointer (some ⟨g, 36 * i, none⟩)) (.pointer (some ⟨g, 36 * i + 34, none⟩)) (by kernel_rfl) (by kernel_rfl) (field_D3 g _) (by kernel_rfl) (by kernel_rfl) (by kernel_rfl) (fun _ _ _ _ _ h => h) hHeld ?_
  refine held_cell 16 4 (Go.Operand.tmp 28) (some 29) (.pointer (some ⟨g, 36 * i + 34, none⟩)) (.bool dn) (by kernel_rfl) (by kernel_rfl) (fun V hV => load_bool g _ V _ (HN V (drB hV))) (by kernel_rfl) (by kernel_rfl) (by kernel_rfl) (fun _ _ _ _ _ h => h) hHeld ?_
  refine held_assign 17 (Go.Operand.tmp 21) (some 4) (.int .i64 (L : Int)) (by kernel_rfl) (by kernel_rfl) (by kernel_rfl) (by kernel_rfl) (by kernel_rfl) (fun _ _ _ _ _ h => h) hHeld ?_
  refine held_assign 18 (Go.Operand.tmp 29) (some 5) (.bool dn) (by kernel_rfl) (by kernel_rfl) (by kernel_rfl) (by kernel_rfl) (by kernel_rfl) (fun _ _ _ _ _ h => h) hHeld ?_
  refine held_assign 19 (Go.Operand.const (Go.Value.int Go.IntKind.i64 0)) (some 6) (Go.Value.int Go.IntKind.i64 0) (by kernel_rfl) (by kernel_rfl) (by kernel_rfl) (by kernel_rfl) (by kernel_rfl) (fun _ _ _ _ _ h => h) hHeld ?_
  refine wpAnyH_done (by kernel_rfl) ?_ _
  refine NoPanic.normal ?_
  try simp only [Act.put, List.setIfInBounds_toArray, List.set_cons_zero, List.set_cons_succ]
  clear HC HD HN
  go_wp2_with fail
  go_ret3
  exact ⟨rfl, HS.out.1.below (drB hHeld), (turn_box HS.out.2).trans (Turn.of_below (F := fun _ => False) (drB hHeld)) (fun _ y => y.elim)⟩
theorem sumD_take (es : List Ds) (i : Nat) (e : Ds) (h : es[i]? = some e) : sumD (es.take (i + 1)) = sumD (es.take i) + e.n := by
  unfold sumD
  rw [List.take_add_one, h, List.map_append, List.sum_append]
  simp
/-- few entries, none of them long -/
def FewD (es : List Ds) : Prop := es.length ≤ 16 ∧ ∀ (i : Nat) (e : Ds), es[i]? = some e → 0 ≤ e.n ∧ e.n ≤ 30000
theorem sumD_bound {es : List Ds} (h : ∀ (i : Nat) (e : Ds), es[i]? = some e → 0 ≤ e.n ∧ e.n ≤ 30000) : 0 ≤ sumD es ∧ sumD es ≤ 30000 * es.length := by
  induction es with
  | nil => simp [sumD]
  | cons x xs ih =>
    have h1 := ih (fun i e he => h (i + 1) e (by simpa using he))
    have h2 := h 0 x (by simp)
    have e3 : sumD (x :: xs) = x.n + sumD xs := by simp [sumD]
    rw [e3]
    simp only [List.length_cons] at h1 ⊢
    constructor <;> omega
theorem sumD_tb {es : List Ds} (h : FewD es) (i : Nat) : 0 ≤ sumD (es.take i) ∧ sumD (es.take i) ≤ 480000 := by
  have := sumD_bound (es := es.take i) (fun j e he => by
    rw [List.getElem?_take] at he
    split at he
    · exact h.2 j e he
    · cases he)
  have hl : (es.take i).length ≤ 16 := Nat.le_trans (by rw [List.length_take]; exact Nat.min_le_right _ _) h.1
  omega
set_option maxRecDepth 100000 in
set_option maxHeartbeats 1600000 in
theorem dused (h : DsS w S B q l V es) (hF : FewD es) :
    Calls Tryd.prog 42 #[.pointer (some ⟨S, 0, none⟩)] w fun r w' => r = .returned (.int .i64 (sumD es)) ∧ w' = w := by
  have hc2 := h.cell2
  have HR : Hid (∀ (i : Nat) (e : Ds), es[i]? = some e → ∃ g c, V = .slice (some ⟨g, 0, none⟩) es.length c ∧ w.cell? ⟨g, 36 * i + 32, none⟩ = some (.int .i64 e.n)) := Lib.hid fun i e he => by
    have hlt := (List.getElem?_eq_some_iff.1 he).1
    obtain ⟨g, c, rfl⟩ := h.form (by omega)
    exact ⟨g, c, rfl, h.row he (by decide) (ce_32 e)⟩
  obtain ⟨A, c, hV, _⟩ := own_slice h.own
  have HF := Lib.hid hF
  obtain ⟨len, hlen⟩ : ∃ x, x = es.length := ⟨_, rfl⟩
  rw [← hlen] at HR hV
  have HL := Lib.hid hlen
  have hl16 : len ≤ 16 := by rw [hlen]; exact hF.1
  subst hV
  clear h hF hlen
  go_enter Tryd.func42, Tryd.ntmps42
  go_wp2_with fail
  go_loopg [3, 4] len (fun gg s3 s4 wr => ∃ kk : Nat, kk ≤ len ∧ len - kk ≤ gg ∧ s3 = .int .i64 (sumD (es.take kk)) ∧ s4 = .int .i64 (kk : Int) ∧ wr = w)
  case atStart => exact ⟨0, Nat.zero_le _, by omega, rfl, rfl, rfl⟩
  case round =>
    obtain ⟨i, hkk, hgg, rfl, rfl, rfl⟩ := hrel
    by_cases hlt : i < len
    · have hk1 : (i : Int) < (len : Int) := by omega
      obtain ⟨e, he⟩ : ∃ e, es[i]? = some e := ⟨es[i]'(by rw [← HL.out]; exact hlt), List.getElem?_eq_getElem _⟩
      obtain ⟨g, c2, hV, hc1⟩ := HR.out i e he
      simp only [Value.slice.injEq, true_and] at hV
      obtain ⟨rfl, rfl⟩ := hV
      have hb1 := sumD_tb HF.out i
      have hb2 := HF.out.2 i e he
      have hE := Lib.hid (sumD_take es i e he)
      generalize sumD (es.take i) = s at *
      have hlo : -9223372036854775808 ≤ s + e.n := by omega
      have hhi : s + e.n ≤ 9223372036854775807 := by omega
      clear he hb1 hb2
      go_upto_region 5 with (fail)
      refine wp_region_lit ?_
      try simp only [put_list, List.set_cons_zero, List.set_cons_succ]
      refine wpList_run (by kernel_rfl) (.int .i64 s) (wr) (exec_move rfl (by kernel_rfl)) ?_
      try simp only [put_list, List.set_cons_zero, List.set_cons_succ]
      refine wpList_run (by kernel_rfl) (.pointer (some ⟨S, 0, none⟩)) (wr) (exec_move rfl (by kernel_rfl)) ?_
      try simp only [put_list, List.set_cons_zero, List.set_cons_succ]
      refine wpList_run (by kernel_rfl) (.pointer (some ⟨S, 0, none⟩)) (wr) (exec_nil rfl (by kernel_rfl)) ?_
      try simp only [put_list, List.set_cons_zero, List.set_cons_succ]
      refine wpList_run (by kernel_rfl) (.pointer (some ⟨S, 2, none⟩)) (wr) (exec_field (vx := .pointer (some ⟨S, 0, none⟩)) rfl (by kernel_rfl) (by kernel_rfl)) ?_
      try simp only [put_list, List.set_cons_zero, List.set_cons_succ]
      refine wpList_run (by kernel_rfl) (.slice (some ⟨g, 0, none⟩) len c) (wr) (exec_load (vx := .pointer (some ⟨S, 2, none⟩)) rfl (by kernel_rfl) (load_dsl _ _ wr hc2)) ?_
      try simp only [put_list, List.set_cons_zero, List.set_cons_succ]
      refine wpList_run (by kernel_rfl) (.int .i64 (i : Int)) (wr) (exec_move rfl (by kernel_rfl)) ?_
      try simp only [put_list, List.set_cons_zero, List.set_cons_succ]
      refine wpList_run (by kernel_rfl) (.pointer (some ⟨g, 36 * i, none⟩)) (wr) (exec_index (vx := .slice (some ⟨g, 0, none⟩) len c) (vy := .int .i64 (i : Int)) rfl (by kernel_rfl) (idx_D g len c i hlt wr)) ?_
      try simp only [put_list, List.set_cons_zero, List.set_cons_succ]
      refine wpList_run (by kernel_rfl) (.pointer (some ⟨g, 36 * i + 32, none⟩)) (wr) (exec_field (vx := .pointer (some ⟨g, 36 * i, none⟩)) rfl (by kernel_rfl) (field_D1 g _ wr)) ?_
      try simp only [put_list, List.set_cons_zero, List.set_cons_succ]
      refine wpList_run (by kernel_rfl) (.int .i64 e.n) (wr) (exec_load (vx := .pointer (some ⟨g, 36 * i + 32, none⟩)) rfl (by kernel_rfl) (load_i64 _ _ wr _ hc1)) ?_
      try simp only [put_list, List.set_cons_zero, List.set_cons_succ]
      refine wpList_run (by kernel_rfl) (.int .i64 (s + e.n)) (wr) (exec_bin (vx := .int .i64 s) (vy := .int .i64 e.n) rfl (by kernel_rfl) (add_int _ _ _ wr _ _ _ rfl hlo hhi)) ?_
      try simp only [put_list, List.set_cons_zero, List.set_cons_succ]
      refine wpList_run (by kernel_rfl) (.int .i64 (s + e.n)) (wr) (exec_assign rfl (by kernel_rfl)) ?_
      refine wpList_nil ?_
      simp only [put_list, List.set_cons_zero, List.set_cons_succ]
      go_wp2_with fail
      go_roundg (len - (i + 1))
      case measure => omega
      case rel =>
        refine ⟨i + 1, by omega, by omega, ?_, by go_num, rfl⟩
        rw [hE.out]
    · have hk1 : ¬ (i : Int) < (len : Int) := by omega
      obtain rfl : i = len := by omega
      have ht : es.take i = es := List.take_of_length_le (by have := HL.out; omega)
      rw [ht]
      go_wp2
      go_ret
      exact ⟨rfl, rfl⟩
set_option maxRecDepth 100000 in
set_option maxHeartbeats 1600000 in
theorem dopen_open (h : DsS w S B q l V es) (hn : es.length ≤ 1000) (k : Nat → BitVec 8) (n : Int) (h1 : 1 ≤ n) (h2 : n ≤ 30000) {i : Nat} {e : Ds} (hf : es.findIdx? (Ds.is k) = some i) (he : es[i]? = some e) :
    Calls Tryd.prog 21 #[.pointer (some ⟨S, 0, none⟩), .agg (arr8 32 k), .int .i64 n] w fun r w' => r = .returned (.int .i64 115) ∧ DsS w' S B q l V (es.set i e.used) ∧ Turn (dsG S V) w w' := by
  have HP := Lib.hid (dplace_some (h.below (below_alc w (.cells (arr8 32 k) 37))) hn k hf he)
  have hge : (0 : Int) ≤ (i : Int) := by omega
  clear h hf he
  go_enter Tryd.func21, Tryd.ntmps21
  go_wp2_with (first | (refine wpList_load_row rfl 37 _ rfl w.heap.size rfl _ _ _ _ (heap_alloc_new _ _) Tryd.underlying37 rfl (by rw [arr8_size]; kernel_rfl) ?_) | (go_at_call 41; refine HP.out.mono ?_; rintro r w1 ⟨rfl, hs1, ht1⟩; have HS := Lib.hid (And.intro hs1 ht1); clear hs1 ht1))
  go_ret
  exact ⟨rfl, HS.out.1, turn_box HS.out.2⟩
theorem DsS.push {W W' : World} (h : DsS W S B q l V es) {e : Ds} {V' : Value} (hst : W'.heap[S]? = some (.cells (sdA q l V') 90 (0, 0))) (hown : W'.ownsRow B 92 36 V' (es ++ [e]).length (dcel (es ++ [e]))) (hD : e.D = .slice none 0 0) (hbs : e.bs = [])
    (hk : ∀ k, k < W.heap.size → k ≠ S → V.ownBlock ≠ some k → W'.heap[k]? = W.heap[k]?) : DsS W' S B q l V' (es ++ [e]) := by
  refine ⟨hst, hown, fun x hx => ?_, h.lo⟩
  rcases List.mem_append.1 hx with h1 | h1
  · have hx1 := h.byt x h1
    refine own_keepD hx1 fun k hk1 => hk k (hx1.lt k hk1).2 (fun y => ?_) (fun y => ?_)
    · exact ownD_ne hx1 h.st (by decide) (by rw [← y]; exact hk1.symm)
    · obtain ⟨c1, hc1⟩ := own_cellsD hx1 hk1
      exact ownD_ne h.own hc1 (by decide) y.symm
  · obtain rfl := List.mem_singleton.1 h1
    rw [hD, hbs]
    exact World.ownsRow_nil _ _ _ _
set_option maxRecDepth 100000 in
set_option maxHeartbeats 1600000 in
theorem dopen_ok (h : DsS w S B q l V es) (hl : es.length < 16) (hF : FewD es) (k : Nat → BitVec 8) (n : Int) (h1 : 1 ≤ n) (h2 : n ≤ 30000) (hf : es.findIdx? (Ds.is k) = none) (hq0 : 0 ≤ q) (hq1 : q ≤ 1000000) (hq : n ≤ q - sumD es) :
    Calls Tryd.prog 21 #[.pointer (some ⟨S, 0, none⟩), .agg (arr8 32 k), .int .i64 n] w fun r w' => r = .returned (.int .i64 0) ∧ ∃ V', DsS w' S B q l V' (es ++ [⟨k, n, .slice none 0 0, [], false, 0⟩]) ∧ Turn (dsG S V) w w' := by
  have hb0 := below_alc w (.cells (arr8 32 k) 37)
  have HP := Lib.hid (dplace_none (h.below hb0) (by omega) k hf)
  have hsb := sumD_bound hF.2
  have hs1 : -9223372036854775808 ≤ q - sumD es := by omega
  have hs2 : q - sumD es ≤ 9223372036854775807 := by omega
  have hqd : decide (q - sumD es < n) = false := decide_eq_false (by omega)
  have HFw := Lib.hid hF
  obtain ⟨sm, hsm⟩ : ∃ x, x = sumD es := ⟨_, rfl⟩
  rw [← hsm] at hs1 hs2 hqd
  obtain ⟨A, c, hV, _⟩ := own_slice h.own
  have hl2 : (es.length : Int) < 16 := by omega
  have HL := Lib.hid (show es.length ≤ 16 by omega)
  obtain ⟨len, hlen⟩ : ∃ x, x = es.length := ⟨_, rfl⟩
  rw [← hlen] at hl2 hV
  have HF : Hid (∀ W1, DsS W1 S B q l V es → W1.cell? ⟨S, 2, none⟩ = some (.slice A len c)) := Lib.hid fun W1 hW => by rw [← hV]; exact hW.cell2
  have hxb : (w.alloc (.cells (arr8 32 k) 37)).heap[w.heap.size]? = some (.cells (arr8 32 k) 37 (0, 0)) := heap1_0 w _
  have HX : Hid (∀ W1, Turn (fun x => V.ownBlock = some x) (w.alloc (.cells (arr8 32 k) 37)) W1 → W1.heap[w.heap.size]? = some (.cells (arr8 32 k) 37 (0, 0))) := Lib.hid fun W1 hT => (hT.block _ (lt_heapD hxb) (fun y => ownD_ne ((h.below hb0).own) hxb (by decide) y.symm)).trans hxb
  clear h hf hsb hl hlen hF hq hxb
  go_enter Tryd.func21, Tryd.ntmps21
  go_upto_region 7 with (first | (refine wpList_load_row rfl 37 _ rfl w.heap.size rfl _ _ _ _ (heap_alloc_new _ _) Tryd.underlying37 rfl (by rw [arr8_size]; kernel_rfl) ?_) | (go_at_call 41; refine HP.out.mono ?_; rintro r w1 ⟨rfl, hs1, ht1⟩; have HS := Lib.hid (And.intro hs1 ht1); have hc1 := HF.out w1 hs1; clear hs1 ht1))
  have hq0 : w1.drew.cell? ⟨S, 0, none⟩ = some (.int .i64 q) := HS.out.1.cell0
  have HU := Lib.hid (dused (HS.out.1.below (Below.drew (Below.refl _ _))) HFw.out)
  rw [← hsm] at HU
  clear hc1
  refine wp_region_noPanic ?_
  refine wp_region_held_drew (S := fun V => V = w1.drew) (by kernel_rfl) (rfl) (fun hHeld => ?_)
  refine held_move 0 (Go.Operand.tmp 2) (some 27) (.int .i64 n) (by kernel_rfl) (by kernel_rfl) (by kernel_rfl) (by kernel_rfl) (by kernel_rfl) (fun _ _ _ _ _ h => h) hHeld ?_
  refine held_move 1 (Go.Operand.tmp 0) (some 28) (.pointer (some ⟨S, 0, none⟩)) (by kernel_rfl) (by kernel_rfl) (by kernel_rfl) (by kernel_rfl) (by kernel_rfl) (fun _ _ _ _ _ h => h) hHeld ?_
  refine held_nil 2 (Go.Operand.tmp 28) (some 29) ⟨S, 0, none⟩ (by kernel_rfl) (by kernel_rfl) (by kernel_rfl) (by kernel_rfl) (by kernel_rfl) (fun _ _ _ _ _ h => h) hHeld ?_
  refine held_field 3 90 (Go.Operand.tmp 29) 0 (some 30) (.pointer (some ⟨S, 0, none⟩)) (.pointer (some ⟨S, 0, none⟩)) (by kernel_rfl) (by kernel_rfl) (fun w => by kernel_rfl) (by kernel_rfl) (by kernel_rfl) (by kernel_rfl) (fun _ _ _ _ _ h => h) hHeld ?_
  refine held_cell 4 3 (Go.Operand.tmp 30) (some 31) (.pointer (some ⟨S, 0, none⟩)) (.int .i64 q) (by kernel_rfl) (by kernel_rfl) (fun V hV => by rw [hV]; exact load_i64 _ _ w1.drew _ hq0) (by kernel_rfl) (by kernel_rfl) (by kernel_rfl) (fun _ _ _ _ _ h => h) hHeld ?_
  refine held_move 5 (Go.Operand.tmp 0) (some 32) (.pointer (some ⟨S, 0, none⟩)) (by kernel_rfl) (by kernel_rfl) (by kernel_rfl) (by kernel_rfl) (by kernel_rfl) (fun _ _ _ _ _ h => h) hHeld ?_
  refine held_call 6 42 #[Go.Operand.tmp 32] #[54] (some 33) #[.pointer (some ⟨S, 0, none⟩)] _ (by kernel_rfl) (by kernel_rfl) (by kernel_rfl) (by kernel_rfl) (HU.out) ?_
  rintro r Y ⟨rfl, rfl⟩
  refine ⟨_, rfl, hHeld, fun hHeld => ?_⟩
  refine held_bin 7 Go.BinOp.sub 3 (Go.Operand.tmp 31) (Go.Operand.tmp 33) 3 (some 34) (.int .i64 q) (.int .i64 sm) (.int .i64 (q - sm)) (by kernel_rfl) (by kernel_rfl) (fun w => sub_D _ _ _ _ _ hs1 hs2 w) (by kernel_rfl) (by kernel_rfl) (by kernel_rfl) (fun _ _ _ _ _ h => h) hHeld ?_
  refine held_bin 8 Go.BinOp.gtr 3 (Go.Operand.tmp 27) (Go.Operand.tmp 34) 3 (some 35) (.int .i64 n) (.int .i64 (q - sm)) (.bool (decide (q - sm < n))) (by kernel_rfl) (by kernel_rfl) (fun w => gtr_i64 _ _ _ w _ _) (by kernel_rfl) (by kernel_rfl) (by kernel_rfl) (fun _ _ _ _ _ h => h) hHeld ?_
  refine held_assign 9 (Go.Operand.tmp 35) (some 26) (.bool (decide (q - sm < n))) (by kernel_rfl) (by kernel_rfl) (by kernel_rfl) (by kernel_rfl) (by kernel_rfl) (fun _ _ _ _ _ h => h) hHeld ?_
  refine wpAnyH_done (by kernel_rfl) ?_ _
  refine NoPanic.normal ?_
  try simp only [Act.put, List.setIfInBounds_toArray, List.set_cons_zero, List.set_cons_succ]
  rw [hqd]
  clear hHeld hq0
  go_upto_region 9 with (fail)
  obtain ⟨bx, hbx⟩ : ∃ b, b = w.heap.size := ⟨_, rfl⟩
  obtain ⟨w2, hw2⟩ : ∃ W, W = w1.drew := ⟨_, rfl⟩
  have hT2 : Turn (dsG S V) w w2 := by rw [hw2]; exact (turn_box HS.out.2).trans (Turn.of_below (F := fun _ => False) (Below.drew (Below.refl _ _))) (fun _ y => y.elim)
  have hbx2 : w2.heap[bx]? = some (.cells (arr8 32 k) 37 (0, 0)) := by rw [hw2, hbx]; exact HX.out w1 HS.out.2
  replace HS : Hid (DsS w2 S B q l V es) := by rw [hw2]; exact Lib.hid (HS.out.1.below (Below.drew (Below.refl _ _)))
  rw [← hbx, ← hw2]
  have hS : OpD S bx q l V k w2.drew := ⟨HS.out.st, hbx2⟩
  have hbV : some bx ≠ V.ownBlock := ownD_ne HS.out.own hbx2 (by decide)
  have HT2 := Lib.hid hT2
  clear hbx hw2 hT2 hb0
  refine wp_region_held_cut (S := OpD S bx q l V k) 10 (by kernel_rfl) (by kernel_rfl) (hS) (fun hHeld => ?_)
  refine held_move 0 (Go.Operand.tmp 0) (some 36) (.pointer (some ⟨S, 0, none⟩)) (by kernel_rfl) (by kernel_rfl) (by kernel_rfl) (by kernel_rfl) (by kernel_rfl) (fun _ _ _ _ _ h => h) hHeld ?_
  refine held_move 1 (Go.Operand.tmp 0) (some 37) (.pointer (some ⟨S, 0, none⟩)) (by kernel_rfl) (by kernel_rfl) (by kernel_rfl) (by kernel_rfl) (by kernel_rfl) (fun _ _ _ _ _ h => h) hHeld ?_
  refine held_nil 2 (Go.Operand.tmp 37) (some 38) ⟨S, 0, none⟩ (by kernel_rfl) (by kernel_rfl) (by kernel_rfl) (by kernel_rfl) (by kernel_rfl) (fun _ _ _ _ _ h => h) hHeld ?_
  refine held_field 3 90 (Go.Operand.tmp 38) 2 (some 39) (.pointer (some ⟨S, 0, none⟩)) (.pointer (some ⟨S, 2, none⟩)) (by kernel_rfl) (by kernel_rfl) (fun w => by kernel_rfl) (by kernel_rfl) (by kernel_rfl) (by kernel_rfl) (fun _ _ _ _ _ h => h) hHeld ?_
  refine held_cell 4 88 (Go.Operand.tmp 39) (some 40) (.pointer (some ⟨S, 2, none⟩)) (V) (by kernel_rfl) (by kernel_rfl) (fun W hw => load_dsl _ _ W (cell_heapD hw.1 rfl)) (by kernel_rfl) (by kernel_rfl) (by kernel_rfl) (fun _ _ _ _ _ h => h) hHeld ?_
  refine held_cell 5 37 (Go.Operand.tmp 4) (some 41) (.pointer (some ⟨bx, 0, none⟩)) (.agg (arr8 32 k)) (by kernel_rfl) (by kernel_rfl) (fun W hw => load_idD bx 0 k W (range_new (cs := (arr8 32 k).toList) (by simpa using hw.2))) (by kernel_rfl) (by kernel_rfl) (by kernel_rfl) (fun _ _ _ _ _ h => h) hHeld ?_
  refine held_move 6 (Go.Operand.tmp 2) (some 42) (.int .i64 n) (by kernel_rfl) (by kernel_rfl) (by kernel_rfl) (by kernel_rfl) (by kernel_rfl) (fun _ _ _ _ _ h => h) hHeld ?_
  refine held_build 7 92 #[(0, Go.Operand.tmp 41), (1, Go.Operand.tmp 42)] (some 43) #[(0, .agg (arr8 32 k)), (1, .int .i64 n)] (.agg (edA k n (.slice none 0 0) false 0).toArray) (by kernel_rfl) (by kernel_rfl) (fun w => ed_build k n w) (by kernel_rfl) (by kernel_rfl) (by kernel_rfl) (fun _ _ _ _ _ h => h) hHeld ?_
  refine held_run 8 (Go.Op.buildSlice 88 1 #[(0, Go.Operand.tmp 43)]) 88 (some 44) (.slice (some ⟨w2.heap.size, 0, none⟩) 1 1) ((w2.drew.alloc (.cells (edA k n (.slice none 0 0) false 0).toArray 92))) (by kernel_rfl) (by kernel_rfl) (by kernel_rfl) (fun o ho ht => exec_bsl (vs := #[(0, .agg (edA k n (.slice none 0 0) false 0).toArray)]) ho (by kernel_rfl) (ed_bsl k n w2.drew)) (hHeld.alc _) ?_
  intro hHeld
  obtain ⟨V3, W3, hr3, ho3, hg3⟩ := app_D 88 (w2.drew.alloc (.cells (edA k n (.slice none 0 0) false 0).toArray 92)) B V es [⟨k, n, .slice none 0 0, [], false, 0⟩] ((HS.out.own.drew).alloc _) (some ⟨w2.heap.size, 0, none⟩) 1 (ed_one k n w2.drew) (by have := HL.out; simp; omega) (by have h3 := HS.out.lt (.inl rfl); exact Nat.le_trans (Nat.le_of_lt (Nat.lt_of_le_of_lt h3.1 h3.2)) (by simp)) (fun e => by cases e)
  refine held_run 9 (Go.Op.call { callee := Go.Callee.builtin Go.Builtin.append, args := #[Go.Operand.tmp 40, Go.Operand.tmp 44], argTypes := #[88, 88] }) 88 (some 45) (V3) (W3) (by kernel_rfl) (by kernel_rfl) (by kernel_rfl) (fun o ho ht => exec_append ho ht (vs := V) (vx := .slice (some ⟨w2.heap.size, 0, none⟩) 1 1) (by kernel_rfl) (hr3)) (hHeld.grown hg3 (ownD_ne HS.out.own HS.out.st (by decide)) hbV) ?_
  intro hHeld
  refine wpAnyH_done (by kernel_rfl) ?_ _
  show wpList _ _ _ _ _ _
  simp only [Act.put, List.setIfInBounds_toArray, List.set_cons_zero, List.set_cons_succ, List.drop_succ_cons, List.drop_zero]
  have hst3 := hHeld.1
  have hfz := thaw_heapD hst3 2
  have hc3 : W3.cell? ⟨S, 2, none⟩ = some V := cell_heapD hst3 rfl
  have HST := Lib.hid hst3
  have H3 := Lib.hid (And.intro ho3 hg3)
  obtain ⟨A3, c3, hV3, _⟩ := own_slice ho3
  obtain ⟨n3, hn3⟩ : ∃ x, x = (es ++ [(⟨k, n, .slice none 0 0, [], false, 0⟩ : Ds)]).length := ⟨_, rfl⟩
  rw [← hn3] at hV3
  subst hV3
  clear hn3 ho3 hg3 hHeld hr3 hst3 hbV hbx2 hS
  go_wp2_with fail
  go_ret
  obtain ⟨ho3, hg3⟩ := H3.out
  have hgr : w2.grownBy W3 V.ownBlock := ⟨hg3.os, hg3.tape, hg3.output, Nat.le_trans (by simp) hg3.size, fun x hx hr => (hg3.block x (by simp; omega) hr).trans ((below_alc w2.drew _).block x hx)⟩
  have hsz := hgr.size
  have hset : Turn (· = S) W3 (W3.setCell ⟨S, 2, none⟩ (.slice A3 n3 c3)) := Turn.of_grown (row := some S) ⟨rfl, rfl, rfl, by simp [World.setCell], fun x _ hx => Below.heap_setCell _ _ _ _ (fun e => hx (by rw [e]))⟩ (fun x hx => (Option.some.inj hx).symm)
  have hnS : some S ≠ (Value.slice A3 n3 c3).ownBlock := ownD_ne ho3 HST.out (by decide)
  have hfin := (HT2.out.trans (Turn.of_grown (F := fun x => V.ownBlock = some x) hgr (fun x hx => hx)) (fun x hx => .inl (.inr hx))).trans hset (fun x hx => .inl (.inl hx))
  refine ⟨rfl, ⟨.slice A3 n3 c3, HS.out.push (heap_setCell_same W3 S 2 _ _ _ HST.out) (own_keepD ho3 fun x hx => hset.block x (ho3.lt x hx).2 (fun y => hnS (by rw [← y]; exact hx.symm))) rfl rfl (fun x hx h1 h2 => (hset.block x (by omega) h1).trans (hgr.block x hx (fun y => h2 y.symm)))⟩, by first | exact hfin | (rw [← hV]; exact hfin)⟩
end
theorem slice_sl_h {P : Program} {t e : TypeId} (hu : P.underlying t = some (.slice e)) (hs : (P.info? e).map (·.size) = some 1) (A : Option Addr) (n cap k : Nat) (hk : k ≤ cap) (w : World) :
    (Instr.slice t (.slice A n cap) none (some (.int .i64 (k : Int))) none).run P w = .ok (.slice A k cap) w := by
  have e2 : P.elem t = e := by simp [Program.elem, hu]
  rw [run_slice_h (P := P) w t A n cap (by rw [e2]; exact hu) .i64 (k : Int) (by omega) (by omega), e2]
  obtain ⟨i, hi, hz⟩ := Option.map_eq_some_iff.1 hs
  have h0 : A.map (fun a => a.add 0) = A := by cases A <;> simp [Addr.add]
  simp [sizeOf, typeInfo, hi, hz, Result.andThen, sliced, h0]
def overD (l : List Int) (a : Nat) (ys : List Int) : List Int := l.take a ++ ys ++ l.drop (a + ys.length)
theorem overD_len (l : List Int) (a : Nat) (ys : List Int) (h : a ≤ l.length) : (overD l a ys).length = max l.length (a + ys.length) := by
  unfold overD
  simp
  omega
theorem ints_lenD (k : IntKind) (xs : List Int) : (ints k xs).length = xs.length := by simp [ints]
theorem ints_takeD (k : IntKind) (xs : List Int) (n : Nat) : (ints k xs).take n = ints k (xs.take n) := by simp [ints, List.map_take]
theorem ints_dropD (k : IntKind) (xs : List Int) (n : Nat) : (ints k xs).drop n = ints k (xs.drop n) := by simp [ints, List.map_drop]
theorem SlRead.turnD {F : Nat → Prop} {w w' : World} {A : Option Addr} {xs : List Value} (h : SlRead w A xs) (ht : Turn F w w') (hF : 0 < xs.length → ∀ a, A = some a → ¬ F a.block) : SlRead w' A xs := by
  intro hx
  obtain ⟨b, o, e, hl, hc⟩ := h hx
  refine ⟨b, o, e, Nat.lt_of_lt_of_le hl ht.size, fun j u hu => ?_⟩
  rw [World.cell?_of_block (ht.block b hl (hF hx ⟨b, o, none⟩ e))]
  exact hc j u hu
theorem SlRead.takeD {w : World} {A : Option Addr} {xs : List Value} (h : SlRead w A xs) (n : Nat) : SlRead w A (xs.take n) := by
  intro hn
  have hx : 0 < xs.length := by rw [List.length_take] at hn; omega
  obtain ⟨b, o, e1, hlt, hc⟩ := h hx
  refine ⟨b, o, e1, hlt, fun j u hu => hc j u ?_⟩
  rw [List.getElem?_take] at hu
  split at hu
  · exact hu
  · cases hu
theorem SlRead.cutD {w : World} {A : Option Addr} {xs : List Value} (h : SlRead w A xs) {n c : Nat} (hn : n < xs.length) (hc : xs.length ≤ c) : SlRead w (cutA A n c) (xs.drop n) := by
  intro _
  obtain ⟨b, o, e1, hlt, hr⟩ := h (by omega)
  subst e1
  refine ⟨b, o + n, cutA_some hn hc, hlt, fun j u hu => ?_⟩
  rw [List.getElem?_drop] at hu
  have := hr _ u hu
  rw [show o + n + j = o + (n + j) by omega]
  exact this
theorem ce_infoR {ceR : Array Value} (h : ceR.size = 36) : (Tryd.prog.info? 92).map (·.size) = some ceR.size := by rw [h]; kernel_rfl
theorem load_ceD (g o : Nat) (ceR : Array Value) (w : World) (h : w.rangeAt g o ceR.toList) (hl : ceR.size = 36) : (Instr.loadAt 92 (.pointer (some ⟨g, o, none⟩))).run Tryd.prog w = .ok (.agg ceR) w := by
  have := load_row 92 g o ceR.toList _ Tryd.underlying92 rfl (by rw [Array.length_toList, hl]; kernel_rfl) w h
  simpa using this
theorem store_slB (b o : Nat) (v : Value) (w : World) {u : Value} (h : w.cell? ⟨b, o, none⟩ = some u) (hf : w.frozen? ⟨b, o, none⟩ = false) {A : Option Addr} {n c : Nat} (hv : v = .slice A n c := by rfl) : (Instr.storeAt 25 (.pointer (some ⟨b, o, none⟩)) v).run Tryd.prog w = .ok () (w.setCell ⟨b, o, none⟩ v) := by
  subst hv
  have h2 := Tryd.underlying25
  go_simp
section
variable {w : World} {S B : Nat} {q l : Int} {V : Value} {es : List Ds}
set_option maxRecDepth 100000 in
set_option maxHeartbeats 1600000 in
theorem dput_ok (h : DsS w S B q l V es) (hn : es.length ≤ 1000) (k : Nat → BitVec 8) {i : Nat} {e : Ds} (hf : es.findIdx? (Ds.is k) = some i) (he : es[i]? = some e) (hd : e.done = false) (off : Nat) (A : Option Addr) (ys : List Int) (m cb : Nat)
    (hm : ys.length = m) (hA : SlRead w A (ints .u8 ys)) (hAg : 0 < m → ∀ a, A = some a → ¬ dsG S V a.block) (hoff : off ≤ e.bs.length) (hfit : (off : Int) + m ≤ e.n) (hen : 0 ≤ e.n ∧ e.n ≤ 30000) (hbn : (e.bs.length : Int) ≤ e.n) :
    Calls Tryd.prog 22 #[.pointer (some ⟨S, 0, none⟩), .agg (arr8 32 k), .int .i64 (off : Int), .slice A m cb] w fun r w' => r = .returned (.tuple #[.int .i64 ((overD e.bs off ys).length : Int), .int .i64 0]) ∧ ∃ D, DsS w' S B q l V (es.set i ⟨e.f, e.n, D, overD e.bs off ys, false, 0⟩) ∧ Turn (dsG S V) w w' := by
  have hb0 := below_alc w (.cells (arr8 32 k) 37)
  have HP := Lib.hid (dplace_some (h.below hb0) hn k hf he)
  have hlt : i < es.length := (List.getElem?_eq_some_iff.1 he).1
  obtain ⟨g, c, rfl⟩ := h.form (by omega)
  obtain ⟨Bx, cx, hD, hcx, _, hBx⟩ := own_slice (h.byt e (List.mem_of_getElem? he))
  have he2 : (es.set i e.used)[i]? = some e.used := by rw [List.getElem?_set_self hlt]
  obtain ⟨ceR, hceR⟩ : ∃ x, x = e.used.ce.toArray := ⟨_, rfl⟩
  have hcl : ceR.size = 36 := by rw [hceR]; simp [Ds.ce_len]
  have hone : ceR.all (·.oneCell') = true := by rw [hceR]; exact ce_one _ ⟨_, _, _, hD⟩
  have hcsz : zeroD.toArray.size = ceR.size := by rw [hcl]; rfl
  have HF : Hid (∀ W, DsS W S B q l (.slice (some ⟨g, 0, none⟩) es.length c) (es.set i e.used) → W.cell? ⟨S, 2, none⟩ = some (.slice (some ⟨g, 0, none⟩) es.length c) ∧ W.rangeAt g (36 * i) ceR.toList ∧ W.cell? ⟨g, 36 * i + 33, none⟩ = some e.D ∧ W.frozen? ⟨g, 36 * i + 33, none⟩ = false) := Lib.hid fun W hW => by
    have h2 := hW
    rw [show es.length = (es.set i e.used).length by simp] at h2
    refine ⟨hW.cell2, fun j v hv => ?_, h2.row he2 (by decide) (ce_33 e.used), h2.own.frozenAt _⟩
    rw [hceR] at hv
    exact h2.row he2 (by have := (List.getElem?_eq_some_iff.1 hv).1; rw [Ds.ce_len] at this; exact this) hv
  have hx32 : ceR[32]? = some (.int .i64 e.n) := by rw [hceR, List.getElem?_toArray]; exact ce_32 e.used
  have hx33 : ceR[33]? = some (.slice Bx e.bs.length cx) := by rw [hceR, List.getElem?_toArray, ← hD]; exact ce_33 e.used
  have hx34 : ceR[34]? = some (.bool false) := by rw [hceR, List.getElem?_toArray, ← hd]; exact ce_34 e.used
  have HB : Hid (∀ W, DsS W S B q l (.slice (some ⟨g, 0, none⟩) es.length c) (es.set i e.used) → W.ownsRow B 5 1 e.D e.bs.length (ints .u8 e.bs)) := Lib.hid fun W hW => hW.byt e.used (List.mem_of_getElem? he2)
  have HH := Lib.hid (And.intro he2 (And.intro hd hlt))
  have HAA := Lib.hid (And.intro hA hAg)
  have hDD := Lib.hid hD
  have hBS : B ≤ w.heap.size := by have := h.lt (.inl rfl); omega
  obtain ⟨len, hlen⟩ : ∃ x, x = es.length := ⟨_, rfl⟩
  obtain ⟨bs, hbs⟩ : ∃ x, x = e.bs := ⟨_, rfl⟩
  obtain ⟨n, hen2⟩ : ∃ x, x = e.n := ⟨_, rfl⟩
  rw [← hbs] at hoff hbn hx33 HB hDD hcx ⊢
  rw [← hen2] at hfit hen hbn hx32 ⊢
  rw [← hlen] at hlt HF HP HB HAA ⊢
  obtain ⟨L, hL⟩ : ∃ x, x = bs.length := ⟨_, rfl⟩
  rw [← hL] at hoff hbn hx33 HB hDD hcx
  have hneg : ¬ (i : Int) < 0 := by omega
  have ho0 : ¬ (off : Int) < 0 := by omega
  have hoL' : ¬ (L : Int) < (off : Int) := by omega
  have hws : wrap64 (n - (off : Int)) = n - (off : Int) := by unfold wrap64; omega
  have hmn : ¬ n - (off : Int) < (m : Int) := by omega
  have hoc : off ≤ cx := by omega
  have hLc : L ≤ cx := hcx
  have HLB : Hid (L ≤ 30000 ∧ off + m ≤ 30000) := Lib.hid (by omega)
  have HL := Lib.hid hL
  have hoL : off ≤ bs.length := by omega
  have HLN := Lib.hid hlen
  have HN := Lib.hid hen2
  clear h hf he he2 hD hlen hL hb0 hA hAg hbs hen2 hceR hcx hBx hen hbn hfit hoff hd
  go_enter Tryd.func22, Tryd.ntmps22
  go_upto_region 4 with (first | (refine wpList_load_row rfl 37 _ rfl w.heap.size rfl _ _ _ _ (heap_alloc_new _ _) Tryd.underlying37 rfl (by rw [arr8_size]; kernel_rfl) ?_) | (go_at_call 41; refine HP.out.mono ?_; rintro r w1 ⟨rfl, hs1, ht1⟩; have HS := Lib.hid (And.intro hs1 ht1); clear hs1 ht1))
  obtain ⟨hc2, hce, _, _⟩ := HF.out w1 HS.out.1
  refine wp_region_lit ?_
  try simp only [put_list, List.set_cons_zero, List.set_cons_succ]
  refine wpList_run (by kernel_rfl) (.pointer (some ⟨S, 0, none⟩)) (w1) (exec_move rfl (by kernel_rfl)) ?_
  try simp only [put_list, List.set_cons_zero, List.set_cons_succ]
  refine wpList_run (by kernel_rfl) (.pointer (some ⟨S, 0, none⟩)) (w1) (exec_nil rfl (by kernel_rfl)) ?_
  try simp only [put_list, List.set_cons_zero, List.set_cons_succ]
  refine wpList_run (by kernel_rfl) (.pointer (some ⟨S, 2, none⟩)) (w1) (exec_field (vx := .pointer (some ⟨S, 0, none⟩)) rfl (by kernel_rfl) (by kernel_rfl)) ?_
  try simp only [put_list, List.set_cons_zero, List.set_cons_succ]
  refine wpList_run (by kernel_rfl) (.slice (some ⟨g, 0, none⟩) len c) (w1) (exec_load (vx := .pointer (some ⟨S, 2, none⟩)) rfl (by kernel_rfl) (load_dsl _ _ w1 hc2)) ?_
  try simp only [put_list, List.set_cons_zero, List.set_cons_succ]
  refine wpList_run (by kernel_rfl) (.int .i64 (i : Int)) (w1) (exec_move rfl (by kernel_rfl)) ?_
  try simp only [put_list, List.set_cons_zero, List.set_cons_succ]
  refine wpList_run (by kernel_rfl) (.pointer (some ⟨g, 36 * i, none⟩)) (w1) (exec_index (vx := .slice (some ⟨g, 0, none⟩) len c) (vy := .int .i64 (i : Int)) rfl (by kernel_rfl) (idx_D g len c i hlt w1)) ?_
  try simp only [put_list, List.set_cons_zero, List.set_cons_succ]
  refine wpList_run (by kernel_rfl) (.agg ceR) (w1) (exec_load (vx := .pointer (some ⟨g, 36 * i, none⟩)) rfl (by kernel_rfl) (load_ceD g _ _ w1 hce hcl)) ?_
  try simp only [put_list, List.set_cons_zero, List.set_cons_succ]
  refine wpList_allocV (by kernel_rfl) 92 (by kernel_rfl) (zeroD.toArray) (fun _ => by kernel_rfl) ?_
  refine wpList_store_row (by kernel_rfl) 92 (Go.Operand.tmp 11) (Go.Operand.tmp 24) (by kernel_rfl) w1.heap.size (ceR) (by kernel_rfl) (by kernel_rfl) _ _ (heap_alloc_new _ _) (ce_infoR hcl) (hcsz) (hone) ?_
  rw [alloc_setRow]
  refine wpList_nil ?_
  try simp only [put_list, put_none, List.set_cons_zero, List.set_cons_succ]
  go_upto_region 5 with (fail)
  obtain ⟨X, hX⟩ : ∃ x, x = w1.heap.size := ⟨_, rfl⟩
  refine wp_world (fun W => Below w1.heap.size w1 W ∧ W.heap[X]? = some (.cells ceR 92 (0, 0))) ⟨below_alc w1 _, by rw [hX]; exact heap1_0 w1 _⟩ ?_
  rw [← hX]
  have HX := Lib.hid hX
  clear hX hc2 hce
  rintro w2 ⟨hb12, hX2⟩
  have hXl := lt_heapD hX2
  have x32 := cell_heapD hX2 hx32
  have x33 := cell_heapD hX2 hx33
  have x34 := cell_heapD hX2 hx34
  have HBT : Hid (Below w1.heap.size w1 w2) := Lib.hid (by rw [← HX.out]; exact hb12)
  clear hb12 hX2
  try simp only [put_none]
  go_upto_region 9 with (fail)
  have hs2 := HS.out.1.below HBT.out
  have hT2 : Turn (dsG S (.slice (some ⟨g, 0, none⟩) len c)) w w2 := (turn_box HS.out.2).trans (Turn.of_below (F := fun _ => False) HBT.out) (fun _ y => y.elim)
  have hA2 : SlRead w2 A (ints .u8 ys) := SlRead.turnD HAA.out.1 hT2 (fun h0 a ha => HAA.out.2 (by rw [← hm]; simpa using h0) a ha)
  have hBo := HB.out w2 hs2
  rw [hDD.out] at hBo
  have hBr : SlRead w2 Bx (ints .u8 bs) := by rw [HL.out] at hBo; exact own_read hBo
  have HBY : Hid (Calls Tryd.prog 31 #[.slice Bx off cx] w2 fun r w' => ∃ v, r = .returned v ∧ w'.ownsRow w2.heap.size 5 1 v off (ints .u8 (bs.take off)) ∧ Below w2.heap.size w2 w') := Lib.hid (by
    have := bytes_any Bx (bs.take off) cx w2 (by rw [← ints_takeD]; exact hBr.takeD off) (by rw [List.length_take]; have := HLB.out; omega)
    rwa [List.length_take, Nat.min_eq_left hoL] at this)
  have HS2 := Lib.hid (And.intro hs2 (And.intro hT2 hBr))
  clear hs2 hT2 hBo hBr hneg ho0 hoL' hws hmn x34 x32
  refine wp_region_lit ?_
  try simp only [put_list, List.set_cons_zero, List.set_cons_succ]
  refine wpList_run (by kernel_rfl) (.pointer (some ⟨X, 33, none⟩)) (w2) (exec_field (vx := .pointer (some ⟨X, 0, none⟩)) rfl (by kernel_rfl) (by kernel_rfl)) ?_
  try simp only [put_list, List.set_cons_zero, List.set_cons_succ]
  refine wpList_run (by kernel_rfl) (.slice Bx L cx) (w2) (exec_load (vx := .pointer (some ⟨X, 33, none⟩)) rfl (by kernel_rfl) (load_slice X 33 w2 25 (fun w => by kernel_rfl) _ x33)) ?_
  try simp only [put_list, List.set_cons_zero, List.set_cons_succ]
  refine wpList_run (by kernel_rfl) (.int .i64 (off : Int)) (w2) (exec_move rfl (by kernel_rfl)) ?_
  try simp only [put_list, List.set_cons_zero, List.set_cons_succ]
  refine wpList_run (by kernel_rfl) (.slice Bx off cx) (w2) (exec_slice (vx := .slice Bx L cx) (l := none) (h := some (.int .i64 (off : Int))) (m := none) rfl (by kernel_rfl) (slice_sl_h Tryd.underlying25 (by kernel_rfl) Bx L cx off hoc w2)) ?_
  refine wpList_call (by kernel_rfl) 31 #[Go.Operand.tmp 48] #[25] #[.slice Bx off cx] _ rfl (by kernel_rfl) (by kernel_rfl) (HBY.out) ?_
  rintro r w3 ⟨v1, rfl, hown1, hb3⟩
  refine ⟨_, rfl, ?_⟩
  try simp only [put_list, List.set_cons_zero, List.set_cons_succ]
  refine wpList_run (by kernel_rfl) (.slice A m cb) (w3) (exec_move rfl (by kernel_rfl)) ?_
  try simp only [put_list, List.set_cons_zero, List.set_cons_succ]
  refine push_intsP rfl _ _ rfl w3 w2.heap.size v1 (bs.take off) A ys m cb (by kernel_rfl) (by kernel_rfl) hm (by rw [List.length_take, Nat.min_eq_left hoL]; exact hown1) (hA2.below hb3) hb3.size (by rw [List.length_take]; have := HLB.out; omega) ?_
  intro v2 w4 hown2 hg _
  try simp only [put_list, List.set_cons_zero, List.set_cons_succ]
  try simp only [put_list, List.set_cons_zero, List.set_cons_succ]
  refine wpList_run (by kernel_rfl) (v2) (w4) (exec_assign rfl (by kernel_rfl)) ?_
  refine wpList_nil ?_
  simp only [put_list, List.set_cons_zero, List.set_cons_succ]
  have hb4 : Below w2.heap.size w2 w4 := hb3.grown hg hb3.size (fun k hk => (hown1.lt k hk).1)
  obtain ⟨A4, c4, hv2, hc4, _⟩ := own_slice hown2
  subst hv2
  obtain ⟨n4, hn4e⟩ : ∃ x, x = (bs.take off ++ ys).length := ⟨_, rfl⟩
  have hn4m : n4 = off + m := by rw [hn4e, List.length_append, List.length_take, Nat.min_eq_left hoL, hm]
  obtain ⟨zs, hzs⟩ : ∃ x, x = bs.take off ++ ys := ⟨_, rfl⟩
  rw [← hzs] at hn4e hown2
  rw [← hzs, ← hn4e]
  rw [← hn4e] at hown2
  have x33' : w4.cell? ⟨X, 33, none⟩ = some (.slice Bx L cx) := (hb4.cell (p := ⟨X, 33, none⟩) hXl).trans x33
  have H4 := Lib.hid (And.intro hown2 (And.intro hn4e (And.intro hn4m hzs)))
  have HB4 := Lib.hid hb4
  clear hown1 hb3 hg hown2 hc4 hn4e hn4m hzs hb4 HBY x33 hA2
  try simp only [put_list, List.set_cons_zero, List.set_cons_succ]
  by_cases hnL : n4 < L
  · have hnI : (n4 : Int) < (L : Int) := Int.ofNat_lt.2 hnL
    go_upto_region 11 with (fail)
    have hn4 : n4 ≤ L := by omega
    have hdl : (bs.drop n4).length = L - n4 := by rw [List.length_drop, ← HL.out]
    have hb5 := HB4.out
    have hown4 : w4.ownsRow w2.heap.size 5 1 (.slice A4 n4 c4) zs.length (ints .u8 zs) := by rw [← H4.out.2.1]; exact H4.out.1
    have hcut : SlRead w4 (cutA Bx n4 cx) (ints .u8 (bs.drop n4)) := by
      rw [← ints_dropD]
      exact (HS2.out.2.2.below hb5).cutD (by rw [ints_lenD, ← HL.out]; omega) (by rw [ints_lenD, ← HL.out]; exact hLc)
    refine wp_region_lit ?_
    try simp only [put_list, List.set_cons_zero, List.set_cons_succ]
    refine wpList_run (by kernel_rfl) (.slice A4 n4 c4) (w4) (exec_move rfl (by kernel_rfl)) ?_
    try simp only [put_list, List.set_cons_zero, List.set_cons_succ]
    refine wpList_run (by kernel_rfl) (.pointer (some ⟨X, 33, none⟩)) (w4) (exec_field (vx := .pointer (some ⟨X, 0, none⟩)) rfl (by kernel_rfl) (by kernel_rfl)) ?_
    try simp only [put_list, List.set_cons_zero, List.set_cons_succ]
    refine wpList_run (by kernel_rfl) (.slice Bx L cx) (w4) (exec_load (vx := .pointer (some ⟨X, 33, none⟩)) rfl (by kernel_rfl) (load_slice X 33 w4 25 (fun w => by kernel_rfl) _ x33')) ?_
    try simp only [put_list, List.set_cons_zero, List.set_cons_succ]
    refine wpList_run (by kernel_rfl) (.slice A4 n4 c4) (w4) (exec_move rfl (by kernel_rfl)) ?_
    try simp only [put_list, List.set_cons_zero, List.set_cons_succ]
    refine wpList_run (by kernel_rfl) (.int .i64 (n4 : Int)) (w4) (exec_len (x := Go.Operand.tmp 61) (t := 25) (ty := 3) (vx := .slice A4 n4 c4) (by kernel_rfl) (by kernel_rfl) (by kernel_rfl) (len_slice _ 5 _ Tryd.underlying25 A4 n4 c4 _)) ?_
    try simp only [put_list, List.set_cons_zero, List.set_cons_succ]
    refine wpList_run (by kernel_rfl) (.slice (cutA Bx n4 cx) (L - n4) (cx - n4)) (w4) (exec_slice (vx := .slice Bx L cx) (l := some (.int .i64 (n4 : Int))) (h := none) (m := none) rfl (by kernel_rfl) (slice_sl_l Tryd.underlying25 (by kernel_rfl) Bx L cx n4 _ rfl hn4 w4)) ?_
    try simp only [put_list, List.set_cons_zero, List.set_cons_succ]
    refine push_intsP rfl _ _ rfl w4 w2.heap.size (.slice A4 n4 c4) zs (cutA Bx n4 cx) (bs.drop n4) (L - n4) (cx - n4) (by kernel_rfl) (by kernel_rfl) hdl hown4 hcut hb5.size (by rw [List.length_drop]; have := HLB.out; have := H4.out; have := HL.out; omega) ?_
    intro v6 w6 hown6 hg6 _
    try simp only [put_list, List.set_cons_zero, List.set_cons_succ]
    try simp only [put_list, List.set_cons_zero, List.set_cons_succ]
    refine wpList_run (by kernel_rfl) (v6) (w6) (exec_assign rfl (by kernel_rfl)) ?_
    refine wpList_nil ?_
    simp only [put_list, List.set_cons_zero, List.set_cons_succ]
    have hb6 : Below w2.heap.size w2 w6 := hb5.grown hg6 hb5.size (fun k hk => (hown4.lt k hk).1)
    obtain ⟨A5, c5, hv6, _⟩ := own_slice hown6
    subst hv6
    obtain ⟨n5, hn5⟩ : ∃ x, x = (zs ++ bs.drop n4).length := ⟨_, rfl⟩
    rw [← hn5]
    have hown5 := hown6
    rw [← hn5] at hown5
    have HB6 := Lib.hid hb6
    clear hb6 hown6 hg6 hown4 hcut hdl hb5 hn4
    try simp only [put_list, List.set_cons_zero, List.set_cons_succ]
    have hsW : DsS w6 S B q l (.slice (some ⟨g, 0, none⟩) len c) (es.set i e.used) := HS2.out.1.below (HB6.out)
    have hTW : Turn (dsG S (.slice (some ⟨g, 0, none⟩) len c)) w w6 := HS2.out.2.1.trans (Turn.of_below (F := fun _ => False) (HB6.out)) (fun _ y => y.elim)
    have hov : overD bs off ys = zs ++ bs.drop n4 := by rw [H4.out.2.2.2, H4.out.2.2.1, overD, hm]
    have hownB : w6.ownsRow B 5 1 (.slice A5 n5 c5) (overD bs off ys).length (ints .u8 (overD bs off ys)) := by
      rw [hov, ← hn5]
      exact ownsRow_lower hown5 (Nat.le_trans hBS (by have := HS2.out.2.1.size; exact this))
    have hl5 : n5 = (overD bs off ys).length := by rw [hov]; exact hn5
    have HW := Lib.hid (And.intro hsW (And.intro hTW (And.intro hownB hl5)))
    obtain ⟨hc2, _, hc33, hf33⟩ := HF.out w6 hsW
    have hlt := HH.out.2.2
    rw [← HLN.out] at hlt
    clear hsW hTW hov hownB hl5 hown5 hn5
    go_upto_region 12 with (fail)
    refine wp_region_lit ?_
    try simp only [put_list, List.set_cons_zero, List.set_cons_succ]
    refine wpList_run (by kernel_rfl) (.pointer (some ⟨S, 0, none⟩)) (w6) (exec_move rfl (by kernel_rfl)) ?_
    try simp only [put_list, List.set_cons_zero, List.set_cons_succ]
    refine wpList_run (by kernel_rfl) (.pointer (some ⟨S, 0, none⟩)) (w6) (exec_nil rfl (by kernel_rfl)) ?_
    try simp only [put_list, List.set_cons_zero, List.set_cons_succ]
    refine wpList_run (by kernel_rfl) (.pointer (some ⟨S, 2, none⟩)) (w6) (exec_field (vx := .pointer (some ⟨S, 0, none⟩)) rfl (by kernel_rfl) (by kernel_rfl)) ?_
    try simp only [put_list, List.set_cons_zero, List.set_cons_succ]
    refine wpList_run (by kernel_rfl) (.slice (some ⟨g, 0, none⟩) len c) (w6) (exec_load (vx := .pointer (some ⟨S, 2, none⟩)) rfl (by kernel_rfl) (load_dsl _ _ w6 hc2)) ?_
    try simp only [put_list, List.set_cons_zero, List.set_cons_succ]
    refine wpList_run (by kernel_rfl) (.int .i64 (i : Int)) (w6) (exec_move rfl (by kernel_rfl)) ?_
    try simp only [put_list, List.set_cons_zero, List.set_cons_succ]
    refine wpList_run (by kernel_rfl) (.slice A5 n5 c5) (w6) (exec_move rfl (by kernel_rfl)) ?_
    try simp only [put_list, List.set_cons_zero, List.set_cons_succ]
    refine wpList_run (by kernel_rfl) (.pointer (some ⟨g, 36 * i, none⟩)) (w6) (exec_index (vx := .slice (some ⟨g, 0, none⟩) len c) (vy := .int .i64 (i : Int)) rfl (by kernel_rfl) (idx_D g len c i hlt w6)) ?_
    try simp only [put_list, List.set_cons_zero, List.set_cons_succ]
    refine wpList_run (by kernel_rfl) (.pointer (some ⟨g, 36 * i + 33, none⟩)) (w6) (exec_field (vx := .pointer (some ⟨g, 36 * i, none⟩)) rfl (by kernel_rfl) (field_D2 g _ w6)) ?_
    refine wpList_skip rfl ((w6.setCell ⟨g, 36 * i + 33, none⟩ (.slice A5 n5 c5))) (exec_store (vx := .pointer (some ⟨g, 36 * i + 33, none⟩)) (vy := .slice A5 n5 c5) rfl (by kernel_rfl) (store_slB _ _ _ w6 hc33 hf33)) ?_
    refine wpList_nil ?_
    try simp only [put_list, put_none, List.set_cons_zero, List.set_cons_succ]
    go_wp2_with fail
    go_ret2
    have h5 := HW.out.1
    rw [show len = (es.set i e.used).length by rw [List.length_set]; exact HLN.out] at h5
    obtain ⟨hw1, hw2⟩ := h5.write (e' := ⟨e.f, e.n, .slice A5 n5 c5, overD bs off ys, e.done, 0⟩) (u := .slice A5 n5 c5) HH.out.1 (j := 33) (by decide) (ce_set33 e.used _ _) HW.out.2.2.1
    rw [List.set_set, HH.out.2.1, show (es.set i e.used).length = len by rw [List.length_set]; exact HLN.out.symm] at hw1
    have hw3 := HW.out.2.1.trans hw2 (fun q hq => .inl (.inr (by rw [show q = g from hq]; rfl)))
    rw [← HN.out] at hw1
    have hl5 := HW.out.2.2.2
    refine ⟨by rw [hl5]; rfl, ?_⟩
    first | exact ⟨_, hw1, hw3⟩ | exact ⟨⟨_, hw1⟩, hw3⟩
  · have hnI : ¬ (n4 : Int) < (L : Int) := fun y => hnL (Int.ofNat_lt.1 y)
    obtain ⟨A5, hA5⟩ : ∃ x, x = A4 := ⟨_, rfl⟩
    obtain ⟨c5, hc5⟩ : ∃ x, x = c4 := ⟨_, rfl⟩
    obtain ⟨n5, hn5'⟩ : ∃ x, x = n4 := ⟨_, rfl⟩
    have hn5 : n5 = zs.length := by rw [hn5']; exact H4.out.2.1
    have hown5 := H4.out.1
    rw [← hA5, ← hc5, ← hn5'] at hown5 ⊢
    rw [← hn5'] at hnI
    clear hA5 hc5 hn5'
    have hsW : DsS w4 S B q l (.slice (some ⟨g, 0, none⟩) len c) (es.set i e.used) := HS2.out.1.below (HB4.out)
    have hTW : Turn (dsG S (.slice (some ⟨g, 0, none⟩) len c)) w w4 := HS2.out.2.1.trans (Turn.of_below (F := fun _ => False) (HB4.out)) (fun _ y => y.elim)
    have hov : overD bs off ys = zs := by rw [H4.out.2.2.2, overD, hm, List.drop_of_length_le (by have := HL.out; have := H4.out; omega), List.append_nil]
    have hownB : w4.ownsRow B 5 1 (.slice A5 n5 c5) (overD bs off ys).length (ints .u8 (overD bs off ys)) := by
      rw [hov, ← hn5]
      exact ownsRow_lower hown5 (Nat.le_trans hBS (by have := HS2.out.2.1.size; exact this))
    have hl5 : n5 = (overD bs off ys).length := by rw [hov]; exact hn5
    have HW := Lib.hid (And.intro hsW (And.intro hTW (And.intro hownB hl5)))
    obtain ⟨hc2, _, hc33, hf33⟩ := HF.out w4 hsW
    have hlt := HH.out.2.2
    rw [← HLN.out] at hlt
    clear hsW hTW hov hownB hl5 hown5 hn5
    go_upto_region 12 with (fail)
    refine wp_region_lit ?_
    try simp only [put_list, List.set_cons_zero, List.set_cons_succ]
    refine wpList_run (by kernel_rfl) (.pointer (some ⟨S, 0, none⟩)) (w4) (exec_move rfl (by kernel_rfl)) ?_
    try simp only [put_list, List.set_cons_zero, List.set_cons_succ]
    refine wpList_run (by kernel_rfl) (.pointer (some ⟨S, 0, none⟩)) (w4) (exec_nil rfl (by kernel_rfl)) ?_
    try simp only [put_list, List.set_cons_zero, List.set_cons_succ]
    refine wpList_run (by kernel_rfl) (.pointer (some ⟨S, 2, none⟩)) (w4) (exec_field (vx := .pointer (some ⟨S, 0, none⟩)) rfl (by kernel_rfl) (by kernel_rfl)) ?_
    try simp only [put_list, List.set_cons_zero, List.set_cons_succ]
    refine wpList_run (by kernel_rfl) (.slice (some ⟨g, 0, none⟩) len c) (w4) (exec_load (vx := .pointer (some ⟨S, 2, none⟩)) rfl (by kernel_rfl) (load_dsl _ _ w4 hc2)) ?_
    try simp only [put_list, List.set_cons_zero, List.set_cons_succ]
    refine wpList_run (by kernel_rfl) (.int .i64 (i : Int)) (w4) (exec_move rfl (by kernel_rfl)) ?_
    try simp only [put_list, List.set_cons_zero, List.set_cons_succ]
    refine wpList_run (by kernel_rfl) (.slice A5 n5 c5) (w4) (exec_move rfl (by kernel_rfl)) ?_
    try simp only [put_list, List.set_cons_zero, List.set_cons_succ]
    refine wpList_run (by kernel_rfl) (.pointer (some ⟨g, 36 * i, none⟩)) (w4) (exec_index (vx := .slice (some ⟨g, 0, none⟩) len c) (vy := .int .i64 (i : Int)) rfl (by kernel_rfl) (idx_D g len c i hlt w4)) ?_
    try simp only [put_list, List.set_cons_zero, List.set_cons_succ]
    refine wpList_run (by kernel_rfl) (.pointer (some ⟨g, 36 * i + 33, none⟩)) (w4) (exec_field (vx := .pointer (some ⟨g, 36 * i, none⟩)) rfl (by kernel_rfl) (field_D2 g _ w4)) ?_
    refine wpList_skip rfl ((w4.setCell ⟨g, 36 * i + 33, none⟩ (.slice A5 n5 c5))) (exec_store (vx := .pointer (some ⟨g, 36 * i + 33, none⟩)) (vy := .slice A5 n5 c5) rfl (by kernel_rfl) (store_slB _ _ _ w4 hc33 hf33)) ?_
    refine wpList_nil ?_
    try simp only [put_list, put_none, List.set_cons_zero, List.set_cons_succ]
    go_wp2_with fail
    go_ret2
    have h5 := HW.out.1
    rw [show len = (es.set i e.used).length by rw [List.length_set]; exact HLN.out] at h5
    obtain ⟨hw1, hw2⟩ := h5.write (e' := ⟨e.f, e.n, .slice A5 n5 c5, overD bs off ys, e.done, 0⟩) (u := .slice A5 n5 c5) HH.out.1 (j := 33) (by decide) (ce_set33 e.used _ _) HW.out.2.2.1
    rw [List.set_set, HH.out.2.1, show (es.set i e.used).length = len by rw [List.length_set]; exact HLN.out.symm] at hw1
    have hw3 := HW.out.2.1.trans hw2 (fun q hq => .inl (.inr (by rw [show q = g from hq]; rfl)))
    rw [← HN.out] at hw1
    have hl5 := HW.out.2.2.2
    refine ⟨by rw [hl5]; rfl, ?_⟩
    first | exact ⟨_, hw1, hw3⟩ | exact ⟨⟨_, hw1⟩, hw3⟩
end
theorem store_blD (b o : Nat) (v : Bool) (w : World) {u : Value} (h : w.cell? ⟨b, o, none⟩ = some u) (hf : w.frozen? ⟨b, o, none⟩ = false) : (Instr.storeAt 4 (.pointer (some ⟨b, o, none⟩)) (.bool v)).run Tryd.prog w = .ok () (w.setCell ⟨b, o, none⟩ (.bool v)) := by
  have h2 := Tryd.underlying4
  go_simp
section
variable {w : World} {S B : Nat} {q l : Int} {V : Value} {es : List Ds}
set_option maxRecDepth 100000 in
set_option maxHeartbeats 1600000 in
theorem dcommit_done (h : DsS w S B q l V es) (hn : es.length ≤ 1000) (k : Nat → BitVec 8) {i : Nat} {e : Ds} (hf : es.findIdx? (Ds.is k) = some i) (he : es[i]? = some e) (hd : e.done = true) :
    Calls Tryd.prog 23 #[.pointer (some ⟨S, 0, none⟩), .agg (arr8 32 k)] w fun r w' => r = .returned (.int .i64 0) ∧ DsS w' S B q l V (es.set i e.used) ∧ Turn (dsG S V) w w' := by
  have hb0 := below_alc w (.cells (arr8 32 k) 37)
  have HP := Lib.hid (dplace_some (h.below hb0) hn k hf he)
  have hlt : i < es.length := (List.getElem?_eq_some_iff.1 he).1
  obtain ⟨g, c, rfl⟩ := h.form (by omega)
  obtain ⟨A, cA, hD, _⟩ := own_slice (h.byt e (List.mem_of_getElem? he))
  have he2 : (es.set i e.used)[i]? = some e.used := by rw [List.getElem?_set_self hlt]
  have HF : Hid (∀ W, DsS W S B q l (.slice (some ⟨g, 0, none⟩) es.length c) (es.set i e.used) → W.cell? ⟨S, 2, none⟩ = some (.slice (some ⟨g, 0, none⟩) es.length c) ∧ W.cell? ⟨g, 36 * i + 32, none⟩ = some (.int .i64 e.n) ∧ W.cell? ⟨g, 36 * i + 33, none⟩ = some (.slice A e.bs.length cA) ∧ W.cell? ⟨g, 36 * i + 34, none⟩ = some (.bool e.done) ∧ W.frozen? ⟨g, 36 * i + 34, none⟩ = false) := Lib.hid fun W hW => by
    have h2 := hW
    rw [show es.length = (es.set i e.used).length by simp] at h2
    exact ⟨hW.cell2, h2.row he2 (by decide) (ce_32 e.used), by rw [← hD]; exact h2.row he2 (by decide) (ce_33 e.used), h2.row he2 (by decide) (ce_34 e.used), h2.own.frozenAt _⟩
  obtain ⟨len, hlen⟩ : ∃ x, x = es.length := ⟨_, rfl⟩
  rw [← hlen] at hlt HF HP ⊢
  rw [hd] at HF
  have hneg : ¬ (i : Int) < 0 := by omega
  obtain ⟨dn, hdn⟩ : ∃ x, x = true := ⟨_, rfl⟩
  rw [← hdn] at HF
  clear h hf he he2 hD hlen hb0 hd
  go_enter Tryd.func23, Tryd.ntmps23
  go_upto_region 4 with (first | (refine wpList_load_row rfl 37 _ rfl w.heap.size rfl _ _ _ _ (heap_alloc_new _ _) Tryd.underlying37 rfl (by rw [arr8_size]; kernel_rfl) ?_) | (go_at_call 41; refine HP.out.mono ?_; rintro r w1 ⟨rfl, hs1, ht1⟩; have HS := Lib.hid (And.intro hs1 ht1); clear hs1 ht1))
  obtain ⟨hc2, _, _, hc34, _⟩ := HF.out w1 HS.out.1
  refine wp_region_lit ?_
  try simp only [put_list, List.set_cons_zero, List.set_cons_succ]
  refine wpList_run (by kernel_rfl) (.pointer (some ⟨S, 0, none⟩)) (w1) (exec_move rfl (by kernel_rfl)) ?_
  try simp only [put_list, List.set_cons_zero, List.set_cons_succ]
  refine wpList_run (by kernel_rfl) (.pointer (some ⟨S, 0, none⟩)) (w1) (exec_nil rfl (by kernel_rfl)) ?_
  try simp only [put_list, List.set_cons_zero, List.set_cons_succ]
  refine wpList_run (by kernel_rfl) (.pointer (some ⟨S, 2, none⟩)) (w1) (exec_field (vx := .pointer (some ⟨S, 0, none⟩)) rfl (by kernel_rfl) (by kernel_rfl)) ?_
  try simp only [put_list, List.set_cons_zero, List.set_cons_succ]
  refine wpList_run (by kernel_rfl) (.slice (some ⟨g, 0, none⟩) len c) (w1) (exec_load (vx := .pointer (some ⟨S, 2, none⟩)) rfl (by kernel_rfl) (load_dsl _ _ w1 hc2)) ?_
  try simp only [put_list, List.set_cons_zero, List.set_cons_succ]
  refine wpList_run (by kernel_rfl) (.int .i64 (i : Int)) (w1) (exec_move rfl (by kernel_rfl)) ?_
  try simp only [put_list, List.set_cons_zero, List.set_cons_succ]
  refine wpList_run (by kernel_rfl) (.pointer (some ⟨g, 36 * i, none⟩)) (w1) (exec_index (vx := .slice (some ⟨g, 0, none⟩) len c) (vy := .int .i64 (i : Int)) rfl (by kernel_rfl) (idx_D g len c i hlt w1)) ?_
  try simp only [put_list, List.set_cons_zero, List.set_cons_succ]
  refine wpList_run (by kernel_rfl) (.pointer (some ⟨g, 36 * i + 34, none⟩)) (w1) (exec_field (vx := .pointer (some ⟨g, 36 * i, none⟩)) rfl (by kernel_rfl) (field_D3 g _ w1)) ?_
  try simp only [put_list, List.set_cons_zero, List.set_cons_succ]
  refine wpList_run (by kernel_rfl) (.bool dn) (w1) (exec_load (vx := .pointer (some ⟨g, 36 * i + 34, none⟩)) rfl (by kernel_rfl) (load_bool g _ w1 _ hc34)) ?_
  try simp only [put_list, List.set_cons_zero, List.set_cons_succ]
  refine wpList_run (by kernel_rfl) (.bool dn) (w1) (exec_assign rfl (by kernel_rfl)) ?_
  refine wpList_nil ?_
  simp only [put_list, List.set_cons_zero, List.set_cons_succ]
  rw [hdn]
  clear hc2 hc34
  go_wp2_with fail
  go_ret
  exact ⟨rfl, HS.out.1, turn_box HS.out.2⟩
set_option maxRecDepth 100000 in
set_option maxHeartbeats 1600000 in
theorem dcommit_ok (h : DsS w S B q l V es) (hn : es.length ≤ 1000) (k : Nat → BitVec 8) {i : Nat} {e : Ds} (hf : es.findIdx? (Ds.is k) = some i) (he : es[i]? = some e) (hd : e.done = false) (zs : List (BitVec 8)) (hys : e.bs = bys zs) (hbn : (e.bs.length : Int) = e.n) (hl : e.bs.length ≤ 100000) (hid : (idk (shaOf zs) == idk k) = true) :
    Calls Tryd.prog 23 #[.pointer (some ⟨S, 0, none⟩), .agg (arr8 32 k)] w fun r w' => r = .returned (.int .i64 0) ∧ DsS w' S B q l V (es.set i ⟨e.f, e.n, e.D, e.bs, true, 0⟩) ∧ Turn (dsG S V) w w' := by
  have hb0 := below_alc w (.cells (arr8 32 k) 37)
  have HP := Lib.hid (dplace_some (h.below hb0) hn k hf he)
  have hlt : i < es.length := (List.getElem?_eq_some_iff.1 he).1
  obtain ⟨g, c, rfl⟩ := h.form (by omega)
  obtain ⟨A, cA, hD, _⟩ := own_slice (h.byt e (List.mem_of_getElem? he))
  have he2 : (es.set i e.used)[i]? = some e.used := by rw [List.getElem?_set_self hlt]
  have HF : Hid (∀ W, DsS W S B q l (.slice (some ⟨g, 0, none⟩) es.length c) (es.set i e.used) → W.cell? ⟨S, 2, none⟩ = some (.slice (some ⟨g, 0, none⟩) es.length c) ∧ W.cell? ⟨g, 36 * i + 32, none⟩ = some (.int .i64 e.n) ∧ W.cell? ⟨g, 36 * i + 33, none⟩ = some (.slice A e.bs.length cA) ∧ W.cell? ⟨g, 36 * i + 34, none⟩ = some (.bool e.done) ∧ W.frozen? ⟨g, 36 * i + 34, none⟩ = false) := Lib.hid fun W hW => by
    have h2 := hW
    rw [show es.length = (es.set i e.used).length by simp] at h2
    exact ⟨hW.cell2, h2.row he2 (by decide) (ce_32 e.used), by rw [← hD]; exact h2.row he2 (by decide) (ce_33 e.used), h2.row he2 (by decide) (ce_34 e.used), h2.own.frozenAt _⟩
  have HB : Hid (∀ W, DsS W S B q l (.slice (some ⟨g, 0, none⟩) es.length c) (es.set i e.used) → SlRead W A (ints .u8 (bys zs)) ∧ W.ownsRow B 5 1 e.D e.bs.length (ints .u8 e.bs)) := Lib.hid fun W hW => by
    have h2 := hW.byt e.used (List.mem_of_getElem? he2)
    refine ⟨?_, h2⟩
    have h3 : W.ownsRow B 5 1 e.D e.bs.length (ints .u8 e.bs) := h2
    rw [hD, hys] at h3
    exact own_read h3
  have hxb : (w.alloc (.cells (arr8 32 k) 37)).heap[w.heap.size]? = some (.cells (arr8 32 k) 37 (0, 0)) := heap1_0 w _
  have HX : Hid (∀ W1, Turn (fun x => (Value.slice (some ⟨g, 0, none⟩) es.length c).ownBlock = some x) (w.alloc (.cells (arr8 32 k) 37)) W1 → W1.heap[w.heap.size]? = some (.cells (arr8 32 k) 37 (0, 0))) := Lib.hid fun W1 hT => (hT.block _ (lt_heapD hxb) (fun y => ownD_ne ((h.below hb0).own) hxb (by decide) y.symm)).trans hxb
  have hzl : zs.length = e.bs.length := by rw [hys, bys_length]
  obtain ⟨len, hlen⟩ : ∃ x, x = es.length := ⟨_, rfl⟩
  obtain ⟨L, hL⟩ : ∃ x, x = e.bs.length := ⟨_, rfl⟩
  rw [← hlen] at hlt HF HP HB HX ⊢
  rw [← hbn, hd, ← hL] at HF
  rw [← hL] at hzl hl
  have HH := Lib.hid (And.intro he2 hlen)
  have hneg : ¬ (i : Int) < 0 := by omega
  clear h hf he he2 hD hlen hb0 hd hbn hys hxb hL
  go_enter Tryd.func23, Tryd.ntmps23
  go_upto_region 4 with (first | (refine wpList_load_row rfl 37 _ rfl w.heap.size rfl _ _ _ _ (heap_alloc_new _ _) Tryd.underlying37 rfl (by rw [arr8_size]; kernel_rfl) ?_) | (go_at_call 41; refine HP.out.mono ?_; rintro r w1 ⟨rfl, hs1, ht1⟩; have HS := Lib.hid (And.intro hs1 ht1); clear hs1 ht1))
  obtain ⟨hc2, hc32, hc33, hc34, _⟩ := HF.out w1 HS.out.1
  obtain ⟨dn, hdn⟩ : ∃ x, x = false := ⟨_, rfl⟩
  rw [← hdn] at hc34
  refine wp_region_lit ?_
  try simp only [put_list, List.set_cons_zero, List.set_cons_succ]
  refine wpList_run (by kernel_rfl) (.pointer (some ⟨S, 0, none⟩)) (w1) (exec_move rfl (by kernel_rfl)) ?_
  try simp only [put_list, List.set_cons_zero, List.set_cons_succ]
  refine wpList_run (by kernel_rfl) (.pointer (some ⟨S, 0, none⟩)) (w1) (exec_nil rfl (by kernel_rfl)) ?_
  try simp only [put_list, List.set_cons_zero, List.set_cons_succ]
  refine wpList_run (by kernel_rfl) (.pointer (some ⟨S, 2, none⟩)) (w1) (exec_field (vx := .pointer (some ⟨S, 0, none⟩)) rfl (by kernel_rfl) (by kernel_rfl)) ?_
  try simp only [put_list, List.set_cons_zero, List.set_cons_succ]
  refine wpList_run (by kernel_rfl) (.slice (some ⟨g, 0, none⟩) len c) (w1) (exec_load (vx := .pointer (some ⟨S, 2, none⟩)) rfl (by kernel_rfl) (load_dsl _ _ w1 hc2)) ?_
  try simp only [put_list, List.set_cons_zero, List.set_cons_succ]
  refine wpList_run (by kernel_rfl) (.int .i64 (i : Int)) (w1) (exec_move rfl (by kernel_rfl)) ?_
  try simp only [put_list, List.set_cons_zero, List.set_cons_succ]
  refine wpList_run (by kernel_rfl) (.pointer (some ⟨g, 36 * i, none⟩)) (w1) (exec_index (vx := .slice (some ⟨g, 0, none⟩) len c) (vy := .int .i64 (i : Int)) rfl (by kernel_rfl) (idx_D g len c i hlt w1)) ?_
  try simp only [put_list, List.set_cons_zero, List.set_cons_succ]
  refine wpList_run (by kernel_rfl) (.pointer (some ⟨g, 36 * i + 34, none⟩)) (w1) (exec_field (vx := .pointer (some ⟨g, 36 * i, none⟩)) rfl (by kernel_rfl) (field_D3 g _ w1)) ?_
  try simp only [put_list, List.set_cons_zero, List.set_cons_succ]
  refine wpList_run (by kernel_rfl) (.bool dn) (w1) (exec_load (vx := .pointer (some ⟨g, 36 * i + 34, none⟩)) rfl (by kernel_rfl) (load_bool g _ w1 _ hc34)) ?_
  try simp only [put_list, List.set_cons_zero, List.set_cons_succ]
  refine wpList_run (by kernel_rfl) (.bool dn) (w1) (exec_assign rfl (by kernel_rfl)) ?_
  refine wpList_nil ?_
  simp only [put_list, List.set_cons_zero, List.set_cons_succ]
  rw [hdn]
  replace hc2 : w1.drew.cell? ⟨S, 2, none⟩ = some (.slice (some ⟨g, 0, none⟩) len c) := hc2
  replace hc32 : w1.drew.cell? ⟨g, 36 * i + 32, none⟩ = some (.int .i64 (L : Int)) := hc32
  replace hc33 : w1.drew.cell? ⟨g, 36 * i + 33, none⟩ = some (.slice A L cA) := hc33
  clear hc34
  go_upto_region 6 with (fail)
  refine wp_region_noPanic ?_
  refine wp_region_held_drew (S := fun V => V = w1.drew) (by kernel_rfl) (rfl) (fun hHeld => ?_)
  refine held_move 0 (Go.Operand.tmp 0) (some 22) (.pointer (some ⟨S, 0, none⟩)) (by kernel_rfl) (by kernel_rfl) (by kernel_rfl) (by kernel_rfl) (by kernel_rfl) (fun _ _ _ _ _ h => h) hHeld ?_
  refine held_nil 1 (Go.Operand.tmp 22) (some 23) ⟨S, 0, none⟩ (by kernel_rfl) (by kernel_rfl) (by kernel_rfl) (by kernel_rfl) (by kernel_rfl) (fun _ _ _ _ _ h => h) hHeld ?_
  refine held_field 2 90 (Go.Operand.tmp 23) 2 (some 24) (.pointer (some ⟨S, 0, none⟩)) (.pointer (some ⟨S, 2, none⟩)) (by kernel_rfl) (by kernel_rfl) (fun w => by kernel_rfl) (by kernel_rfl) (by kernel_rfl) (by kernel_rfl) (fun _ _ _ _ _ h => h) hHeld ?_
  refine held_cell 3 88 (Go.Operand.tmp 24) (some 25) (.pointer (some ⟨S, 2, none⟩)) (.slice (some ⟨g, 0, none⟩) len c) (by kernel_rfl) (by kernel_rfl) (fun V hV => by rw [hV]; exact load_dsl _ _ w1.drew hc2) (by kernel_rfl) (by kernel_rfl) (by kernel_rfl) (fun _ _ _ _ _ h => h) hHeld ?_
  refine held_move 4 (Go.Operand.tmp 5) (some 26) (.int .i64 (i : Int)) (by kernel_rfl) (by kernel_rfl) (by kernel_rfl) (by kernel_rfl) (by kernel_rfl) (fun _ _ _ _ _ h => h) hHeld ?_
  refine held_index 5 88 (Go.Operand.tmp 25) (Go.Operand.tmp 26) (some 27) (.slice (some ⟨g, 0, none⟩) len c) (.int .i64 (i : Int)) (.pointer (some ⟨g, 36 * i, none⟩)) (by kernel_rfl) (by kernel_rfl) (idx_D g len c i hlt) (by kernel_rfl) (by kernel_rfl) (by kernel_rfl) (fun _ _ _ _ _ h => h) hHeld ?_
  refine held_field 6 92 (Go.Operand.tmp 27) 2 (some 28) (.pointer (some ⟨g, 36 * i, none⟩)) (.pointer (some ⟨g, 36 * i + 33, none⟩)) (by kernel_rfl) (by kernel_rfl) (field_D2 g _) (by kernel_rfl) (by kernel_rfl) (by kernel_rfl) (fun _ _ _ _ _ h => h) hHeld ?_
  refine held_cell 7 25 (Go.Operand.tmp 28) (some 29) (.pointer (some ⟨g, 36 * i + 33, none⟩)) (.slice A L cA) (by kernel_rfl) (by kernel_rfl) (fun V hV => by rw [hV]; exact load_slice g _ w1.drew 25 (fun w => by kernel_rfl) _ hc33) (by kernel_rfl) (by kernel_rfl) (by kernel_rfl) (fun _ _ _ _ _ h => h) hHeld ?_
  refine held_any 8 (Go.Op.call { callee := Go.Callee.builtin Go.Builtin.len, args := #[Go.Operand.tmp 29], argTypes := #[25] }) (some 30) (.int .i64 (L : Int)) (by kernel_rfl) (by kernel_rfl) (by kernel_rfl) (by kernel_rfl) (fun _ _ _ _ _ h => h) hHeld (fun o ho w _ => exec_lenD (vx := .slice A L cA) ho (by kernel_rfl) (fun _ => len_slice _ 5 _ Tryd.underlying25 A L cA _)) ?_
  refine held_move 9 (Go.Operand.tmp 0) (some 31) (.pointer (some ⟨S, 0, none⟩)) (by kernel_rfl) (by kernel_rfl) (by kernel_rfl) (by kernel_rfl) (by kernel_rfl) (fun _ _ _ _ _ h => h) hHeld ?_
  refine held_nil 10 (Go.Operand.tmp 31) (some 32) ⟨S, 0, none⟩ (by kernel_rfl) (by kernel_rfl) (by kernel_rfl) (by kernel_rfl) (by kernel_rfl) (fun _ _ _ _ _ h => h) hHeld ?_
  refine held_field 11 90 (Go.Operand.tmp 32) 2 (some 33) (.pointer (some ⟨S, 0, none⟩)) (.pointer (some ⟨S, 2, none⟩)) (by kernel_rfl) (by kernel_rfl) (fun w => by kernel_rfl) (by kernel_rfl) (by kernel_rfl) (by kernel_rfl) (fun _ _ _ _ _ h => h) hHeld ?_
  refine held_cell 12 88 (Go.Operand.tmp 33) (some 34) (.pointer (some ⟨S, 2, none⟩)) (.slice (some ⟨g, 0, none⟩) len c) (by kernel_rfl) (by kernel_rfl) (fun V hV => by rw [hV]; exact load_dsl _ _ w1.drew hc2) (by kernel_rfl) (by kernel_rfl) (by kernel_rfl) (fun _ _ _ _ _ h => h) hHeld ?_
  refine held_move 13 (Go.Operand.tmp 5) (some 35) (.int .i64 (i : Int)) (by kernel_rfl) (by kernel_rfl) (by kernel_rfl) (by kernel_rfl) (by kernel_rfl) (fun _ _ _ _ _ h => h) hHeld ?_
  refine held_index 14 88 (Go.Operand.tmp 34) (Go.Operand.tmp 35) (some 36) (.slice (some ⟨g, 0, none⟩) len c) (.int .i64 (i : Int)) (.pointer (some ⟨g, 36 * i, none⟩)) (by kernel_rfl) (by kernel_rfl) (idx_D g len c i hlt) (by kernel_rfl) (by kernel_rfl) (by kernel_rfl) (fun _ _ _ _ _ h => h) hHeld ?_
  refine held_field 15 92 (Go.Operand.tmp 36) 1 (some 37) (.pointer (some ⟨g, 36 * i, none⟩)) (.pointer (some ⟨g, 36 * i + 32, none⟩)) (by kernel_rfl) (by kernel_rfl) (field_D1 g _) (by kernel_rfl) (by kernel_rfl) (by kernel_rfl) (fun _ _ _ _ _ h => h) hHeld ?_
  refine held_cell 16 3 (Go.Operand.tmp 37) (some 38) (.pointer (some ⟨g, 36 * i + 32, none⟩)) (.int .i64 (L : Int)) (by kernel_rfl) (by kernel_rfl) (fun V hV => by rw [hV]; exact load_i64 g _ w1.drew _ hc32) (by kernel_rfl) (by kernel_rfl) (by kernel_rfl) (fun _ _ _ _ _ h => h) hHeld ?_
  refine held_bin 17 Go.BinOp.lss 3 (Go.Operand.tmp 30) (Go.Operand.tmp 38) 3 (some 39) (.int .i64 (L : Int)) (.int .i64 (L : Int)) (.bool false) (by kernel_rfl) (by kernel_rfl) (fun w => by rw [lss_i64 _ _ _ w _ _, decide_eq_false (Int.lt_irrefl _)]) (by kernel_rfl) (by kernel_rfl) (by kernel_rfl) (fun _ _ _ _ _ h => h) hHeld ?_
  refine held_assign 18 (Go.Operand.tmp 39) (some 21) (.bool false) (by kernel_rfl) (by kernel_rfl) (by kernel_rfl) (by kernel_rfl) (by kernel_rfl) (fun _ _ _ _ _ h => h) hHeld ?_
  refine wpAnyH_done (by kernel_rfl) ?_ _
  refine NoPanic.normal ?_
  try simp only [Act.put, List.setIfInBounds_toArray, List.set_cons_zero, List.set_cons_succ]
  clear hc2 hc32 hc33 hHeld
  go_upto_region 8 with (fail)
  obtain ⟨bx, hbx⟩ : ∃ b, b = w.heap.size := ⟨_, rfl⟩
  obtain ⟨w2, hw2⟩ : ∃ W, W = w1.drew := ⟨_, rfl⟩
  have hT2 : Turn (dsG S (.slice (some ⟨g, 0, none⟩) len c)) w w2.drew := by rw [hw2]; exact (turn_box HS.out.2).trans (Turn.of_below (F := fun _ => False) (Below.drew (Below.drew (Below.refl _ _)))) (fun _ y => y.elim)
  have hbx2 : w2.drew.heap[bx]? = some (.cells (arr8 32 k) 37 (0, 0)) := by rw [hw2, hbx]; exact HX.out w1 HS.out.2
  replace HS : Hid (DsS w2.drew S B q l (.slice (some ⟨g, 0, none⟩) len c) (es.set i e.used)) := by rw [hw2]; exact Lib.hid (HS.out.1.below (Below.drew (Below.drew (Below.refl _ _))))
  rw [← hbx, ← hw2]
  obtain ⟨d2, _, d33, _, _⟩ := HF.out _ HS.out
  have lS := lt_heapD HS.out.st
  have lg := World.block_lt_of_cell? _ _ d33
  have lX := lt_heapD hbx2
  have dx : w2.drew.rangeAt bx 0 (arr8 32 k).toList := range_new (cs := (arr8 32 k).toList) (by simpa using hbx2)
  have HSM : Hid (∀ V, Below w2.drew.heap.size w2.drew V → Calls Tryd.prog 17 #[.slice A L cA] V fun e w' => e = .returned (.agg (arr8 32 (shaOf zs))) ∧ Below V.heap.size V w') := Lib.hid fun V hV => by
    have := dsum_any A zs cA V ((HB.out _ HS.out).1.below hV) (by omega)
    rwa [hzl] at this
  have HT2 := Lib.hid hT2
  clear hbx hw2 hT2 hbx2 HX
  refine wp_region_noPanic ?_
  refine wp_region_held_drew (S := fun V => Below w2.drew.heap.size w2.drew V) (by kernel_rfl) (Below.refl _ _) (fun hHeld => ?_)
  refine held_move 0 (Go.Operand.tmp 0) (some 41) (.pointer (some ⟨S, 0, none⟩)) (by kernel_rfl) (by kernel_rfl) (by kernel_rfl) (by kernel_rfl) (by kernel_rfl) (fun _ _ _ _ _ h => h) hHeld ?_
  refine held_nil 1 (Go.Operand.tmp 41) (some 42) ⟨S, 0, none⟩ (by kernel_rfl) (by kernel_rfl) (by kernel_rfl) (by kernel_rfl) (by kernel_rfl) (fun _ _ _ _ _ h => h) hHeld ?_
  refine held_field 2 90 (Go.Operand.tmp 42) 2 (some 43) (.pointer (some ⟨S, 0, none⟩)) (.pointer (some ⟨S, 2, none⟩)) (by kernel_rfl) (by kernel_rfl) (fun w => by kernel_rfl) (by kernel_rfl) (by kernel_rfl) (by kernel_rfl) (fun _ _ _ _ _ h => h) hHeld ?_
  refine held_cell 3 88 (Go.Operand.tmp 43) (some 44) (.pointer (some ⟨S, 2, none⟩)) (.slice (some ⟨g, 0, none⟩) len c) (by kernel_rfl) (by kernel_rfl) (fun V hV => load_dsl _ _ V ((hV.cell (p := ⟨S, 2, none⟩) lS).trans d2)) (by kernel_rfl) (by kernel_rfl) (by kernel_rfl) (fun _ _ _ _ _ h => h) hHeld ?_
  refine held_move 4 (Go.Operand.tmp 5) (some 45) (.int .i64 (i : Int)) (by kernel_rfl) (by kernel_rfl) (by kernel_rfl) (by kernel_rfl) (by kernel_rfl) (fun _ _ _ _ _ h => h) hHeld ?_
  refine held_index 5 88 (Go.Operand.tmp 44) (Go.Operand.tmp 45) (some 46) (.slice (some ⟨g, 0, none⟩) len c) (.int .i64 (i : Int)) (.pointer (some ⟨g, 36 * i, none⟩)) (by kernel_rfl) (by kernel_rfl) (idx_D g len c i hlt) (by kernel_rfl) (by kernel_rfl) (by kernel_rfl) (fun _ _ _ _ _ h => h) hHeld ?_
  refine held_field 6 92 (Go.Operand.tmp 46) 2 (some 47) (.pointer (some ⟨g, 36 * i, none⟩)) (.pointer (some ⟨g, 36 * i + 33, none⟩)) (by kernel_rfl) (by kernel_rfl) (field_D2 g _) (by kernel_rfl) (by kernel_rfl) (by kernel_rfl) (fun _ _ _ _ _ h => h) hHeld ?_
  refine held_cell 7 25 (Go.Operand.tmp 47) (some 48) (.pointer (some ⟨g, 36 * i + 33, none⟩)) (.slice A L cA) (by kernel_rfl) (by kernel_rfl) (fun V hV => load_slice g _ V 25 (fun w => by kernel_rfl) _ ((hV.cell (p := ⟨g, 36 * i + 33, none⟩) lg).trans d33)) (by kernel_rfl) (by kernel_rfl) (by kernel_rfl) (fun _ _ _ _ _ h => h) hHeld ?_
  refine held_cell 9 37 (Go.Operand.tmp 3) (some 50) (.pointer (some ⟨bx, 0, none⟩)) (.agg (arr8 32 k)) (by kernel_rfl) (by kernel_rfl) (fun V hV => load_idD bx 0 k V (rangeAt_below dx hV lX)) (by kernel_rfl) (by kernel_rfl) (by kernel_rfl) (fun _ _ _ _ _ h => h) hHeld ?_
  refine held_call 8 17 #[Go.Operand.tmp 48] #[25] (some 49) #[.slice A L cA] _ (by kernel_rfl) (by kernel_rfl) (by kernel_rfl) (by kernel_rfl) (HSM.out _ hHeld) ?_
  rintro r Y ⟨rfl, hbY⟩
  refine ⟨_, rfl, hHeld.trans (hbY.mono hHeld.size), fun hHeld => ?_⟩
  refine held_any 10 (Go.Op.binOp Go.BinOp.neq 37 (Go.Operand.tmp 49) (Go.Operand.tmp 50) 37) (some 51) (.bool false) (by kernel_rfl) (by kernel_rfl) (by kernel_rfl) (by kernel_rfl) (fun _ _ _ _ _ h => h) hHeld (fun o ho w hw => exec_eqrow (k := .neq) (cx := arr8 32 (shaOf zs)) (cy := arr8 32 k) (b := true) (.inr rfl) ho (by kernel_rfl) (by kernel_rfl) (by rw [← hid]; exact eq_idsD (shaOf zs) k w)) ?_
  refine held_assign 11 (Go.Operand.tmp 51) (some 40) (.bool false) (by kernel_rfl) (by kernel_rfl) (by kernel_rfl) (by kernel_rfl) (by kernel_rfl) (fun _ _ _ _ _ h => h) hHeld ?_
  refine wpAnyH_done (by kernel_rfl) ?_ _
  refine NoPanic.normal ?_
  try simp only [Act.put, List.setIfInBounds_toArray, List.set_cons_zero, List.set_cons_succ]
  have hs4 := HS.out.below hHeld
  obtain ⟨e2, _, _, e34, f34⟩ := HF.out _ hs4
  have HV := Lib.hid (And.intro hs4 hHeld)
  obtain ⟨w4, hw4⟩ : ∃ W, W = Y := ⟨_, rfl⟩
  rw [← hw4] at e2 e34 f34 HV ⊢
  clear d2 d33 lS lg lX dx hHeld hs4 hw4
  go_upto_region 10 with (fail)
  refine wp_region_lit ?_
  try simp only [put_list, List.set_cons_zero, List.set_cons_succ]
  refine wpList_run (by kernel_rfl) (.pointer (some ⟨S, 0, none⟩)) (w4) (exec_move rfl (by kernel_rfl)) ?_
  try simp only [put_list, List.set_cons_zero, List.set_cons_succ]
  refine wpList_run (by kernel_rfl) (.pointer (some ⟨S, 0, none⟩)) (w4) (exec_nil rfl (by kernel_rfl)) ?_
  try simp only [put_list, List.set_cons_zero, List.set_cons_succ]
  refine wpList_run (by kernel_rfl) (.pointer (some ⟨S, 2, none⟩)) (w4) (exec_field (vx := .pointer (some ⟨S, 0, none⟩)) rfl (by kernel_rfl) (by kernel_rfl)) ?_
  try simp only [put_list, List.set_cons_zero, List.set_cons_succ]
  refine wpList_run (by kernel_rfl) (.slice (some ⟨g, 0, none⟩) len c) (w4) (exec_load (vx := .pointer (some ⟨S, 2, none⟩)) rfl (by kernel_rfl) (load_dsl _ _ w4 e2)) ?_
  try simp only [put_list, List.set_cons_zero, List.set_cons_succ]
  refine wpList_run (by kernel_rfl) (.int .i64 (i : Int)) (w4) (exec_move rfl (by kernel_rfl)) ?_
  try simp only [put_list, List.set_cons_zero, List.set_cons_succ]
  refine wpList_run (by kernel_rfl) (.pointer (some ⟨g, 36 * i, none⟩)) (w4) (exec_index (vx := .slice (some ⟨g, 0, none⟩) len c) (vy := .int .i64 (i : Int)) rfl (by kernel_rfl) (idx_D g len c i hlt w4)) ?_
  try simp only [put_list, List.set_cons_zero, List.set_cons_succ]
  refine wpList_run (by kernel_rfl) (.pointer (some ⟨g, 36 * i + 34, none⟩)) (w4) (exec_field (vx := .pointer (some ⟨g, 36 * i, none⟩)) rfl (by kernel_rfl) (field_D3 g _ w4)) ?_
  refine wpList_skip rfl ((w4.setCell ⟨g, 36 * i + 34, none⟩ (.bool true))) (exec_store (vx := .pointer (some ⟨g, 36 * i + 34, none⟩)) (vy := Go.Value.bool true) rfl (by kernel_rfl) (store_blD _ _ _ w4 e34 f34)) ?_
  refine wpList_nil ?_
  try simp only [put_list, put_none, List.set_cons_zero, List.set_cons_succ]
  go_wp2_with fail
  go_ret
  have h5 := HV.out.1
  rw [show len = (es.set i e.used).length by rw [List.length_set]; exact HH.out.2] at h5
  obtain ⟨hw1, hw2⟩ := h5.write (e' := ⟨e.f, e.n, e.D, e.bs, true, 0⟩) (u := .bool true) HH.out.1 (j := 34) (by decide) (ce_set34 e.used true) (HB.out _ HV.out.1).2
  rw [List.set_set, show (es.set i e.used).length = len by rw [List.length_set]; exact HH.out.2.symm] at hw1
  exact ⟨rfl, hw1, (HT2.out.trans (Turn.of_below (F := fun _ => False) HV.out.2) (fun _ y => y.elim)).trans hw2 (fun q hq => .inl (.inr (by rw [show q = g from hq]; rfl)))⟩
end
end Go.Proofs.YtffkjbbhbpaacaaDoor
