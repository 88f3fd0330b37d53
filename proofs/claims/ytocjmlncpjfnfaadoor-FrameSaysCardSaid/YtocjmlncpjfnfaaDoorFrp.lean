import Derived.Test.YtocjmlncpjfnfaaDoorKit
import Derived.Deep.Slices
import Derived.Test.YtocjmlncpjfnfaaDoorFrm
/-
  A header comes in: thirty-two bytes and two words.
  A slice of lists of bytes comes in.
  A request comes in, a response comes in.
-/
namespace Go.Proofs.YtocjmlncpjfnfaaDoor
open Go.RowKit Go.ChangeShapes Go.WideShapes Go.Deep

section
variable {H : Type} {enc : TypeId × Value → H} {P : Program}
theorem trod_bytes {tk t8 : TypeId} {n fuel : Nat} {w : World} {cs : List Value} {x : DataW H × List MemPlace} (hk : P.underlying tk = some (.array n t8)) (h8 : P.underlying t8 = some (.int .u8)) (hC8 : P.cellsOf t8 = 1)
    (h : DataW.trod enc P w 0 (fun _ => true) true fuel tk cs = some x) (hl : cs.length = n) : ∃ xs : List Int, xs.length = n ∧ cs = ints .u8 xs ∧ ∀ y ∈ xs, (Lit.int .u8 y).wf = true := by
  obtain ⟨ys, m, _, _, _, hyl, hy⟩ := DataW.trod_array hk h
  have each : ∀ i, i < n → ∃ z : Int, cs[i]? = some (.int .u8 z) ∧ (Lit.int .u8 z).wf = true := by
    intro i hi
    have h1 := hy i hi
    rw [hC8, Nat.mul_one] at h1
    obtain ⟨y, hyi⟩ : ∃ y, ys[i]? = some y := ⟨ys[i], by simp [hyl, hi]⟩
    rw [hyi] at h1
    obtain ⟨z, hz, _, hw⟩ := DataW.trod_int h8 h1
    refine ⟨z, ?_, hw⟩
    have h2 := congrArg (fun l => l[0]?) hz
    simpa using h2
  have hch : ∃ f : Nat → Int, ∀ i, i < n → cs[i]? = some (.int .u8 (f i)) ∧ (Lit.int .u8 (f i)).wf = true := by
    refine ⟨fun i => if h : i < n then Classical.choose (each i h) else 0, fun i hi => ?_⟩
    have := Classical.choose_spec (each i hi)
    simpa [hi] using this
  obtain ⟨f, hf⟩ := hch
  refine ⟨(List.range n).map f, by simp, ?_, ?_⟩
  · refine List.ext_getElem? fun i => ?_
    by_cases hi : i < n
    · rw [(hf i hi).1]; simp [ints, hi]
    · rw [List.getElem?_eq_none (by omega), List.getElem?_eq_none (by simp [ints]; omega)]
  · intro y hy
    simp at hy
    obtain ⟨i, hi, rfl⟩ := hy
    exact (hf i hi).2
theorem open_hdr {t tk t8 t32 : TypeId} {fs : Array Field} {w : World} {v : Value} {d : DataW H} {p : List MemPlace} {base : Nat} (ht : P.underlying t = some (.struct fs)) (hk : P.underlying tk = some (.array 32 t8)) (h8 : P.underlying t8 = some (.int .u8)) (h32 : P.underlying t32 = some (.int .u32))
    (hC8 : P.cellsOf t8 = 1) (hCk : P.cellsOf tk = 32) (hC32 : P.cellsOf t32 = 1) (hCt : P.cellsOf t = 34)
    (f0 : ∃ f, fs[0]? = some f ∧ f.offset = 0 ∧ f.type = tk) (f1 : ∃ f, fs[1]? = some f ∧ f.offset = 32 ∧ f.type = t32) (f2 : ∃ f, fs[2]? = some f ∧ f.offset = 33 ∧ f.type = t32)
    (hv : Value.okWide P w .any base t v) (h : DataW.Trod enc P w 0 (fun _ => true) true t v d p) :
    ∃ (dh : List Int) (pn n : Int), dh.length = 32 ∧ v = .agg (ints .u8 dh ++ [Value.int .u32 pn, Value.int .u32 n]).toArray ∧ (∀ x ∈ dh, (Lit.int .u8 x).wf = true) ∧ (Lit.int .u32 pn).wf = true ∧ (Lit.int .u32 n).wf = true := by
  obtain ⟨cs, rfl, hsz, _⟩ : ∃ cs, v = .agg cs ∧ cs.size = P.cellsOf t ∧ _ := by simpa only [Value.okWide, ht] using hv
  obtain ⟨fuel, hf⟩ := h
  obtain ⟨ys, m, _, _, hlen, hyl, hfj⟩ := DataW.trod_struct ht hf
  have hcl : cs.toList.length = 34 := by rw [Array.length_toList, hsz, hCt]
  obtain ⟨g0, e0, o0, t0⟩ := f0
  obtain ⟨g1, e1, o1, t1⟩ := f1
  obtain ⟨g2, e2, o2, t2⟩ := f2
  have b0 : 0 < fs.size := (Array.getElem?_eq_some_iff.1 e0).1
  have b1 : 1 < fs.size := (Array.getElem?_eq_some_iff.1 e1).1
  have b2 : 2 < fs.size := (Array.getElem?_eq_some_iff.1 e2).1
  have y0 : ys[0]? = some ys[0] := List.getElem?_eq_getElem (by omega)
  have y1 : ys[1]? = some ys[1] := List.getElem?_eq_getElem (by omega)
  have y2 : ys[2]? = some ys[2] := List.getElem?_eq_getElem (by omega)
  have h0 := hfj 0 g0 e0
  have h1 := hfj 1 g1 e1
  have h2 := hfj 2 g2 e2
  rw [o0, t0, hCk, y0] at h0
  rw [o1, t1, hC32, y1] at h1
  rw [o2, t2, hC32, y2] at h2
  have hcc : (Value.agg cs).cells.toList = cs.toList := rfl
  rw [hcc] at h0 h1 h2
  obtain ⟨dh, hdl, hde, hdw⟩ := trod_bytes hk h8 hC8 h0 (by simp; omega)
  obtain ⟨pn, hp, _, hpw⟩ := DataW.trod_int h32 h1
  obtain ⟨n, hn, _, hnw⟩ := DataW.trod_int h32 h2
  refine ⟨dh, pn, n, hdl, ?_, hdw, hpw, hnw⟩
  have e : cs.toList = (cs.toList.drop 0).take 32 ++ ((cs.toList.drop 32).take 1 ++ (cs.toList.drop 33).take 1) := by
    refine List.ext_getElem? fun j => ?_
    rcases Nat.lt_or_ge j 32 with hj | hj
    · rw [List.getElem?_append_left (by simp; omega), List.getElem?_take, if_pos hj]; simp
    · rw [List.getElem?_append_right (by simp; omega)]
      have hl : ((cs.toList.drop 0).take 32).length = 32 := by simp; omega
      rw [hl]
      rcases Nat.lt_or_ge j 33 with hj2 | hj2
      · obtain rfl : j = 32 := by omega
        rw [List.getElem?_append_left (by simp; omega)]
        simp
      · rw [List.getElem?_append_right (by simp; omega)]
        have hl1 : ((cs.toList.drop 32).take 1).length = 1 := by simp; omega
        rw [hl1]
        rcases Nat.lt_or_ge j 34 with hj3 | hj3
        · obtain rfl : j = 33 := by omega
          simp
        · rw [List.getElem?_eq_none (by omega), List.getElem?_eq_none (by simp; omega)]
  congr 1
  rw [hde, hp, hn] at e
  rw [← Array.toArray_toList (xs := cs), e]
  rfl
end
section
variable {H : Type} {enc : TypeId × Value → H} {P : Program}
/-- lists of bytes as they lie -/
def SsRead (w : World) (A : Option Addr) (len : Nat) (f : Nat → Option Addr × List Int × Nat) : Prop :=
  0 < len → ∃ b o, A = some ⟨b, o, none⟩ ∧ b < w.heap.size ∧ ∀ i, i < len → w.cell? ⟨b, o + i, none⟩ = some (.slice (f i).1 (f i).2.1.length (f i).2.2) ∧ SlRead w (f i).1 (ints .u8 (f i).2.1)
theorem SsRead.below {w w' : World} {A : Option Addr} {len : Nat} {f : Nat → Option Addr × List Int × Nat} (h : SsRead w A len f) (hb : Below w.heap.size w w') : SsRead w' A len f := fun hl => by
  obtain ⟨b, o, e, hlt, hc⟩ := h hl
  exact ⟨b, o, e, Nat.lt_of_lt_of_le hlt hb.size, fun i hi => ⟨(hb.cell (p := ⟨b, _, none⟩) hlt).trans (hc i hi).1, (hc i hi).2.below hb⟩⟩
theorem open_bytes {e t8 : TypeId} {w : World} {fuel : Nat} {cs : List Value} {x : DataW H × List MemPlace} (he : P.underlying e = some (.slice t8)) (h8 : P.underlying t8 = some (.int .u8)) (hC8 : P.cellsOf t8 = 1)
    (htr : DataW.trod enc P w 0 (fun _ => true) true fuel e cs = some x) : ∃ q : Option Addr × List Int × Nat, cs = [.slice q.1 q.2.1.length q.2.2] ∧ SlRead w q.1 (ints .u8 q.2.1) ∧ (∀ x ∈ q.2.1, (Lit.int .u8 x).wf = true) ∧ q.2.1.length ≤ q.2.2 ∧ q.2.2 ≤ maxLen := by
  rcases open_ints he h8 hC8 htr with ⟨hcs, _⟩ | ⟨a, len, cap, zs, hcs, _, hl, hm, hz, _, hcell, hwz⟩
  · exact ⟨(none, [], 0), by simpa using hcs, SlRead.nil_, by simp, by simp, by simp [maxLen]⟩
  · simp only [if_true] at hz
    have hl2 : (zs.take len).length = len := by simp; omega
    refine ⟨(some a, zs.take len, cap), by rw [hcs, hl2], ?_, fun x hx => hwz x (List.mem_of_mem_take hx), by simp only [hl2]; exact hl, hm⟩
    intro h0
    obtain ⟨b, o, sp⟩ := a
    have h00 : w.cell? ((Addr.mk b o sp).add 0) = some (.int .u8 (zs.getD 0 0)) := hcell 0 (by simp at h0; omega)
    have hsp : sp = none := by
      cases sp with
      | none => rfl
      | some s => simp [World.cell?, Addr.add] at h00; split at h00 <;> simp_all
    subst hsp
    have hblt : b < w.heap.size := by
      have := World.block_lt_of_cell? _ _ h00
      rwa [block_of_add] at this
    refine ⟨b, o, rfl, hblt, fun j u hj => ?_⟩
    have hjl : j < (zs.take len).length := by
      have := List.getElem?_eq_some_iff.1 hj
      simpa [ints] using this.1
    have := hcell j (by omega)
    rw [add_eq] at this
    rw [this, ← hj]
    have hj2 : j < zs.length := by omega
    simp [ints, List.getElem?_take, hj2]
    omega
theorem open_sls {t e t8 : TypeId} {w : World} {v : Value} {d : DataW H} {p : List MemPlace} {base : Nat} (ht : P.underlying t = some (.slice e)) (he : P.underlying e = some (.slice t8)) (h8 : P.underlying t8 = some (.int .u8)) (hC1 : P.cellsOf e = 1) (hC8 : P.cellsOf t8 = 1)
    (hv : Value.okWide P w .any base t v) (h : DataW.Trod enc P w 0 (fun _ => true) true t v d p) :
    ∃ (A : Option Addr) (len cap : Nat) (f : Nat → Option Addr × List Int × Nat), v = .slice A len cap ∧ SsRead w A len f ∧ (∀ i, i < len → ∀ x ∈ (f i).2.1, (Lit.int .u8 x).wf = true) ∧ (∀ i, i < len → (f i).2.1.length ≤ maxLen) ∧ len ≤ cap ∧ cap ≤ maxLen := by
  obtain ⟨a0, len, cap, rfl⟩ := okWide_slice ht hv
  obtain ⟨fuel, hf⟩ := h
  rcases open_slice ht hf with ⟨hcs, hx⟩ | ⟨a, len', cap', m, n, D, Pl, hcs, _, hl, hm, hmm, hx, hi⟩
  · simp [Value.cells] at hcs
    obtain ⟨rfl, rfl, rfl⟩ := hcs
    exact ⟨none, 0, 0, fun _ => (none, [], 0), rfl, fun h => absurd h (Nat.lt_irrefl _), fun i hi => absurd hi (Nat.not_lt_zero _), fun i hi => absurd hi (Nat.not_lt_zero _), Nat.le_refl _, by simp [maxLen]⟩
  · simp [Value.cells] at hcs
    obtain ⟨rfl, rfl, rfl⟩ := hcs
    have hlm : len ≤ m := by rw [hmm]; split <;> omega
    have each : ∀ i, i < len → ∃ q : Option Addr × List Int × Nat, w.cell? (a.add i) = some (.slice q.1 q.2.1.length q.2.2) ∧ SlRead w q.1 (ints .u8 q.2.1) ∧ (∀ x ∈ q.2.1, (Lit.int .u8 x).wf = true) ∧ q.2.1.length ≤ q.2.2 ∧ q.2.2 ≤ maxLen := fun i hil => by
      obtain ⟨cs, hc, htr⟩ := hi i (by omega)
      obtain ⟨q, hq, h2⟩ := open_bytes he h8 hC8 htr
      rw [hC1, Nat.mul_one] at hc
      obtain ⟨_, hcl, hat⟩ := World.cells?_some hc
      have h1 := hat 0 (by omega)
      rw [add_of_add, Nat.add_zero, hq] at h1
      exact ⟨q, by simpa using h1, h2⟩
    refine ⟨some a, len, cap, fun i => if h : i < len then (each i h).choose else (none, [], 0), rfl, fun hlen => ?_, fun i hi => ?_, fun i hi => ?_, hl, hm⟩
    · obtain ⟨b, o, sp⟩ := a
      obtain ⟨q0, h00, _⟩ := each 0 hlen
      have hsp : sp = none := by
        cases sp with
        | none => rfl
        | some s => simp [World.cell?, Addr.add] at h00; split at h00 <;> simp_all
      subst hsp
      have hblt : b < w.heap.size := by
        have := World.block_lt_of_cell? _ _ h00
        rwa [block_of_add] at this
      refine ⟨b, o, rfl, hblt, fun i hil => ?_⟩
      have h1 := (each i hil).choose_spec
      simp only [hil, dif_pos]
      exact ⟨(congrArg w.cell? (add_eq b o _).symm).trans h1.1, h1.2.1⟩
    · have h1 := (each i hi).choose_spec
      simp only [hi, dif_pos]
      exact h1.2.2.1
    · have h1 := (each i hi).choose_spec
      simp only [hi, dif_pos]
      exact Nat.le_trans h1.2.2.2.1 h1.2.2.2.2
end
section
variable {H : Type} {enc : TypeId × Value → H} {P : Program}
theorem cut_at {α : Type} (l : List α) (k n m : Nat) (h : k + n = m) : l.drop k = (l.drop k).take n ++ l.drop m := by
  subst h
  rw [← List.drop_drop]
  exact (List.take_append_drop n _).symm
theorem wf_u8 {x : Int} (h : (Lit.int .u8 x).wf = true) : 0 ≤ x ∧ x < 256 := by
  simp [Lit.wf, IntKind.min, IntKind.max, IntKind.signed, IntKind.bits] at h
  omega
theorem open_req {t ti tk t8 t32 ts : TypeId} {fs : Array Field} {w : World} {v : Value} {d : DataW H} {p : List MemPlace} {base : Nat} (ht : P.underlying t = some (.struct fs)) (hi : P.underlying ti = some (.int .i64)) (hk : P.underlying tk = some (.array 32 t8)) (h8 : P.underlying t8 = some (.int .u8)) (h32 : P.underlying t32 = some (.int .u32)) (hs : P.underlying ts = some (.slice t8))
    (hC8 : P.cellsOf t8 = 1) (hCi : P.cellsOf ti = 1) (hCk : P.cellsOf tk = 32) (hC32 : P.cellsOf t32 = 1) (hCs : P.cellsOf ts = 1) (hCt : P.cellsOf t = 36)
    (f0 : ∃ f, fs[0]? = some f ∧ f.offset = 0 ∧ f.type = ti) (f1 : ∃ f, fs[1]? = some f ∧ f.offset = 1 ∧ f.type = tk) (f2 : ∃ f, fs[2]? = some f ∧ f.offset = 33 ∧ f.type = t32) (f3 : ∃ f, fs[3]? = some f ∧ f.offset = 34 ∧ f.type = t32) (f4 : ∃ f, fs[4]? = some f ∧ f.offset = 35 ∧ f.type = ts)
    (hv : Value.okWide P w .any base t v) (h : DataW.Trod enc P w 0 (fun _ => true) true t v d p) :
    ∃ (op : Int) (f : Nat → BitVec 8) (off n : Int) (A : Option Addr) (ys : List Int) (c : Nat), v = .agg (rqA op f off n (.slice A ys.length c)) ∧ SlRead w A (ints .u8 ys) ∧ (∀ x ∈ ys, (Lit.int .u8 x).wf = true) ∧ ys.length ≤ c ∧ c ≤ maxLen ∧ (Lit.int .i64 op).wf = true ∧ (Lit.int .u32 off).wf = true ∧ (Lit.int .u32 n).wf = true := by
  obtain ⟨cs, rfl, hsz, _⟩ : ∃ cs, v = .agg cs ∧ cs.size = P.cellsOf t ∧ _ := by simpa only [Value.okWide, ht] using hv
  obtain ⟨fuel, hf⟩ := h
  obtain ⟨ys, m, _, _, hlen, hyl, hfj⟩ := DataW.trod_struct ht hf
  have hcl : cs.toList.length = 36 := by rw [Array.length_toList, hsz, hCt]
  obtain ⟨g0, e0, o0, t0⟩ := f0
  obtain ⟨g1, e1, o1, t1⟩ := f1
  obtain ⟨g2, e2, o2, t2⟩ := f2
  obtain ⟨g3, e3, o3, t3⟩ := f3
  obtain ⟨g4, e4, o4, t4⟩ := f4
  have b0 : 0 < fs.size := (Array.getElem?_eq_some_iff.1 e0).1
  have b1 : 1 < fs.size := (Array.getElem?_eq_some_iff.1 e1).1
  have b2 : 2 < fs.size := (Array.getElem?_eq_some_iff.1 e2).1
  have b3 : 3 < fs.size := (Array.getElem?_eq_some_iff.1 e3).1
  have b4 : 4 < fs.size := (Array.getElem?_eq_some_iff.1 e4).1
  have y0 : ys[0]? = some ys[0] := List.getElem?_eq_getElem (by omega)
  have y1 : ys[1]? = some ys[1] := List.getElem?_eq_getElem (by omega)
  have y2 : ys[2]? = some ys[2] := List.getElem?_eq_getElem (by omega)
  have y3 : ys[3]? = some ys[3] := List.getElem?_eq_getElem (by omega)
  have y4 : ys[4]? = some ys[4] := List.getElem?_eq_getElem (by omega)
  have h0 := hfj 0 g0 e0
  have h1 := hfj 1 g1 e1
  have h2 := hfj 2 g2 e2
  have h3 := hfj 3 g3 e3
  have h4 := hfj 4 g4 e4
  rw [o0, t0, hCi, y0] at h0
  rw [o1, t1, hCk, y1] at h1
  rw [o2, t2, hC32, y2] at h2
  rw [o3, t3, hC32, y3] at h3
  rw [o4, t4, hCs, y4] at h4
  have hcc : (Value.agg cs).cells.toList = cs.toList := rfl
  rw [hcc] at h0 h1 h2 h3 h4
  obtain ⟨op, hop, _, how⟩ := DataW.trod_int hi h0
  obtain ⟨bl, hbl, hbe, hbw⟩ := trod_bytes hk h8 hC8 h1 (by simp; omega)
  obtain ⟨off, hoff, _, hfw⟩ := DataW.trod_int h32 h2
  obtain ⟨n, hn, _, hnw⟩ := DataW.trod_int h32 h3
  obtain ⟨q, hq, hqr, hqw, hqc, hqm⟩ := open_bytes hs h8 hC8 h4
  have hbx : ∀ x ∈ bl, 0 ≤ x ∧ x < 256 := fun x hx => wf_u8 (hbw x hx)
  have hrow := bF_row bl 0 hbx (by omega)
  rw [List.drop_zero, List.take_of_length_le (by omega)] at hrow
  refine ⟨op, bF bl 0, off, n, q.1, q.2.1, q.2.2, ?_, hqr, hqw, hqc, hqm, how, hfw, hnw⟩
  have e : cs.toList = (cs.toList.drop 0).take 1 ++ ((cs.toList.drop 1).take 32 ++ ((cs.toList.drop 33).take 1 ++ ((cs.toList.drop 34).take 1 ++ (cs.toList.drop 35).take 1))) := by
    have e4 : (cs.toList.drop 35).take 1 = cs.toList.drop 35 := List.take_of_length_le (by simp; omega)
    rw [e4, ← cut_at _ 34 1 35 rfl, ← cut_at _ 33 1 34 rfl, ← cut_at _ 1 32 33 rfl, ← cut_at _ 0 1 1 rfl, List.drop_zero]
  congr 1
  rw [hop, hbe, hrow, hoff, hn, hq] at e
  rw [← Array.toArray_toList (xs := cs), e]
  rfl
theorem open_rsp {t ti t8 t32 ts : TypeId} {fs : Array Field} {w : World} {v : Value} {d : DataW H} {p : List MemPlace} {base : Nat} (ht : P.underlying t = some (.struct fs)) (hi : P.underlying ti = some (.int .i64)) (h8 : P.underlying t8 = some (.int .u8)) (h32 : P.underlying t32 = some (.int .u32)) (hs : P.underlying ts = some (.slice t8))
    (hC8 : P.cellsOf t8 = 1) (hCi : P.cellsOf ti = 1) (hC32 : P.cellsOf t32 = 1) (hCs : P.cellsOf ts = 1) (hCt : P.cellsOf t = 3)
    (f0 : ∃ f, fs[0]? = some f ∧ f.offset = 0 ∧ f.type = ti) (f1 : ∃ f, fs[1]? = some f ∧ f.offset = 1 ∧ f.type = t32) (f2 : ∃ f, fs[2]? = some f ∧ f.offset = 2 ∧ f.type = ts)
    (hv : Value.okWide P w .any base t v) (h : DataW.Trod enc P w 0 (fun _ => true) true t v d p) :
    ∃ (code n : Int) (A : Option Addr) (ys : List Int) (c : Nat), v = .agg (rsA code n (.slice A ys.length c)) ∧ SlRead w A (ints .u8 ys) ∧ (∀ x ∈ ys, (Lit.int .u8 x).wf = true) ∧ ys.length ≤ c ∧ c ≤ maxLen ∧ (Lit.int .i64 code).wf = true ∧ (Lit.int .u32 n).wf = true := by
  obtain ⟨cs, rfl, hsz, _⟩ : ∃ cs, v = .agg cs ∧ cs.size = P.cellsOf t ∧ _ := by simpa only [Value.okWide, ht] using hv
  obtain ⟨fuel, hf⟩ := h
  obtain ⟨ys, m, _, _, hlen, hyl, hfj⟩ := DataW.trod_struct ht hf
  have hcl : cs.toList.length = 3 := by rw [Array.length_toList, hsz, hCt]
  obtain ⟨g0, e0, o0, t0⟩ := f0
  obtain ⟨g1, e1, o1, t1⟩ := f1
  obtain ⟨g2, e2, o2, t2⟩ := f2
  have b0 : 0 < fs.size := (Array.getElem?_eq_some_iff.1 e0).1
  have b1 : 1 < fs.size := (Array.getElem?_eq_some_iff.1 e1).1
  have b2 : 2 < fs.size := (Array.getElem?_eq_some_iff.1 e2).1
  have y0 : ys[0]? = some ys[0] := List.getElem?_eq_getElem (by omega)
  have y1 : ys[1]? = some ys[1] := List.getElem?_eq_getElem (by omega)
  have y2 : ys[2]? = some ys[2] := List.getElem?_eq_getElem (by omega)
  have h0 := hfj 0 g0 e0
  have h1 := hfj 1 g1 e1
  have h2 := hfj 2 g2 e2
  rw [o0, t0, hCi, y0] at h0
  rw [o1, t1, hC32, y1] at h1
  rw [o2, t2, hCs, y2] at h2
  have hcc : (Value.agg cs).cells.toList = cs.toList := rfl
  rw [hcc] at h0 h1 h2
  obtain ⟨op, hop, _, how⟩ := DataW.trod_int hi h0
  obtain ⟨n, hn, _, hnw⟩ := DataW.trod_int h32 h1
  obtain ⟨q, hq, hqr, hqw, hqc, hqm⟩ := open_bytes hs h8 hC8 h2
  refine ⟨op, n, q.1, q.2.1, q.2.2, ?_, hqr, hqw, hqc, hqm, how, hnw⟩
  have e : cs.toList = (cs.toList.drop 0).take 1 ++ ((cs.toList.drop 1).take 1 ++ (cs.toList.drop 2).take 1) := by
    have e4 : (cs.toList.drop 2).take 1 = cs.toList.drop 2 := List.take_of_length_le (by simp; omega)
    rw [e4, ← cut_at _ 1 1 2 rfl, ← cut_at _ 0 1 1 rfl, List.drop_zero]
  congr 1
  rw [hop, hn, hq] at e
  rw [← Array.toArray_toList (xs := cs), e]
  rfl
end
end Go.Proofs.YtocjmlncpjfnfaaDoor
