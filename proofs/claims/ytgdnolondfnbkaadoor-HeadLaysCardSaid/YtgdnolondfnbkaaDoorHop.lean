import Derived.Test.YtgdnolondfnbkaaDoorKit
/-
  A header comes in: thirty-two bytes and two words.
-/
namespace Go.Proofs.YtgdnolondfnbkaaDoor
open Go.RowKit Go.ChangeShapes Go.WideShapes

section
variable {H : Type} {enc : TypeId × Value → H} {P : Program}
theorem trod_bytes {tk t8 : TypeId} {n fuel : Nat} {w : World} {cs : List Value} {x : DataW H × List MemPlace} (hk : P.underlying tk = some (.array n t8)) (h8 : P.underlying t8 = some (.int .u8)) (hC8 : P.cellsOf t8 = 1)
    (h : DataW.trod enc P w 0 (fun _ => true) true fuel tk cs = some x) (hl : cs.length = n) : ∃ xs : List Int, xs.length = n ∧ cs = ints .u8 xs ∧ ∀ y ∈ xs, (Lit.int .u8 y).wf = true := by
  obtain ⟨ys, m, _, _, _, hyl, hy⟩ := DataW.trod_array hk h
  have each : ∀ i, i < n → ∃ z : Int, cs[i]? = some (.int .u8 z) ∧ (Lit.int .u8 z).wf = true := by
    intro i hi
    have h1 := hy i hi
    rw [hC8, Nat.mul_one] at h1
    obtain ⟨y, hyi⟩ : ∃ y, ys[i]? = some y := ⟨ys[i], by simp [hyl, hi]⟩
    rw [hyi] at h1
    obtain ⟨z, hz, _, hw⟩ := DataW.trod_int h8 h1
    refine ⟨z, ?_, hw⟩
    have h2 := congrArg (fun l => l[0]?) hz
    simpa using h2
  have hch : ∃ f : Nat → Int, ∀ i, i < n → cs[i]? = some (.int .u8 (f i)) ∧ (Lit.int .u8 (f i)).wf = true := by
    refine ⟨fun i => if h : i < n then Classical.choose (each i h) else 0, fun i hi => ?_⟩
    have := Classical.choose_spec (each i hi)
    simpa [hi] using this
  obtain ⟨f, hf⟩ := hch
  refine ⟨(List.range n).map f, by simp, ?_, ?_⟩
  · refine List.ext_getElem? fun i => ?_
    by_cases hi : i < n
    · rw [(hf i hi).1]; simp [ints, hi]
    · rw [List.getElem?_eq_none (by omega), List.getElem?_eq_none (by simp [ints]; omega)]
  · intro y hy
    simp at hy
    obtain ⟨i, hi, rfl⟩ := hy
    exact (hf i hi).2
theorem open_hdr {t tk t8 t32 : TypeId} {fs : Array Field} {w : World} {v : Value} {d : DataW H} {p : List MemPlace} {base : Nat} (ht : P.underlying t = some (.struct fs)) (hk : P.underlying tk = some (.array 32 t8)) (h8 : P.underlying t8 = some (.int .u8)) (h32 : P.underlying t32 = some (.int .u32))
    (hC8 : P.cellsOf t8 = 1) (hCk : P.cellsOf tk = 32) (hC32 : P.cellsOf t32 = 1) (hCt : P.cellsOf t = 34)
    (f0 : ∃ f, fs[0]? = some f ∧ f.offset = 0 ∧ f.type = tk) (f1 : ∃ f, fs[1]? = some f ∧ f.offset = 32 ∧ f.type = t32) (f2 : ∃ f, fs[2]? = some f ∧ f.offset = 33 ∧ f.type = t32)
    (hv : Value.okWide P w .any base t v) (h : DataW.Trod enc P w 0 (fun _ => true) true t v d p) :
    ∃ (dh : List Int) (pn n : Int), dh.length = 32 ∧ v = .agg (ints .u8 dh ++ [Value.int .u32 pn, Value.int .u32 n]).toArray ∧ (∀ x ∈ dh, (Lit.int .u8 x).wf = true) ∧ (Lit.int .u32 pn).wf = true ∧ (Lit.int .u32 n).wf = true := by
  obtain ⟨cs, rfl, hsz, _⟩ : ∃ cs, v = .agg cs ∧ cs.size = P.cellsOf t ∧ _ := by simpa only [Value.okWide, ht] using hv
  obtain ⟨fuel, hf⟩ := h
  obtain ⟨ys, m, _, _, hlen, hyl, hfj⟩ := DataW.trod_struct ht hf
  have hcl : cs.toList.length = 34 := by rw [Array.length_toList, hsz, hCt]
  obtain ⟨g0, e0, o0, t0⟩ := f0
  obtain ⟨g1, e1, o1, t1⟩ := f1
  obtain ⟨g2, e2, o2, t2⟩ := f2
  have b0 : 0 < fs.size := (Array.getElem?_eq_some_iff.1 e0).1
  have b1 : 1 < fs.size := (Array.getElem?_eq_some_iff.1 e1).1
  have b2 : 2 < fs.size := (Array.getElem?_eq_some_iff.1 e2).1
  have y0 : ys[0]? = some ys[0] := List.getElem?_eq_getElem (by omega)
  have y1 : ys[1]? = some ys[1] := List.getElem?_eq_getElem (by omega)
  have y2 : ys[2]? = some ys[2] := List.getElem?_eq_getElem (by omega)
  have h0 := hfj 0 g0 e0
  have h1 := hfj 1 g1 e1
  have h2 := hfj 2 g2 e2
  rw [o0, t0, hCk, y0] at h0
  rw [o1, t1, hC32, y1] at h1
  rw [o2, t2, hC32, y2] at h2
  have hcc : (Value.agg cs).cells.toList = cs.toList := rfl
  rw [hcc] at h0 h1 h2
  obtain ⟨dh, hdl, hde, hdw⟩ := trod_bytes hk h8 hC8 h0 (by simp; omega)
  obtain ⟨pn, hp, _, hpw⟩ := DataW.trod_int h32 h1
  obtain ⟨n, hn, _, hnw⟩ := DataW.trod_int h32 h2
  refine ⟨dh, pn, n, hdl, ?_, hdw, hpw, hnw⟩
  have e : cs.toList = (cs.toList.drop 0).take 32 ++ ((cs.toList.drop 32).take 1 ++ (cs.toList.drop 33).take 1) := by
    refine List.ext_getElem? fun j => ?_
    rcases Nat.lt_or_ge j 32 with hj | hj
    · rw [List.getElem?_append_left (by simp; omega), List.getElem?_take, if_pos hj]; simp
    · rw [List.getElem?_append_right (by simp; omega)]
      have hl : ((cs.toList.drop 0).take 32).length = 32 := by simp; omega
      rw [hl]
      rcases Nat.lt_or_ge j 33 with hj2 | hj2
      · obtain rfl : j = 32 := by omega
        rw [List.getElem?_append_left (by simp; omega)]
        simp
      · rw [List.getElem?_append_right (by simp; omega)]
        have hl1 : ((cs.toList.drop 32).take 1).length = 1 := by simp; omega
        rw [hl1]
        rcases Nat.lt_or_ge j 34 with hj3 | hj3
        · obtain rfl : j = 33 := by omega
          simp
        · rw [List.getElem?_eq_none (by omega), List.getElem?_eq_none (by simp; omega)]
  congr 1
  rw [hde, hp, hn] at e
  rw [← Array.toArray_toList (xs := cs), e]
  rfl
end
end Go.Proofs.YtgdnolondfnbkaaDoor
