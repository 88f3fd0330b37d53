import Derived.Test.YtffkjbbhbpaacaaDoorBla
import Derived.Test.YtffkjbbhbpaacaaDoorCok
/-
  frame: a request's cells, a response's.
  frame: what bytes are as a request, as a response.
-/
namespace Go.Proofs.YtffkjbbhbpaacaaDoor
open Go.RowKit

theorem heap_size_setCellQ (w : World) (a : Addr) (v : Value) : (w.setCell a v).heap.size = w.heap.size := by simp [World.setCell]
/-- what cells are behind stores of a row -/
def setL (cs : Array Value) (o : Nat) : List Value → Array Value
  | [] => cs
  | v :: vs => setL (cs.setIfInBounds o v) (o + 1) vs
theorem heap_setCells_same (g : Nat) (t : TypeId) : ∀ (vs : List Value) (w : World) (o : Nat) (cs : Array Value), w.heap[g]? = some (.cells cs t (0, 0)) → (w.setCells g o vs).heap[g]? = some (.cells (setL cs o vs) t (0, 0))
  | [], _, _, _, h => h
  | v :: vs, w, o, cs, h => by
    rw [World.setCells, setL]
    exact heap_setCells_same g t vs _ (o + 1) _ (heap_setCell_same w g o cs t v h)
/-- a request's cells -/
def rqA (op : Int) (f : Nat → BitVec 8) (off n : Int) (D : Value) : Array Value := ((.int .i64 op :: (List.range 32).map fun i => v8 (f i)) ++ [.int .u32 off, .int .u32 n, D]).toArray
def zf : Nat → BitVec 8 := fun _ => 0#8
theorem rq_size (op : Int) (f : Nat → BitVec 8) (off n : Int) (D : Value) : (rqA op f off n D).size = 36 := by simp [rqA]
theorem rq_szs (op op' : Int) (f f' : Nat → BitVec 8) (off off' n n' : Int) (D D' : Value) : (rqA op f off n D).size = (rqA op' f' off' n' D').size := by rw [rq_size, rq_size]
theorem rq_info (op : Int) (f : Nat → BitVec 8) (off n : Int) (D : Value) : (Tryd.prog.info? 40).map (·.size) = some (rqA op f off n D).size := by rw [rq_size]; kernel_rfl
theorem rq_one (op : Int) (f : Nat → BitVec 8) (off n : Int) (A : Option Addr) (l c : Nat) : (rqA op f off n (.slice A l c)).all (·.oneCell') = true := by kernel_rfl
theorem rq_set0 (op op' : Int) (f : Nat → BitVec 8) (off n : Int) (D : Value) : (rqA op f off n D).setIfInBounds 0 (.int .i64 op') = rqA op' f off n D := by simp [rqA]
theorem rq_set33 (op : Int) (f : Nat → BitVec 8) (off off' n : Int) (D : Value) : (rqA op f off n D).setIfInBounds 33 (.int .u32 off') = rqA op f off' n D := by kernel_rfl
theorem rq_set34 (op : Int) (f : Nat → BitVec 8) (off n n' : Int) (D : Value) : (rqA op f off n D).setIfInBounds 34 (.int .u32 n') = rqA op f off n' D := by kernel_rfl
theorem rq_set35 (op : Int) (f : Nat → BitVec 8) (off n : Int) (D D' : Value) : (rqA op f off n D).setIfInBounds 35 D' = rqA op f off n D' := by kernel_rfl
theorem rq_setB (op : Int) (f f' : Nat → BitVec 8) (off n : Int) (D : Value) : setL (rqA op f off n D) 1 ((List.range 32).map fun i => v8 (f' i)) = rqA op f' off n D := by kernel_rfl
theorem rq_build0 (w : World) : (Instr.build 40 #[]).run Tryd.prog w = .ok (.agg (rqA 0 zf 0 0 (.slice none 0 0))) w := by kernel_rfl
theorem rq_zero : (rqA 0 zf 0 0 (.slice none 0 0)) = #[.int .i64 0] ++ Array.replicate 32 (.int .u8 0) ++ #[.int .u32 0, .int .u32 0, .slice none 0 0] := by kernel_rfl
theorem rq_c0 (op : Int) (f : Nat → BitVec 8) (off n : Int) (D : Value) : (rqA op f off n D)[0]? = some (.int .i64 op) := by simp [rqA]
theorem rq_c33 (op : Int) (f : Nat → BitVec 8) (off n : Int) (D : Value) : (rqA op f off n D)[33]? = some (.int .u32 off) := by kernel_rfl
theorem rq_c34 (op : Int) (f : Nat → BitVec 8) (off n : Int) (D : Value) : (rqA op f off n D)[34]? = some (.int .u32 n) := by kernel_rfl
theorem rq_c35 (op : Int) (f : Nat → BitVec 8) (off n : Int) (D : Value) : (rqA op f off n D)[35]? = some D := by kernel_rfl
/-- whose it is -/
theorem rq_blob {W : World} {g : Nat} {op : Int} {f : Nat → BitVec 8} {off n : Int} {D : Value} {t : TypeId} (h : W.heap[g]? = some (.cells (rqA op f off n D) t (0, 0))) : W.rangeAt g 1 (arr8 32 f).toList := by
  intro j v hv
  have hj : j < 32 := by have := (List.getElem?_eq_some_iff.1 hv).1; simpa using this
  have e1 : v = v8 (f j) := by
    have := arr8_get 32 f j hj
    rw [← Array.getElem?_toList, hv] at this
    exact Option.some.inj this
  subst e1
  refine cell_heap h ?_
  unfold rqA
  rw [List.getElem?_toArray, Nat.add_comm, List.cons_append, List.getElem?_cons_succ, List.getElem?_append_left (by simp; omega)]
  simp [hj]
theorem rq_there {W : World} {g : Nat} {op : Int} {f : Nat → BitVec 8} {off n : Int} {D : Value} {t : TypeId} (h : W.heap[g]? = some (.cells (rqA op f off n D) t (0, 0))) : W.there g 1 32 := fun j hj => by
  refine ⟨?_, thaw_heap h _⟩
  have := rq_blob h j (v8 (f j)) (by rw [Array.getElem?_toList]; exact arr8_get 32 f j hj)
  rw [this]
  rfl
/-- a response's cells -/
def rsA (code n : Int) (D : Value) : Array Value := #[.int .i64 code, .int .u32 n, D]
theorem rs_size (code n : Int) (D : Value) : (rsA code n D).size = 3 := rfl
theorem rs_info (code n : Int) (D : Value) : (Tryd.prog.info? 47).map (·.size) = some (rsA code n D).size := by rw [rs_size]; kernel_rfl
theorem rs_one (code n : Int) (A : Option Addr) (l c : Nat) : (rsA code n (.slice A l c)).all (·.oneCell') = true := by kernel_rfl
theorem rs_c0 (code n : Int) (D : Value) : (rsA code n D)[0]? = some (.int .i64 code) := rfl
theorem rs_c1 (code n : Int) (D : Value) : (rsA code n D)[1]? = some (.int .u32 n) := rfl
theorem rs_c2 (code n : Int) (D : Value) : (rsA code n D)[2]? = some D := rfl
/-- bytes of an array, as numbers -/
def fB (f : Nat → BitVec 8) : List Int := (List.range 32).map fun i => ((f i).toNat : Int)
theorem fB_len (f : Nat → BitVec 8) : (fB f).length = 32 := by simp [fB]
theorem n8N (b : BitVec 8) : n8 b = (b.toNat : Int) := by
  have := b.isLt
  show ((b.setWidth 32).toNat : Int) = _
  rw [BitVec.toNat_setWidth, Nat.mod_eq_of_lt (by omega)]
theorem fB_arr (f : Nat → BitVec 8) : ints .u8 (fB f) = (List.range 32).map fun i => v8 (f i) := by
  unfold fB ints
  rw [List.map_map]
  exact List.map_congr_left fun i _ => by simp only [Function.comp_apply, v8, n8N]
theorem fB_byts (f : Nat → BitVec 8) : ∀ x ∈ fB f, 0 ≤ x ∧ x < 256 := fun x hx => by
  unfold fB at hx
  obtain ⟨i, _, rfl⟩ := List.mem_map.1 hx
  have := (f i).isLt
  omega
/-- 32 bytes as such an array -/
def bF (xs : List Int) (p : Nat) : Nat → BitVec 8 := fun i => BitVec.ofNat 8 (xs.getD (p + i) 0).toNat
theorem bF_row (xs : List Int) (p : Nat) (hx : ∀ x ∈ xs, 0 ≤ x ∧ x < 256) (h : p + 32 ≤ xs.length) : ints .u8 ((xs.drop p).take 32) = (List.range 32).map fun i => v8 (bF xs p i) := by
  refine List.ext_getElem? fun i => ?_
  rcases Nat.lt_or_ge i 32 with hi | hi
  · rw [ints, List.getElem?_map, List.getElem?_take_of_lt hi, List.getElem?_drop, List.getElem?_map, List.getElem?_range hi, Option.map_some, List.getElem?_eq_getElem (by omega), Option.map_some]
    have hm := hx _ (List.getElem_mem (l := xs) (n := p + i) (by omega))
    have hg : xs.getD (p + i) 0 = xs[p + i] := by rw [List.getD_eq_getElem?_getD, List.getElem?_eq_getElem (by omega)]; rfl
    simp only [v8, n8N, bF, hg, BitVec.toNat_ofNat]
    congr 2
    omega
  · rw [List.getElem?_eq_none (by simp [ints]; omega), List.getElem?_eq_none (by simp; omega)]
theorem bF_fB (f : Nat → BitVec 8) (a b : List Int) (p : Nat) (hp : a.length = p) : ∀ i, i < 32 → bF (a ++ fB f ++ b) p i = f i := fun i hi => by
  unfold bF
  have : (a ++ fB f ++ b).getD (p + i) 0 = ((f i).toNat : Int) := by
    rw [List.getD_eq_getElem?_getD, List.getElem?_append_left (by simp [fB, hp]; omega), List.getElem?_append_right (by omega)]
    simp [fB, hp, hi]
  rw [this]
  simp
theorem rq_ext (op : Int) (f f' : Nat → BitVec 8) (off n : Int) (D : Value) (h : ∀ i, i < 32 → f i = f' i) : rqA op f off n D = rqA op f' off n D := by
  have : ((List.range 32).map fun i => v8 (f i)) = (List.range 32).map fun i => v8 (f' i) := List.map_congr_left fun i hi => by rw [h i (List.mem_range.1 hi)]
  unfold rqA
  rw [this]
theorem load_rowQ (W : World) (g : Nat) (f : Nat → BitVec 8) (h : W.rangeAt g 1 (arr8 32 f).toList) : (Instr.loadAt 37 (.pointer (some ⟨g, 1, none⟩))).run Tryd.prog W = .ok (.agg (arr8 32 f)) W := by
  have := load_row (P := Tryd.prog) 37 g 1 (arr8 32 f).toList _ Tryd.underlying37 rfl (by simp only [Array.length_toList, arr8_size]; kernel_rfl) W h
  simpa using this
theorem slice_blob (b : Nat) (w : World) : (Instr.sliceAt 37 (.pointer (some ⟨b, 1, none⟩)) none none none).run Tryd.prog w = .ok (.slice (some ⟨b, 1, none⟩) 32 32) w := by
  kernel_rfl
/-- what is told of a list that ends all, from p on -/
def lstO (xs : List Int) (p : Nat) : Option (Nat × Int) :=
  if xs.length < p + 4 then some (2, (p : Int)) else if 200 < wordI xs p then some (1, (p : Int)) else if (xs.length : Int) - p - 4 < wordI xs p then some (2, (p : Int))
  else if (p : Int) + 4 + wordI xs p < xs.length then some (3, (p : Int) + 4 + wordI xs p) else none
/-- what is told of bytes as a request -/
def reqO (xs : List Int) : Option (Nat × Int) :=
  if xs.length < 1 then some (2, 0) else if byteI xs 0 < 1 ∨ 6 < byteI xs 0 then some (4, 0) else if xs.length < 33 then some (2, 1) else if xs.length < 37 then some (2, 33) else if xs.length < 41 then some (2, 37) else lstO xs 41
/-- what is told of bytes as a response -/
def rspO (xs : List Int) : Option (Nat × Int) :=
  if xs.length < 1 then some (2, 0) else if byteI xs 0 < 0 ∨ 19 < byteI xs 0 then some (4, 0) else if xs.length < 5 then some (2, 1) else lstO xs 5
/-- a request's bytes -/
def rqB (op : Int) (f : Nat → BitVec 8) (off n : Int) (ys : List Int) : List Int := ((([op % 256] ++ fB f) ++ le4 off) ++ le4 n) ++ lstI ys
/-- a response's -/
def rsB (code n : Int) (ys : List Int) : List Int := ([code % 256] ++ le4 n) ++ lstI ys
theorem le4_len (n : Int) : (le4 n).length = 4 := rfl
theorem rqB_len (op : Int) (f : Nat → BitVec 8) (off n : Int) (ys : List Int) : (rqB op f off n ys).length = 45 + ys.length := by simp [rqB, lstI, le4, fB_len]; omega
theorem rsB_len (code n : Int) (ys : List Int) : (rsB code n ys).length = 9 + ys.length := by simp [rsB, lstI, le4]; omega
theorem byteI_left (a b : List Int) (p : Nat) (h : p < a.length) : byteI (a ++ b) p = byteI a p := by
  unfold byteI
  rw [List.getD_eq_getElem?_getD, List.getD_eq_getElem?_getD, List.getElem?_append_left h]
theorem byteI_right (a b : List Int) (p : Nat) : byteI (a ++ b) (a.length + p) = byteI b p := by
  unfold byteI
  rw [List.getD_eq_getElem?_getD, List.getD_eq_getElem?_getD, List.getElem?_append_right (by omega), Nat.add_sub_cancel_left]
theorem byteI_take (xs : List Int) (k p : Nat) (h : p < k) : byteI (xs.take k) p = byteI xs p := by
  unfold byteI
  rw [List.getD_eq_getElem?_getD, List.getD_eq_getElem?_getD, List.getElem?_take_of_lt h]
theorem wordI_left (a b : List Int) (p : Nat) (h : p + 4 ≤ a.length) : wordI (a ++ b) p = wordI a p := by
  unfold wordI
  rw [byteI_left _ _ _ (by omega), byteI_left _ _ _ (by omega), byteI_left _ _ _ (by omega), byteI_left _ _ _ (by omega)]
theorem wordI_right (a b : List Int) (p : Nat) (h : a.length = p) : wordI (a ++ b) p = wordI b 0 := by
  unfold wordI
  subst h
  rw [byteI_right a b 1, byteI_right a b 2, byteI_right a b 3]
  have := byteI_right a b 0
  rw [Nat.add_zero] at this
  rw [this]
theorem wordI_take (xs : List Int) (k p : Nat) (h : p + 4 ≤ k) : wordI (xs.take k) p = wordI xs p := by
  unfold wordI
  rw [byteI_take _ _ _ (by omega), byteI_take _ _ _ (by omega), byteI_take _ _ _ (by omega), byteI_take _ _ _ (by omega)]
theorem wordI_le4 (n : Int) (b : List Int) (h : 0 ≤ n ∧ n < 4294967296) : wordI (le4 n ++ b) 0 = n := by
  rw [wordI_left _ _ _ (by simp [le4])]
  show n % 256 + n / 256 % 256 * 256 + n / 65536 % 256 * 65536 + n / 16777216 % 256 * 16777216 = n
  omega
theorem le4_byts (n : Int) : Byts (le4 n) := fun x hx => by
  simp only [le4, List.mem_cons, List.not_mem_nil, or_false] at hx
  rcases hx with rfl | rfl | rfl | rfl <;> omega
theorem Byts.app {a b : List Int} (h : Byts a) (k : Byts b) : Byts (a ++ b) := fun x hx => by
  rcases List.mem_append.1 hx with h1 | h1
  · exact h x h1
  · exact k x h1
theorem Byts.cut {a : List Int} (h : Byts a) (k : Nat) : Byts (a.take k) := fun x hx => h x (List.mem_of_mem_take hx)
theorem Byts.rest {a : List Int} (h : Byts a) (k : Nat) : Byts (a.drop k) := fun x hx => h x (List.mem_of_mem_drop hx)
theorem Byts.one (n : Int) : Byts [n % 256] := fun x hx => by
  simp only [List.mem_cons, List.not_mem_nil, or_false] at hx
  subst hx
  omega
theorem lstI_byts {ys : List Int} (h : Byts ys) : Byts (lstI ys) := (le4_byts _).app h
theorem rqB_byts {op : Int} {f : Nat → BitVec 8} {off n : Int} {ys : List Int} (h : Byts ys) : Byts (rqB op f off n ys) := ((((Byts.one op).app (fB_byts f)).app (le4_byts off)).app (le4_byts n)).app (lstI_byts h)
theorem rsB_byts {code n : Int} {ys : List Int} (h : Byts ys) : Byts (rsB code n ys) := ((Byts.one code).app (le4_byts n)).app (lstI_byts h)
section
variable (op code : Int) (f : Nat → BitVec 8) (off n : Int) (ys : List Int)
theorem rqB_op : byteI (rqB op f off n ys) 0 = op % 256 := rfl
theorem rsB_code : byteI (rsB code n ys) 0 = code % 256 := rfl
theorem rqB_f (i : Nat) (h : i < 32) : bF (rqB op f off n ys) 1 i = f i := by
  have : rqB op f off n ys = [op % 256] ++ fB f ++ (le4 off ++ (le4 n ++ lstI ys)) := by simp [rqB]
  rw [this]
  exact bF_fB f _ _ 1 rfl i h
theorem rqB_off (h : 0 ≤ off ∧ off < 4294967296) : wordI (rqB op f off n ys) 33 = off := by
  have : rqB op f off n ys = ([op % 256] ++ fB f) ++ (le4 off ++ (le4 n ++ lstI ys)) := by simp [rqB]
  rw [this, wordI_right _ _ _ (by simp [fB_len]), wordI_le4 _ _ h]
theorem rqB_n (h : 0 ≤ n ∧ n < 4294967296) : wordI (rqB op f off n ys) 37 = n := by
  have : rqB op f off n ys = (([op % 256] ++ fB f) ++ le4 off) ++ (le4 n ++ lstI ys) := by simp [rqB]
  rw [this, wordI_right _ _ _ (by simp [fB_len, le4]), wordI_le4 _ _ h]
theorem rqB_m (h : ys.length ≤ 1000000) : wordI (rqB op f off n ys) 41 = ys.length := by
  unfold rqB lstI
  rw [wordI_right _ _ _ (by simp [fB_len, le4]), wordI_le4 _ _ (by omega)]
theorem rqB_ys : (rqB op f off n ys).drop 45 = ys := by
  have : rqB op f off n ys = ((((([op % 256] ++ fB f) ++ le4 off) ++ le4 n) ++ le4 ys.length)) ++ ys := by simp [rqB, lstI]
  rw [this]
  exact List.drop_left' (by simp [fB_len, le4])
theorem rsB_n (h : 0 ≤ n ∧ n < 4294967296) : wordI (rsB code n ys) 1 = n := by
  have : rsB code n ys = [code % 256] ++ (le4 n ++ lstI ys) := by simp [rsB]
  rw [this, wordI_right _ _ 1 rfl, wordI_le4 _ _ h]
theorem rsB_m (h : ys.length ≤ 1000000) : wordI (rsB code n ys) 5 = ys.length := by
  unfold rsB lstI
  rw [wordI_right _ _ _ (by simp [le4]), wordI_le4 _ _ (by omega)]
theorem rsB_ys : (rsB code n ys).drop 9 = ys := by
  have : rsB code n ys = ((([code % 256] ++ le4 n) ++ le4 ys.length)) ++ ys := by simp [rsB, lstI]
  rw [this]
  exact List.drop_left' (by simp [le4])
/-- a request that may be is one -/
theorem reqO_ok (ho : 1 ≤ op ∧ op ≤ 6) (h : ys.length ≤ 200) : reqO (rqB op f off n ys) = none := by
  have hm := rqB_m op f off n ys (by omega)
  unfold reqO lstO
  rw [hm, rqB_op, rqB_len]
  rw [if_neg (by omega), if_neg (by omega), if_neg (by omega), if_neg (by omega), if_neg (by omega), if_neg (by omega), if_neg (by omega), if_neg (by omega), if_neg (by omega)]
theorem rspO_ok (ho : 0 ≤ code ∧ code ≤ 19) (h : ys.length ≤ 200) : rspO (rsB code n ys) = none := by
  have hm := rsB_m code n ys (by omega)
  unfold rspO lstO
  rw [hm, rsB_code, rsB_len]
  rw [if_neg (by omega), if_neg (by omega), if_neg (by omega), if_neg (by omega), if_neg (by omega), if_neg (by omega), if_neg (by omega)]
/-- one byte more -/
theorem reqO_more (x : Int) (ho : 1 ≤ op ∧ op ≤ 6) (h : ys.length ≤ 200) : reqO (rqB op f off n ys ++ [x]) = some (3, ((45 + ys.length : Nat) : Int)) := by
  have hm := rqB_m op f off n ys (by omega)
  have hl := rqB_len op f off n ys
  unfold reqO lstO
  rw [wordI_left _ _ _ (by omega), byteI_left _ _ _ (by omega), hm, rqB_op, List.length_append, hl]
  simp only [List.length_cons, List.length_nil]
  rw [if_neg (by omega), if_neg (by omega), if_neg (by omega), if_neg (by omega), if_neg (by omega), if_neg (by omega), if_neg (by omega), if_neg (by omega), if_pos (by omega)]
  congr 2
/-- cut off -/
theorem reqO_cut (k : Nat) (ho : 1 ≤ op ∧ op ≤ 6) (h : ys.length ≤ 200) (hk : k < 45 + ys.length) : ∃ z, reqO ((rqB op f off n ys).take k) = some (2, z) := by
  have hm := rqB_m op f off n ys (by omega)
  have hl : ((rqB op f off n ys).take k).length = k := by rw [List.length_take, rqB_len]; omega
  unfold reqO
  rw [hl]
  by_cases h0 : k < 1
  · exact ⟨_, by rw [if_pos h0]⟩
  have hb : byteI ((rqB op f off n ys).take k) 0 = op % 256 := by rw [byteI_take _ _ _ (by omega), rqB_op]
  rw [if_neg h0, hb, if_neg (by omega)]
  by_cases h1 : k < 33
  · exact ⟨_, by rw [if_pos h1]⟩
  by_cases h2 : k < 37
  · exact ⟨_, by rw [if_neg h1, if_pos h2]⟩
  by_cases h3 : k < 41
  · exact ⟨_, by rw [if_neg h1, if_neg h2, if_pos h3]⟩
  rw [if_neg h1, if_neg h2, if_neg h3]
  unfold lstO
  rw [hl]
  by_cases h4 : k < 41 + 4
  · exact ⟨_, by rw [if_pos h4]⟩
  rw [if_neg h4, wordI_take _ _ _ (by omega), hm, if_neg (by omega)]
  exact ⟨_, by rw [if_pos (by omega)]⟩
theorem rspO_cut (k : Nat) (ho : 0 ≤ code ∧ code ≤ 19) (h : ys.length ≤ 200) (hk : k < 9 + ys.length) : ∃ z, rspO ((rsB code n ys).take k) = some (2, z) := by
  have hm := rsB_m code n ys (by omega)
  have hl : ((rsB code n ys).take k).length = k := by rw [List.length_take, rsB_len]; omega
  unfold rspO
  rw [hl]
  by_cases h0 : k < 1
  · exact ⟨_, by rw [if_pos h0]⟩
  have hb : byteI ((rsB code n ys).take k) 0 = code % 256 := by rw [byteI_take _ _ _ (by omega), rsB_code]
  rw [if_neg h0, hb, if_neg (by omega)]
  by_cases h1 : k < 5
  · exact ⟨_, by rw [if_pos h1]⟩
  rw [if_neg h1]
  unfold lstO
  rw [hl]
  by_cases h4 : k < 5 + 4
  · exact ⟨_, by rw [if_pos h4]⟩
  rw [if_neg h4, wordI_take _ _ _ (by omega), hm, if_neg (by omega)]
  exact ⟨_, by rw [if_pos (by omega)]⟩
/-- no such operation -/
theorem reqO_form (ho : 7 ≤ op ∧ op < 256) : reqO (rqB op f off n ys) = some (4, 0) := by
  unfold reqO
  rw [rqB_op, rqB_len, if_neg (by omega), if_pos (by omega)]
theorem rspO_form (ho : 20 ≤ code ∧ code < 256) : rspO (rsB code n ys) = some (4, 0) := by
  unfold rspO
  rw [rsB_code, rsB_len, if_neg (by omega), if_pos (by omega)]
/-- too many bytes -/
theorem rspO_big (ho : 0 ≤ code ∧ code ≤ 19) (h : 200 < ys.length) (hm : ys.length ≤ 1000000) : rspO (rsB code n ys) = some (1, 5) := by
  have hm := rsB_m code n ys (by omega)
  unfold rspO lstO
  rw [hm, rsB_code, rsB_len]
  rw [if_neg (by omega), if_neg (by omega), if_neg (by omega), if_neg (by omega), if_pos (by omega)]
  rfl
end
end Go.Proofs.YtffkjbbhbpaacaaDoor
