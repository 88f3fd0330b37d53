import Derived.Test.YtklooieghlnblaaSkf
import Derived.Deep.MidRow
import Derived.Laws.ResultCell
import Derived.Shelf.SlicesE.Clone
/-
  skip: Find, All.
-/
namespace Go.Proofs.Ytklooieghlnblaa
open Go.RowKit

theorem results_row_tmp {P : Program} {fn : Func} {p q : Tmp} {ty : TypeId} (h : fn.results = #[.cell p ty, .tmp q]) (tmps : Array Value) (w : World) (g : Nat) (t : TypeId) (cs : Array Value) (fr : Nat × Nat) (d : TypeDesc)
    (hp : tmps.getD p undef = .pointer (some ⟨g, 0, none⟩)) (hg : w.heap[g]? = some (.cells cs t fr)) (v : Value) (hq : tmps.getD q undef = v)
    (hu : P.underlying ty = some d) (hd : (match d with | .struct _ | .array _ _ => true | _ => false) = true) (hi : (P.info? ty).map (·.size) = some cs.size) :
    (results fn tmps).run P w = .ok (.tuple #[.agg cs, v]) w := by
  have hp' : tmps[p]?.getD undef = .pointer (some ⟨g, 0, none⟩) := by simpa using hp
  have hq' : tmps[q]?.getD undef = v := by simpa using hq
  simp [results, h, hp', hq', asAddr, run_loadVar_row w g t ty cs fr d hg hu hd hi]
theorem setRow_below {B : Nat} {w w1 : World} (h : Below B w w1) (g : Nat) (hg : B ≤ g) (cs : Array Value) : Below B w (w1.setRow g cs) :=
  h.trans ⟨rfl, rfl, rfl, by simp [World.setRow], fun k hk => setRow_other w1 g k cs (by omega)⟩
theorem wpList_buildV {P : Program} {w : World} {ops : Array Oper} {rest : List Oper} {o : Oper} {a : Act} {Q : Exit → Act → World → Prop} (hgd : o.guard = none) (t : TypeId) (parts : Array (Nat × Operand)) (ho : o.op = .build t parts)
    (ps : Array (Nat × Value)) (hp : (parts.map fun (i, x) => (i, a.eval x)) = ps) (v : Value)
    (hz : ∀ w, (Instr.build t ps).run P w = .ok v w) (h : wpList P ops Q rest (a.put o.dst v) w) : wpList P ops Q (o :: rest) a w := by
  refine wpList_plain hgd fun K hK => ?_
  unfold Oper.wp execOp
  simp only [ho]
  simp [hp, hz, Result.andThen]
  exact hK _ _ h
theorem wpList_allocV {P : Program} {w : World} {ops : Array Oper} {rest : List Oper} {o : Oper} {a : Act} {Q : Exit → Act → World → Prop} (hgd : o.guard = none) (t : TypeId) (ho : o.op = .alloc t) (z : Array Value)
    (hz : ∀ w, (zeroValue t).run P w = .ok (.agg z) w) (h : wpList P ops Q rest (a.put o.dst (.pointer (some ⟨w.heap.size, 0, none⟩))) (w.alloc (.cells z t))) : wpList P ops Q (o :: rest) a w := by
  refine wpList_plain hgd fun K hK => ?_
  unfold Oper.wp execOp
  simp [ho, Instr.alloc, hz, newVar, newRow, Value.cells, Result.andThen]
  exact hK _ _ h
def zkey : List UInt8 := List.replicate 32 0
def findK (es : List Ent) (p : Ent → Bool) : List UInt8 := match es.find? p with | none => zkey | some e => e.k
theorem find_of {es : List Ent} {p : Ent → Bool} {i : Nat} (h : es.findIdx? p = some i) : findK es p = es[i]!.k := by
  obtain ⟨hl, hp, hn⟩ := List.findIdx?_eq_some_iff_getElem.1 h
  have : es.find? p = some es[i] := List.find?_eq_some_iff_getElem.2 ⟨hp, i, hl, rfl, fun j hj => by simpa using hn j hj⟩
  unfold findK
  rw [this]
  simp [hl]
theorem find_none {es : List Ent} {p : Ent → Bool} (h : es.findIdx? p = none) : findK es p = zkey := by
  rw [List.findIdx?_eq_none_iff] at h
  unfold findK
  rw [List.find?_eq_none.2 fun x hx => by simp [h x hx]]
theorem findK_len (es : List Ent) (p : Ent → Bool) : (findK es p).length = 32 := by
  unfold findK
  cases es.find? p with
  | none => simp [zkey]
  | some e => exact e.hk
theorem cellB_one (q : List UInt8) : (q.map cellB).toArray.all (·.oneCell') = true := by simp [cellB, Value.oneCell']
theorem idx_E (g c n i : Nat) (hi : i < n) (w : World) : (Instr.indexAt 24 (.slice (some ⟨g, 0, none⟩) n c) (.int .i64 (i : Int))).run Try.prog w = .ok (.pointer (some ⟨g, i * 65, none⟩)) w := by
  have hu := Try.underlying24
  have e2 : Try.prog.elem 24 = 46 := by simp [Program.elem, hu]
  rw [run_indexAt_slice (h := by rw [e2]; exact hu), if_pos (by omega)]
  simp only [e2, size_E, Result.andThen, Int.toNat_natCast, Addr.add_lit, Nat.zero_add]
theorem key_range {w : World} {base g c : Nat} {es : List Ent} (h : w.ownsRow base 46 65 (.slice (some ⟨g, 0, none⟩) es.length c) es.length (cells es)) (i : Nat) (hi : i < es.length) : w.rangeAt g (i * 65 + 32) (es[i]!.k.map cellB) := by
  intro j v hv
  have hj : j < 32 := by
    have := (List.getElem?_eq_some_iff.1 hv).1
    rwa [List.length_map, Ent.hk] at this
  have := row_cells h i hi (32 + j) v (by
    unfold Ent.ce ceT
    rw [List.getElem?_append_right (by rw [List.length_map, Ent.hd]; omega), List.length_map, Ent.hd, show 32 + j - 32 = j by omega, List.getElem?_append_left (by rw [List.length_map, Ent.hk]; exact hj)]
    exact hv)
  rw [Nat.zero_add] at this
  rw [show i * 65 + 32 + j = i * 65 + (32 + j) by omega]
  exact this
theorem key_size (q : List UInt8) (h : q.length = 32) : (q.map cellB).toArray.size = 32 := by simpa using h
def KeyPost (w : World) (k : List UInt8) (b : Bool) (e : Ending) (w' : World) : Prop := e = .returned (.tuple #[.agg (k.map cellB).toArray, .bool b]) ∧ Below w.heap.size w w'
set_option maxRecDepth 100000 in
set_option maxHeartbeats 1600000 in
theorem find_any (es : List Ent) (q : List UInt8) (m : Int) (hq : q.length = 32) (hn : es.length ≤ 1000) (base B o : Nat) (v : Value) (w : World) (h : SkAt w base B o v es) :
    Calls Try.prog 15 #[.pointer (some ⟨B, o, none⟩), .agg (q.map cellB).toArray, .int .u32 m] w (KeyPost w (findK es (Ent.is q m)) (es.any (Ent.is q m))) := by
  have hb1 : Below w.heap.size w ((w.alloc (Obj.cells (q.map cellB).toArray 31)).alloc (Obj.cells (zkey.map cellB).toArray 31)) := ((Below.refl _ _).alloc (Nat.le_refl _) _).alloc (by simp) _
  have h1 := h.below hb1
  have hr0 := heap2_0 w (Obj.cells (q.map cellB).toArray 31) (Obj.cells (zkey.map cellB).toArray 31)
  have hr1 := heap2_1 w (Obj.cells (q.map cellB).toArray 31) (Obj.cells (zkey.map cellB).toArray 31)
  have hpl := place_any es q m hq hn base B o v _ h1
  have hsz := key_size q hq
  have hB := h.lt
  have H1 := Lib.hid h1
  have hz32 : ∀ w, (Instr.build 31 #[]).run Try.prog w = .ok (.agg (zkey.map cellB).toArray) w := fun _ => by kernel_rfl
  clear h h1
  cases hp : es.findIdx? (Ent.is q m) with
  | none =>
    have HA := Lib.hid (none_any hp).1
    have HE := Lib.hid (find_none hp)
    rw [show plc es q m = -1 by unfold plc; rw [hp]] at hpl
    clear hp
    go_enter Try.func15, Try.ntmps15
    go_wp2_with (first | (refine wpList_allocV rfl 31 rfl (zkey.map cellB).toArray (fun _ => by kernel_rfl) ?_) | (refine wpList_load_row rfl 31 _ rfl w.heap.size rfl _ _ _ _ hr0 Try.underlying31 rfl (by rw [hsz]; exact info_key) ?_) | (go_at_call 18; refine hpl.mono ?_; rintro e w1 ⟨rfl, hb'⟩; have hrr := (hb'.block (w.heap.size + 1) (by simp)).trans hr1) | (refine wpList_buildV rfl 31 _ rfl #[] (by kernel_rfl) _ hz32 ?_) | (refine wpList_store_row rfl 31 _ _ rfl (w.heap.size + 1) _ rfl rfl _ _ hrr (by rw [key_size _ (by simp [zkey])]; exact info_key) rfl (cellB_one _) ?_))
    refine bodyPost_ret (results_row_tmp rfl _ _ _ _ _ _ _ rfl (setRow_heap w1 _ _ _ _ _ hrr) _ rfl Try.underlying31 rfl (by rw [key_size _ (by simp [zkey])]; exact info_key)) rfl ?_
    exact ⟨by rw [HA.out, HE.out]; rfl, setRow_below (hb1.trans (hb'.mono (by simp; omega))) _ (by omega) _⟩
  | some i =>
    have hi := find_lt hp
    have HA := Lib.hid (any_find hp)
    have HE := Lib.hid (find_of hp)
    rw [show plc es q m = (i : Int) by unfold plc; rw [hp]] at hpl
    clear hp
    obtain ⟨g, c, rfl⟩ : ∃ g c, v = .slice (some ⟨g, 0, none⟩) es.length c := by
      rcases H1.out.own.2 with ⟨_, h0⟩ | ⟨g, c, _, h1, _⟩
      · omega
      · exact ⟨g, c, h1⟩
    have hidx := idx_E g c es.length i hi
    obtain ⟨K, hK⟩ : ∃ K, K = es[i]!.k := ⟨_, rfl⟩
    have hKl : K.length = 32 := by rw [hK, Ent.hk]
    rw [← hK] at HE
    have HK := Lib.hid hK
    clear hK
    have hkl : (K.map cellB).length = 32 := by rw [List.length_map, hKl]
    have HI := Lib.hid hi
    have HKl := Lib.hid hKl
    clear hi hKl
    go_enter Try.func15, Try.ntmps15
    go_wp2_with (first | (refine wpList_allocV rfl 31 rfl (zkey.map cellB).toArray (fun _ => by kernel_rfl) ?_) | (refine wpList_load_row rfl 31 _ rfl w.heap.size rfl _ _ _ _ hr0 Try.underlying31 rfl (by rw [hsz]; exact info_key) ?_) | (go_at_call 18; refine hpl.mono ?_; rintro e w1 ⟨rfl, hb'⟩; have hrr := (hb'.block (w.heap.size + 1) (by simp)).trans hr1; have hsk := H1.out.below hb'; have hc1 := hsk.cell; have hkr : Hid (w1.rangeAt g (i * 65 + 32) (K.map cellB)) := (by rw [HK.out]; exact key_range hsk.own i HI.out); clear hsk) | (refine wpList_load_mid rfl 31 _ rfl g (i * 65 + 32) rfl _ _ hkr.out Try.underlying31 rfl (by rw [hkl]; exact info_key) ?_) | (refine wpList_store_row rfl 31 _ _ rfl (w.heap.size + 1) _ rfl rfl _ _ hrr (by rw [key_size _ HKl.out]; exact info_key) (by rw [key_size _ HKl.out, key_size _ (by simp [zkey])]) (cellB_one _) ?_))
    refine bodyPost_ret (results_row_tmp rfl _ _ _ _ _ _ _ rfl (setRow_heap w1 _ _ _ _ _ hrr) _ rfl Try.underlying31 rfl (by rw [key_size _ HKl.out]; exact info_key)) rfl ?_
    exact ⟨by rw [HA.out, HE.out]; rfl, setRow_below (hb1.trans (hb'.mono (by simp; omega))) _ (by omega) _⟩

def rhoC : Go.Shelf.Ren := ⟨fun _ => 21, fun n => if n = 4 then 4 else if n = 22 then 24 else 46, fun n => n⟩
theorem layC : SlLaysE0.n41 Try.prog rhoC where
  mixed := by kernel_rfl
  f41 := ⟨Try.f21.name, by kernel_rfl, by kernel_rfl⟩
  t4 := by kernel_rfl
  a4 := fun _ => by kernel_rfl
  z4 := fun _ => by kernel_rfl
  v4 := fun _ => by kernel_rfl
  t22 := by kernel_rfl
  a22 := fun _ => by kernel_rfl
  z22 := fun _ => by kernel_rfl
  v22 := fun _ => by kernel_rfl
def AllPost (w : World) (es : List Ent) (e : Ending) (w' : World) : Prop := ∃ v', e = .returned v' ∧ w'.ownsRow w.heap.size 46 65 v' es.length (cells es) ∧ Below w.heap.size w w'
theorem info_E : (Try.prog.info? 46).map (fun i => (i.size, i.bytes)) = some (65, 68) := by kernel_rfl
theorem zero_info (i : TypeInfo) (h : Try.prog.info? 46 = some i) : i.zero = some (.agg zeroE.toArray) := by
  have : (Try.prog.info? 46).bind (·.zero) = some (.agg zeroE.toArray) := by kernel_rfl
  rw [h] at this
  exact this
theorem clone_any (es : List Ent) (hn : es.length ≤ 1000) (base : Nat) (v : Value) (w : World) (h : w.ownsRow base 46 65 v es.length (cells es)) :
    Calls Try.prog 21 #[v] w (AllPost w es) := by
  rcases h.2 with ⟨rfl, h0⟩ | ⟨g, c, cur, rfl, _, hg, _⟩
  · obtain rfl : es = [] := List.eq_nil_of_length_eq_zero h0
    refine (AnyE.slices_Clone_nil layC 0 0 w).mono ?_
    rintro e w' ⟨rfl, rfl⟩
    exact ⟨_, rfl, World.ownsRow_nil _ _ _ _, Below.refl _ _⟩
  · obtain ⟨i, hi, hz⟩ := Option.map_eq_some_iff.1 info_E
    simp only [Prod.mk.injEq] at hz
    refine (AnyE.slices_Clone layC i (.agg zeroE.toArray) 65 68 hi (zero_info i hi) hz.1 hz.2 (by show zeroE.length = 65; exact Ent.ce_len _) (by omega) size_E g 0 es.length c (cells es) w (cells_len es) (by unfold maxLen; omega) (by omega) ?_ (cells_one es)).mono ?_
    · intro j u hu
      have := h.cells (g := g) rfl j u hu
      rwa [Addr.add_lit] at this
    · rintro e w' ⟨v', rfl, ho, _, hb⟩
      exact ⟨v', rfl, ho, hb⟩
set_option maxHeartbeats 400000 in
theorem all_any (es : List Ent) (hn : es.length ≤ 1000) (base B o : Nat) (v : Value) (w : World) (h : SkAt w base B o v es) :
    Calls Try.prog 12 #[.pointer (some ⟨B, o, none⟩)] w (AllPost w es) := by
  have hcon := clone_any es hn base v w h.own
  have hcell := h.cell
  clear h
  go_enter Try.func12, Try.ntmps12
  go_wp2_with (go_at_call 21; refine hcon.mono ?_; rintro e w' ⟨v', rfl, ho, hb⟩)
  go_ret
  exact ⟨v', rfl, ho, hb⟩
end Go.Proofs.Ytklooieghlnblaa
