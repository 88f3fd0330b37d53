import Derived.Test.YtffkjbbhbpaacaaDoorSlB
import Derived.LaidEql
import Derived.LaidLaws
import Derived.LaidSub
import Derived.MakeChecks
namespace Go.Proofs.YtffkjbbhbpaacaaDoor
open Go.RowKit

/-- the errors of package api: names, variables, texts, in the order of couriersee.sentinels -/
def errName : Nat → String
  | 0 => "courier/api.ErrOff"
  | 1 => "courier/api.ErrRange"
  | 2 => "courier/api.ErrShort"
  | 3 => "courier/api.ErrTrail"
  | 4 => "courier/api.ErrForm"
  | 5 => "courier/api.ErrPanic"
  | 6 => "courier/api.ErrFull"
  | 7 => "courier/api.ErrStore"
  | 8 => "courier/api.ErrTag"
  | 9 => "courier/api.ErrGap"
  | 10 => "courier/api.ErrOld"
  | 11 => "courier/api.ErrKey"
  | 12 => "courier/api.ErrRoot"
  | 13 => "courier/api.ErrNone"
  | 14 => "courier/api.ErrOpen"
  | 15 => "courier/api.ErrDigest"
  | 16 => "courier/api.ErrState"
  | 17 => "courier/api.ErrLimit"
  | _ => "courier/api.ErrClosed"
def gE : Nat → Nat
  | 0 => 0 | 1 => 1 | 2 => 2 | 3 => 3 | 4 => 4 | 5 => 5 | 6 => 6 | 7 => 7 | 8 => 8 | 9 => 9 | 10 => 10 | 11 => 11 | 12 => 12 | 13 => 13 | 14 => 14 | 15 => 15 | 16 => 16 | 17 => 17 | _ => 18
def errText : Nat → List UInt8
  | 0 => [116, 104, 101, 114, 101, 32, 105, 115, 32, 110, 111, 32, 112, 111, 119, 101, 114]
  | 1 => [97, 32, 110, 117, 109, 98, 101, 114, 32, 111, 117, 116, 32, 111, 102, 32, 105, 116, 115, 32, 114, 97, 110, 103, 101]
  | 2 => [98, 121, 116, 101, 115, 32, 116, 104, 97, 116, 32, 101, 110, 100, 32, 116, 111, 111, 32, 101, 97, 114, 108, 121]
  | 3 => [98, 121, 116, 101, 115, 32, 98, 101, 104, 105, 110, 100, 32, 116, 104, 101, 32, 101, 110, 100]
  | 4 => [110, 111, 116, 32, 97, 115, 32, 105, 116, 32, 115, 104, 111, 117, 108, 100, 32, 98, 101]
  | 5 => [115, 111, 109, 101, 116, 104, 105, 110, 103, 32, 119, 101, 110, 116, 32, 119, 114, 111, 110, 103]
  | 6 => [116, 104, 101, 114, 101, 32, 105, 115, 32, 110, 111, 32, 114, 111, 111, 109]
  | 7 => [97, 32, 115, 116, 111, 114, 101, 32, 116, 104, 97, 116, 32, 99, 97, 110, 39, 116, 32, 98, 101]
  | 8 => [110, 111, 116, 32, 115, 101, 97, 108, 101, 100, 32, 98, 121, 32, 116, 104, 97, 116, 32, 107, 101, 121]
  | 9 => [116, 111, 111, 32, 109, 97, 110, 121, 32, 97, 114, 101, 32, 109, 105, 115, 115, 105, 110, 103]
  | 10 => [116, 104, 97, 116, 32, 119, 97, 115, 32, 116, 104, 101, 114, 101, 32, 97, 108, 114, 101, 97, 100, 121]
  | 11 => [110, 111, 32, 107, 101, 121, 32, 121, 101, 116]
  | 12 => [97, 110, 111, 116, 104, 101, 114, 32, 114, 111, 111, 116]
  | 13 => [116, 104, 101, 114, 101, 32, 105, 115, 32, 110, 111, 110, 101]
  | 14 => [105, 116, 32, 105, 115, 32, 116, 104, 101, 114, 101, 32, 97, 108, 114, 101, 97, 100, 121]
  | 15 => [97, 110, 111, 116, 104, 101, 114, 32, 100, 105, 103, 101, 115, 116]
  | 16 => [110, 111, 116, 32, 110, 111, 119]
  | 17 => [109, 111, 114, 101, 32, 116, 104, 97, 110, 32, 109, 97, 121, 32, 98, 101]
  | _ => [99, 108, 111, 115, 101, 100]
def errDat (i : Nat) : DataW Unit := .iface "*errors.errorString" (.ptr (.agg [.lit (.string (errText i))]))
abbrev errV (a : Addr) : Value := .iface 143 (.pointer (some a))
theorem errText_inj : ∀ i, i < 19 → ∀ j, j < 19 → errText i = errText j → i = j := by decide +kernel
theorem errNamed : ∀ i, i < 19 → Tryd.prog.globalNamed (errName i) = some (gE i) := by decide +kernel
theorem errTyped : ∀ i, i < 19 → (Tryd.prog.globals[gE i]?).map (·.type) = some 80 := by decide +kernel
theorem errStar : "*" ++ "errors.errorString" = "*errors.errorString" := by decide
theorem errRowed (u : TypeId) (h : Tryd.prog.typeName? 3 u = some "*errors.errorString") : u = 143 :=
  typeName_ptr_named (nm := "errors.errorString") (by rw [errStar]; kernel_rfl) (by kernel_rfl) (by decide) u (by rw [errStar]; exact h)

/-- api's errors as they lie: error i's variable holds a pointer to E i; all apart -/
structure ErrsAt (E : Nat → Addr) (W : World) : Prop where
  c : ∀ i, i < 19 → W.cell? ⟨gE i, 0, none⟩ = some (errV (E i))
  b : ∀ i, i < 19 → ∃ c t, W.heap[(E i).block]? = some (.cells c t (0, 0))
  n : ∀ i, i < 19 → ∀ j, j < 19 → E i = E j → i = j
theorem ErrsAt.ltE {E : Nat → Addr} {W : World} (h : ErrsAt E W) {i : Nat} (hi : i < 19) : (E i).block < W.heap.size := by
  obtain ⟨c, t, e⟩ := h.b i hi
  exact (Array.getElem?_eq_some_iff.1 e).1
theorem ErrsAt.ltG {E : Nat → Addr} {W : World} (h : ErrsAt E W) {i : Nat} (hi : i < 19) : gE i < W.heap.size :=
  World.block_lt_of_cell? W _ (h.c i hi)
theorem ErrsAt.below {E : Nat → Addr} {W W' : World} (h : ErrsAt E W) (hb : Below W.heap.size W W') : ErrsAt E W' :=
  ⟨fun i hi => by rw [World.cell?_of_block (hb.block _ (h.ltG hi))]; exact h.c i hi, fun i hi => by obtain ⟨c, t, e⟩ := h.b i hi; exact ⟨c, t, by rw [hb.block _ (h.ltE hi)]; exact e⟩, h.n⟩
theorem ErrsAt.of_heap {E : Nat → Addr} {W W' : World} (h : ErrsAt E W) (hb : W'.heap = W.heap) : ErrsAt E W' :=
  ⟨fun i hi => (show W'.cell? ⟨gE i, 0, none⟩ = W.cell? ⟨gE i, 0, none⟩ from World.cell?_of_block (by rw [hb])).trans (h.c i hi), fun i hi => by rw [hb]; exact h.b i hi, h.n⟩

set_option maxRecDepth 100000 in
theorem err_of_laid {laid : List (String × DataW Unit)} {W : World} (h : laidMetH Tryd.prog laid W) (i : Nat) (hi : i < 19) (hin : laid.filter (fun x => x.1 == errName i) = [(errName i, errDat i)]) :
    ∃ a s, W.cell? ⟨gE i, 0, none⟩ = some (errV a) ∧ W.cell? a = some (.string s) ∧ s.data.toList = errText i ∧ ∃ c t, W.heap[a.block]? = some (.cells c t (0, 0)) := by
  have h1 := h.filter (fun x => x.1 == errName i)
  rw [hin, MakeChecks.laidMetH_plain _ _ _ (by rfl)] at h1
  obtain ⟨ps, ⟨g0, t0, cs0, f0, p0, q0, hg0, ht0, hv0, hd0, hq0, e0⟩, hnd, hrows⟩ := h1
  obtain rfl := Option.some.inj ((errNamed i hi).symm.trans hg0)
  obtain rfl := Option.some.inj ((errTyped i hi).symm.trans ht0)
  have hq0' : q0 = [] := hq0
  subst hq0'
  subst e0
  obtain ⟨l0⟩ := cs0
  have cE : Tryd.prog.cellsOf 80 = 1 := by kernel_rfl
  have ok0 : ∀ u v, l0 = [.iface u v] → Value.okWide Tryd.prog W .any 0 u v := fun u v e => by
    subst e
    exact (hrows (gE i) 0 (by simp [MemPlace.row])).2 u v (by simpa using World.var?_cell hg0 hv0 0)
  obtain ⟨a0, s0, rfl, hc0, hs0, hz0, rfl⟩ := errorString_of_trod Tryd.underlying80 errRowed Tryd.underlying143 Tryd.underlying159 rfl rfl Tryd.underlying9 (show Tryd.prog.cellsOf 159 = 1 by kernel_rfl) (show Tryd.prog.cellsOf 9 = 1 by kernel_rfl) hd0 ok0
  obtain ⟨c0, t0, hb0⟩ := (hrows a0.block a0.off (by simp [MemPlace.row])).1
  exact ⟨a0, s0, by simpa using World.var?_cell hg0 hv0 0, hc0, hs0, c0, t0, hb0⟩
theorem errs_of_laid {laid : List (String × DataW Unit)} {W : World} (h : laidMetH Tryd.prog laid W) (hin : ∀ i, i < 19 → laid.filter (fun x => x.1 == errName i) = [(errName i, errDat i)]) : ∃ E, ErrsAt E W := by
  have hx : ∀ i, ∃ a : Addr, i < 19 → ∃ s, W.cell? ⟨gE i, 0, none⟩ = some (errV a) ∧ W.cell? a = some (.string s) ∧ s.data.toList = errText i ∧ ∃ c t, W.heap[a.block]? = some (.cells c t (0, 0)) := by
    intro i
    by_cases hi : i < 19
    · obtain ⟨a, s, h1⟩ := err_of_laid h i hi (hin i hi)
      exact ⟨a, fun _ => ⟨s, h1⟩⟩
    · exact ⟨⟨0, 0, none⟩, fun h => absurd h hi⟩
  refine ⟨fun i => (hx i).choose, fun i hi => ?_, fun i hi => ?_, fun i hi j hj e => ?_⟩
  · obtain ⟨s, h1, _⟩ := (hx i).choose_spec hi
    exact h1
  · obtain ⟨s, _, _, _, h1⟩ := (hx i).choose_spec hi
    exact h1
  · obtain ⟨s, _, h1, h2, _⟩ := (hx i).choose_spec hi
    obtain ⟨s', _, h1', h2', _⟩ := (hx j).choose_spec hj
    rw [show (hx i).choose = (hx j).choose from e] at h1
    have e2 := h1.symm.trans h1'
    simp only [Option.some.injEq, Value.string.injEq] at e2
    subst e2
    exact errText_inj i hi j hj (h2.symm.trans h2')

theorem Tryd.infoErrP : (Tryd.prog.info? 143).map (·.comparable) = some true := by kernel_rfl
theorem Tryd.infoErrS : (Tryd.prog.info? 159).map (·.size) = some 1 := by kernel_rfl
theorem eql_err (a b : Addr) (w : World) (ha : ∃ c t, w.heap[a.block]? = some (.cells c t (0, 0))) (hb : ∃ c t, w.heap[b.block]? = some (.cells c t (0, 0))) : (binOp .eql 80 (errV a) (errV b)).run Tryd.prog w = .ok (.bool (decide (a = b))) w := by
  obtain ⟨i, hi, hc⟩ := Option.map_eq_some_iff.1 Tryd.infoErrP
  obtain ⟨j, hj, hs⟩ := Option.map_eq_some_iff.1 Tryd.infoErrS
  by_cases e : a = b
  · subst e
    rw [run_eql_iface_ptr_same w a Tryd.underlying80 Tryd.underlying143 hi hc hj]
    simp
  · obtain ⟨ca, ta, hca⟩ := ha
    obtain ⟨cb, tb, hcb⟩ := hb
    rw [run_eql_iface_ptr_other w Tryd.underlying80 Tryd.underlying143 hi hc hj (by rw [hs]; decide) e hca hcb]
    simp [e]

/-- the list of api's errors -/
def errRow (E : Nat → Addr) : Array Value := ((List.range 19).map fun i => errV (E i)).toArray
@[simp] theorem errRow_size (E : Nat → Addr) : (errRow E).size = 19 := by simp [errRow]
theorem errRow_get (E : Nat → Addr) (i : Nat) (h : i < 19) : (errRow E)[i]? = some (errV (E i)) := by simp [errRow, h]

/-- an error as plain data -/
def frow (c : Int) (p : Bool) (q : Int) : Array Value := #[.int .i64 c, .bool p, .int .i64 q]
theorem frow_one (c : Int) (p : Bool) (q : Int) : (frow c p q).all (·.oneCell') = true := by kernel_rfl
theorem none_any (w : World) : Calls Tryd.prog 79 #[] w fun e w' => e = .returned (.agg (frow 0 false 0)) ∧ Below w.heap.size w w' := by
  go_enter Tryd.func79, Tryd.ntmps79
  go_wp2
  refine bodyPost_ret (results_cell_row rfl _ _ _ _ _ _ _ rfl (heap_alloc_new _ _) Tryd.underlying64 rfl (by kernel_rfl)) rfl ?_
  exact ⟨rfl, (Below.refl _ _).alloc (Nat.le_refl _) _⟩
theorem assert_err (a : Addr) (w : World) : (Instr.typeAssert (errV a) 80 115 true).run Tryd.prog w = .ok (.tuple #[.pointer none, .bool false]) w := by kernel_rfl
/-- an error and what it is as plain data -/
def Reads (E : Nat → Addr) (e : Value) (c : Int) : Prop := (e = .nilIface ∧ c = 0) ∨ ∃ k, k < 19 ∧ e = errV (E k) ∧ c = 101 + (k : Int)
structure SameS (w : World) (B : Nat) (d : Int) (E : Nat → Addr) (W : World) : Prop where
  r : W.rangeAt B 0 (frow d false 0).toList
  lt : B < W.heap.size
  e : ErrsAt E W
  b : Below w.heap.size w W
theorem SameS.below {w : World} {B : Nat} {d : Int} {E : Nat → Addr} {W W' : World} (x : SameS w B d E W) (hb : Below W.heap.size W W') : SameS w B d E W' :=
  ⟨rangeAt_below x.r hb x.lt, Nat.lt_of_lt_of_le x.lt hb.size, x.e.below hb, x.b.trans (hb.mono x.b.size)⟩

end Go.Proofs.YtffkjbbhbpaacaaDoor
