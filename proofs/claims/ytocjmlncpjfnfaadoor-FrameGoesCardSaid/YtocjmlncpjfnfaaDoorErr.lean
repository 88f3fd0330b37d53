import Derived.Test.YtocjmlncpjfnfaaDoorSlB
import Derived.LaidEql
import Derived.LaidLaws
import Derived.LaidSub
import Derived.MakeChecks
namespace Go.Proofs.YtocjmlncpjfnfaaDoor
open Go.RowKit

/-- the errors of package api: names, variables, texts, in the order of couriersee.sentinels -/
def errName : Nat → String
  | 0 => "courier/api.ErrOff"
  | 1 => "courier/api.ErrRange"
  | 2 => "courier/api.ErrShort"
  | 3 => "courier/api.ErrTrail"
  | 4 => "courier/api.ErrForm"
  | 5 => "courier/api.ErrPanic"
  | 6 => "courier/api.ErrFull"
  | 7 => "courier/api.ErrStore"
  | 8 => "courier/api.ErrTag"
  | 9 => "courier/api.ErrGap"
  | 10 => "courier/api.ErrOld"
  | 11 => "courier/api.ErrKey"
  | 12 => "courier/api.ErrRoot"
  | 13 => "courier/api.ErrNone"
  | 14 => "courier/api.ErrOpen"
  | 15 => "courier/api.ErrDigest"
  | 16 => "courier/api.ErrState"
  | 17 => "courier/api.ErrLimit"
  | _ => "courier/api.ErrClosed"
def gE : Nat → Nat
  | 0 => 2 | 1 => 6 | 2 => 7 | 3 => 4 | 4 => 5 | 5 => 3 | 6 => 8 | 7 => 9 | 8 => 10 | 9 => 11 | 10 => 12 | 11 => 13 | 12 => 14 | 13 => 0 | 14 => 15 | 15 => 16 | 16 => 1 | 17 => 17 | _ => 18
def errText : Nat → List UInt8
  | 0 => [116, 104, 101, 114, 101, 32, 105, 115, 32, 110, 111, 32, 112, 111, 119, 101, 114]
  | 1 => [97, 32, 110, 117, 109, 98, 101, 114, 32, 111, 117, 116, 32, 111, 102, 32, 105, 116, 115, 32, 114, 97, 110, 103, 101]
  | 2 => [98, 121, 116, 101, 115, 32, 116, 104, 97, 116, 32, 101, 110, 100, 32, 116, 111, 111, 32, 101, 97, 114, 108, 121]
  | 3 => [98, 121, 116, 101, 115, 32, 98, 101, 104, 105, 110, 100, 32, 116, 104, 101, 32, 101, 110, 100]
  | 4 => [110, 111, 116, 32, 97, 115, 32, 105, 116, 32, 115, 104, 111, 117, 108, 100, 32, 98, 101]
  | 5 => [115, 111, 109, 101, 116, 104, 105, 110, 103, 32, 119, 101, 110, 116, 32, 119, 114, 111, 110, 103]
  | 6 => [116, 104, 101, 114, 101, 32, 105, 115, 32, 110, 111, 32, 114, 111, 111, 109]
  | 7 => [97, 32, 115, 116, 111, 114, 101, 32, 116, 104, 97, 116, 32, 99, 97, 110, 39, 116, 32, 98, 101]
  | 8 => [110, 111, 116, 32, 115, 101, 97, 108, 101, 100, 32, 98, 121, 32, 116, 104, 97, 116, 32, 107, 101, 121]
  | 9 => [116, 111, 111, 32, 109, 97, 110, 121, 32, 97, 114, 101, 32, 109, 105, 115, 115, 105, 110, 103]
  | 10 => [116, 104, 97, 116, 32, 119, 97, 115, 32, 116, 104, 101, 114, 101, 32, 97, 108, 114, 101, 97, 100, 121]
  | 11 => [110, 111, 32, 107, 101, 121, 32, 121, 101, 116]
  | 12 => [97, 110, 111, 116, 104, 101, 114, 32, 114, 111, 111, 116]
  | 13 => [116, 104, 101, 114, 101, 32, 105, 115, 32, 110, 111, 110, 101]
  | 14 => [105, 116, 32, 105, 115, 32, 116, 104, 101, 114, 101, 32, 97, 108, 114, 101, 97, 100, 121]
  | 15 => [97, 110, 111, 116, 104, 101, 114, 32, 100, 105, 103, 101, 115, 116]
  | 16 => [110, 111, 116, 32, 110, 111, 119]
  | 17 => [109, 111, 114, 101, 32, 116, 104, 97, 110, 32, 109, 97, 121, 32, 98, 101]
  | _ => [99, 108, 111, 115, 101, 100]
def errDat (i : Nat) : DataW Unit := .iface "*errors.errorString" (.ptr (.agg [.lit (.string (errText i))]))
abbrev errV (a : Addr) : Value := .iface 149 (.pointer (some a))
theorem errText_inj : ∀ i, i < 19 → ∀ j, j < 19 → errText i = errText j → i = j := by decide +kernel
theorem errNamed : ∀ i, i < 19 → Tryd.prog.globalNamed (errName i) = some (gE i) := by decide +kernel
theorem errTyped : ∀ i, i < 19 → (Tryd.prog.globals[gE i]?).map (·.type) = some 38 := by decide +kernel
theorem errStar : "*" ++ "errors.errorString" = "*errors.errorString" := by decide
theorem errRowed (u : TypeId) (h : Tryd.prog.typeName? 3 u = some "*errors.errorString") : u = 149 :=
  typeName_ptr_named (nm := "errors.errorString") (by rw [errStar]; kernel_rfl) (by kernel_rfl) (by decide) u (by rw [errStar]; exact h)

/-- api's errors as they lie: error i's variable holds a pointer to E i; all apart -/
structure ErrsAt (E : Nat → Addr) (W : World) : Prop where
  c : ∀ i, i < 19 → W.cell? ⟨gE i, 0, none⟩ = some (errV (E i))
  b : ∀ i, i < 19 → ∃ c t, W.heap[(E i).block]? = some (.cells c t (0, 0))
  n : ∀ i, i < 19 → ∀ j, j < 19 → E i = E j → i = j
theorem ErrsAt.ltE {E : Nat → Addr} {W : World} (h : ErrsAt E W) {i : Nat} (hi : i < 19) : (E i).block < W.heap.size := by
  obtain ⟨c, t, e⟩ := h.b i hi
  exact (Array.getElem?_eq_some_iff.1 e).1
theorem ErrsAt.ltG {E : Nat → Addr} {W : World} (h : ErrsAt E W) {i : Nat} (hi : i < 19) : gE i < W.heap.size :=
  World.block_lt_of_cell? W _ (h.c i hi)
theorem ErrsAt.below {E : Nat → Addr} {W W' : World} (h : ErrsAt E W) (hb : Below W.heap.size W W') : ErrsAt E W' :=
  ⟨fun i hi => by rw [World.cell?_of_block (hb.block _ (h.ltG hi))]; exact h.c i hi, fun i hi => by obtain ⟨c, t, e⟩ := h.b i hi; exact ⟨c, t, by rw [hb.block _ (h.ltE hi)]; exact e⟩, h.n⟩
theorem ErrsAt.of_heap {E : Nat → Addr} {W W' : World} (h : ErrsAt E W) (hb : W'.heap = W.heap) : ErrsAt E W' :=
  ⟨fun i hi => (show W'.cell? ⟨gE i, 0, none⟩ = W.cell? ⟨gE i, 0, none⟩ from World.cell?_of_block (by rw [hb])).trans (h.c i hi), fun i hi => by rw [hb]; exact h.b i hi, h.n⟩

set_option maxRecDepth 100000 in
theorem err_of_laid {laid : List (String × DataW Unit)} {W : World} (h : laidMetH Tryd.prog laid W) (i : Nat) (hi : i < 19) (hin : laid.filter (fun x => x.1 == errName i) = [(errName i, errDat i)]) :
    ∃ a s, W.cell? ⟨gE i, 0, none⟩ = some (errV a) ∧ W.cell? a = some (.string s) ∧ s.data.toList = errText i ∧ ∃ c t, W.heap[a.block]? = some (.cells c t (0, 0)) := by
  have h1 := h.filter (fun x => x.1 == errName i)
  rw [hin, MakeChecks.laidMetH_plain _ _ _ (by rfl)] at h1
  obtain ⟨ps, ⟨g0, t0, cs0, f0, p0, q0, hg0, ht0, hv0, hd0, hq0, e0⟩, hnd, hrows⟩ := h1
  obtain rfl := Option.some.inj ((errNamed i hi).symm.trans hg0)
  obtain rfl := Option.some.inj ((errTyped i hi).symm.trans ht0)
  have hq0' : q0 = [] := hq0
  subst hq0'
  subst e0
  obtain ⟨l0⟩ := cs0
  have cE : Tryd.prog.cellsOf 38 = 1 := by kernel_rfl
  have ok0 : ∀ u v, l0 = [.iface u v] → Value.okWide Tryd.prog W .any 0 u v := fun u v e => by
    subst e
    exact (hrows (gE i) 0 (by simp [MemPlace.row])).2 u v (by simpa using World.var?_cell hg0 hv0 0)
  obtain ⟨a0, s0, rfl, hc0, hs0, hz0, rfl⟩ := errorString_of_trod Tryd.underlying38 errRowed Tryd.underlying149 Tryd.underlying165 rfl rfl Tryd.underlying9 (show Tryd.prog.cellsOf 165 = 1 by kernel_rfl) (show Tryd.prog.cellsOf 9 = 1 by kernel_rfl) hd0 ok0
  obtain ⟨c0, t0, hb0⟩ := (hrows a0.block a0.off (by simp [MemPlace.row])).1
  exact ⟨a0, s0, by simpa using World.var?_cell hg0 hv0 0, hc0, hs0, c0, t0, hb0⟩
theorem errs_of_laid {laid : List (String × DataW Unit)} {W : World} (h : laidMetH Tryd.prog laid W) (hin : ∀ i, i < 19 → laid.filter (fun x => x.1 == errName i) = [(errName i, errDat i)]) : ∃ E, ErrsAt E W := by
  have hx : ∀ i, ∃ a : Addr, i < 19 → ∃ s, W.cell? ⟨gE i, 0, none⟩ = some (errV a) ∧ W.cell? a = some (.string s) ∧ s.data.toList = errText i ∧ ∃ c t, W.heap[a.block]? = some (.cells c t (0, 0)) := by
    intro i
    by_cases hi : i < 19
    · obtain ⟨a, s, h1⟩ := err_of_laid h i hi (hin i hi)
      exact ⟨a, fun _ => ⟨s, h1⟩⟩
    · exact ⟨⟨0, 0, none⟩, fun h => absurd h hi⟩
  refine ⟨fun i => (hx i).choose, fun i hi => ?_, fun i hi => ?_, fun i hi j hj e => ?_⟩
  · obtain ⟨s, h1, _⟩ := (hx i).choose_spec hi
    exact h1
  · obtain ⟨s, _, _, _, h1⟩ := (hx i).choose_spec hi
    exact h1
  · obtain ⟨s, _, h1, h2, _⟩ := (hx i).choose_spec hi
    obtain ⟨s', _, h1', h2', _⟩ := (hx j).choose_spec hj
    rw [show (hx i).choose = (hx j).choose from e] at h1
    have e2 := h1.symm.trans h1'
    simp only [Option.some.injEq, Value.string.injEq] at e2
    subst e2
    exact errText_inj i hi j hj (h2.symm.trans h2')

theorem Tryd.infoErrP : (Tryd.prog.info? 149).map (·.comparable) = some true := by kernel_rfl
theorem Tryd.infoErrS : (Tryd.prog.info? 165).map (·.size) = some 1 := by kernel_rfl
theorem eql_err (a b : Addr) (w : World) (ha : ∃ c t, w.heap[a.block]? = some (.cells c t (0, 0))) (hb : ∃ c t, w.heap[b.block]? = some (.cells c t (0, 0))) : (binOp .eql 38 (errV a) (errV b)).run Tryd.prog w = .ok (.bool (decide (a = b))) w := by
  obtain ⟨i, hi, hc⟩ := Option.map_eq_some_iff.1 Tryd.infoErrP
  obtain ⟨j, hj, hs⟩ := Option.map_eq_some_iff.1 Tryd.infoErrS
  by_cases e : a = b
  · subst e
    rw [run_eql_iface_ptr_same w a Tryd.underlying38 Tryd.underlying149 hi hc hj]
    simp
  · obtain ⟨ca, ta, hca⟩ := ha
    obtain ⟨cb, tb, hcb⟩ := hb
    rw [run_eql_iface_ptr_other w Tryd.underlying38 Tryd.underlying149 hi hc hj (by rw [hs]; decide) e hca hcb]
    simp [e]

theorem alike_any (a b : Addr) (w : World) (ha : ∃ c t, w.heap[a.block]? = some (.cells c t (0, 0))) (hb : ∃ c t, w.heap[b.block]? = some (.cells c t (0, 0))) :
    Calls Tryd.prog 77 #[errV a, errV b] w fun e w' => e = .returned (.bool (decide (a = b))) ∧ w' = w := by
  have he := eql_err a b w ha hb
  generalize decide (a = b) = d at *
  go_enter Tryd.func77, Tryd.ntmps77
  go_wp2
  go_ret
  exact ⟨rfl, rfl⟩

/-- the list of api's errors -/
def errRow (E : Nat → Addr) : Array Value := ((List.range 19).map fun i => errV (E i)).toArray
@[simp] theorem errRow_size (E : Nat → Addr) : (errRow E).size = 19 := by simp [errRow]
theorem errRow_get (E : Nat → Addr) (i : Nat) (h : i < 19) : (errRow E)[i]? = some (errV (E i)) := by simp [errRow, h]

set_option maxRecDepth 100000 in
theorem sentinels_any (E : Nat → Addr) (w : World) (h : ErrsAt E w) :
    Calls Tryd.prog 76 #[] w fun e w' => e = .returned (.slice (some ⟨w.heap.size, 0, none⟩) 19 19) ∧ w' = w.alloc (.cells (errRow E) 38) := by
  have c0 : w.cell? ⟨2, 0, none⟩ = some (errV (E 0)) := h.c 0 (by decide)
  have c1 : w.cell? ⟨6, 0, none⟩ = some (errV (E 1)) := h.c 1 (by decide)
  have c2 : w.cell? ⟨7, 0, none⟩ = some (errV (E 2)) := h.c 2 (by decide)
  have c3 : w.cell? ⟨4, 0, none⟩ = some (errV (E 3)) := h.c 3 (by decide)
  have c4 : w.cell? ⟨5, 0, none⟩ = some (errV (E 4)) := h.c 4 (by decide)
  have c5 : w.cell? ⟨3, 0, none⟩ = some (errV (E 5)) := h.c 5 (by decide)
  have c6 : w.cell? ⟨8, 0, none⟩ = some (errV (E 6)) := h.c 6 (by decide)
  have c7 : w.cell? ⟨9, 0, none⟩ = some (errV (E 7)) := h.c 7 (by decide)
  have c8 : w.cell? ⟨10, 0, none⟩ = some (errV (E 8)) := h.c 8 (by decide)
  have c9 : w.cell? ⟨11, 0, none⟩ = some (errV (E 9)) := h.c 9 (by decide)
  have c10 : w.cell? ⟨12, 0, none⟩ = some (errV (E 10)) := h.c 10 (by decide)
  have c11 : w.cell? ⟨13, 0, none⟩ = some (errV (E 11)) := h.c 11 (by decide)
  have c12 : w.cell? ⟨14, 0, none⟩ = some (errV (E 12)) := h.c 12 (by decide)
  have c13 : w.cell? ⟨0, 0, none⟩ = some (errV (E 13)) := h.c 13 (by decide)
  have c14 : w.cell? ⟨15, 0, none⟩ = some (errV (E 14)) := h.c 14 (by decide)
  have c15 : w.cell? ⟨16, 0, none⟩ = some (errV (E 15)) := h.c 15 (by decide)
  have c16 : w.cell? ⟨1, 0, none⟩ = some (errV (E 16)) := h.c 16 (by decide)
  have c17 : w.cell? ⟨17, 0, none⟩ = some (errV (E 17)) := h.c 17 (by decide)
  have c18 : w.cell? ⟨18, 0, none⟩ = some (errV (E 18)) := h.c 18 (by decide)
  have hr : ∀ w : World, (Instr.buildSlice 89 19 #[(0, errV (E 0)), (1, errV (E 1)), (2, errV (E 2)), (3, errV (E 3)), (4, errV (E 4)), (5, errV (E 5)), (6, errV (E 6)), (7, errV (E 7)), (8, errV (E 8)), (9, errV (E 9)), (10, errV (E 10)), (11, errV (E 11)), (12, errV (E 12)), (13, errV (E 13)), (14, errV (E 14)), (15, errV (E 15)), (16, errV (E 16)), (17, errV (E 17)), (18, errV (E 18))]).run Tryd.prog w = .ok (.slice (some ⟨w.heap.size, 0, none⟩) 19 19) (w.alloc (.cells (errRow E) 38)) := fun w => by kernel_rfl
  clear h
  go_enter Tryd.func76, Tryd.ntmps76
  go_wp2
  go_ret
  exact ⟨rfl, rfl⟩

set_option maxRecDepth 100000 in
theorem sentinel_any (E : Nat → Addr) (k : Nat) (hk : k < 19) (w : World) (h : ErrsAt E w) :
    Calls Tryd.prog 59 #[errV (E k)] w fun e w' => e = .returned (.int .i64 (101 + (k : Int))) ∧ Below w.heap.size w w' := by
  have hb : Below w.heap.size w (w.alloc (.cells (errRow E) 38)) := (Below.refl _ _).alloc (Nat.le_refl _) _
  have h1 := h.below hb
  go_enter Tryd.func59, Tryd.ntmps59
  go_wp2_with fail
  refine (sentinels_any E w h).mono ?_
  rintro e W ⟨rfl, rfl⟩
  have hc : ∀ j, j < 19 → (w.alloc (.cells (errRow E) 38)).cell? ⟨w.heap.size, j, none⟩ = some (errV (E j)) := fun j hj => by rw [World.cell?_alloc_new]; exact errRow_get E j hj
  generalize w.alloc (.cells (errRow E) 38) = W at *
  clear h
  generalize hO : w.heap.size = O at *
  have HO := Lib.hid hO; clear hO
  go_wp2_with fail
  go_loopw [4] (fun i wr => ∃ j : Nat, j ≤ k ∧ i = .int .i64 j ∧ wr = W) (fun i _ => 19 - (intOf i).toNat)
  case atStart => exact ⟨0, by omega, rfl, rfl⟩
  case round =>
    obtain ⟨j, hj, rfl, rfl⟩ := hrel
    have cj := hc j (by omega)
    have hal := alike_any (E k) (E j) wr (h1.b k hk) (h1.b j (by omega))
    have hj0 : (j : Int) < 19 := by omega
    by_cases e : j = k
    · subst e
      rw [show decide (E j = E j) = true by simp] at hal
      go_wp2_with fail
      refine hal.mono ?_
      rintro e w1 ⟨rfl, rfl⟩
      go_wp2_with fail
      go_ret
      exact ⟨rfl, by rw [HO.out]; exact hb⟩
    · rw [show decide (E k = E j) = false by simp; exact fun h => e (h1.n k hk j (by omega) h).symm] at hal
      go_wp2_with fail
      refine hal.mono ?_
      rintro e w1 ⟨rfl, rfl⟩
      go_wp2_with fail
      go_roundw
      case rel => exact ⟨j + 1, by omega, by go_num, trivial⟩
      case measure => simp [intOf]; omega

/-- an error as plain data -/
def frow (c : Int) (p : Bool) (q : Int) : Array Value := #[.int .i64 c, .bool p, .int .i64 q]
theorem frow_one (c : Int) (p : Bool) (q : Int) : (frow c p q).all (·.oneCell') = true := by kernel_rfl
theorem none_any (w : World) : Calls Tryd.prog 57 #[] w fun e w' => e = .returned (.agg (frow 0 false 0)) ∧ Below w.heap.size w w' := by
  go_enter Tryd.func57, Tryd.ntmps57
  go_wp2
  refine bodyPost_ret (results_cell_row rfl _ _ _ _ _ _ _ rfl (heap_alloc_new _ _) Tryd.underlying42 rfl (by kernel_rfl)) rfl ?_
  exact ⟨rfl, (Below.refl _ _).alloc (Nat.le_refl _) _⟩
theorem bare_any (c : Int) (w : World) : Calls Tryd.prog 58 #[.int .i64 c] w fun e w' => e = .returned (.agg (frow c false 0)) ∧ Below w.heap.size w w' := by
  go_enter Tryd.func58, Tryd.ntmps58
  go_wp2
  refine bodyPost_ret (results_cell_row rfl _ _ _ _ _ _ _ rfl (heap_alloc_new _ _) Tryd.underlying42 rfl (by kernel_rfl)) rfl ?_
  exact ⟨rfl, (Below.refl _ _).alloc (Nat.le_refl _) _⟩

theorem faultn_any (w : World) : Calls Tryd.prog 21 #[.nilIface] w fun e w' => e = .returned (.agg (frow 0 false 0)) ∧ Below w.heap.size w w' := by
  go_enter Tryd.func21, Tryd.ntmps21
  go_wp2_with fail
  refine (none_any _).mono ?_
  rintro e W ⟨rfl, hb⟩
  have hb0 : Below w.heap.size w (w.alloc (.cells #[.int .i64 0, .bool false, .int .i64 0] 42)) := (Below.refl _ _).alloc (Nat.le_refl _) _
  have hr := heap_alloc_new w (.cells #[.int .i64 0, .bool false, .int .i64 0] 42)
  have hr1 := (hb.block w.heap.size (by simp)).trans hr
  have hb1 := hb0.trans (hb.mono hb0.size)
  clear hb hr hb0
  go_wp2_with (refine wpList_store_row rfl 42 _ _ rfl _ (frow 0 false 0) rfl rfl _ _ hr1 (by kernel_rfl) rfl (frow_one _ _ _) ?_)
  refine bodyPost_ret (results_cell_row rfl _ _ _ _ _ _ _ rfl (setRow_heap _ _ _ _ _ _ hr1) Tryd.underlying42 rfl (by kernel_rfl)) rfl ?_
  exact ⟨rfl, below_setRow hb1 (Nat.le_refl _) _⟩

theorem assert_err (a : Addr) (w : World) : (Instr.typeAssert (errV a) 38 92 true).run Tryd.prog w = .ok (.tuple #[.pointer none, .bool false]) w := by kernel_rfl
theorem faulte_any (E : Nat → Addr) (k : Nat) (hk : k < 19) (w : World) (h : ErrsAt E w) : Calls Tryd.prog 21 #[errV (E k)] w fun e w' => e = .returned (.agg (frow (101 + (k : Int)) false 0)) ∧ Below w.heap.size w w' := by
  have has := assert_err (E k)
  go_enter Tryd.func21, Tryd.ntmps21
  go_wp2_with fail
  have hb0 : Below w.heap.size w (w.alloc (.cells #[.int .i64 0, .bool false, .int .i64 0] 42)) := (Below.refl _ _).alloc (Nat.le_refl _) _
  have hr := heap_alloc_new w (.cells #[.int .i64 0, .bool false, .int .i64 0] 42)
  refine (sentinel_any E k hk _ (h.below hb0)).mono ?_
  rintro e W ⟨rfl, hb⟩
  have hr1 := (hb.block w.heap.size (by simp)).trans hr
  have hb1 := hb0.trans (hb.mono hb0.size)
  have hlt : w.heap.size < W.heap.size := by have := hb.size; simp at this; omega
  clear hb hr hb0 h
  go_wp2_with fail
  refine (bare_any _ W).mono ?_
  rintro e W2 ⟨rfl, hb2⟩
  have hr2 := (hb2.block w.heap.size hlt).trans hr1
  have hb3 := hb1.trans (hb2.mono hb1.size)
  clear hb1 hb2 hr1 hlt
  go_wp2_with (refine wpList_store_row rfl 42 _ _ rfl _ (frow (101 + (k : Int)) false 0) rfl rfl _ _ hr2 (by kernel_rfl) rfl (frow_one _ _ _) ?_)
  refine bodyPost_ret (results_cell_row rfl _ _ _ _ _ _ _ rfl (setRow_heap _ _ _ _ _ _ hr2) Tryd.underlying42 rfl (by kernel_rfl)) rfl ?_
  exact ⟨rfl, below_setRow hb3 (Nat.le_refl _) _⟩

set_option maxHeartbeats 800000 in
theorem sameFault_any (c d : Int) (p q : Bool) (x y : Int) (w : World) :
    Calls Tryd.prog 56 #[.agg (frow c p x), .agg (frow d q y)] w fun e w' => e = .returned (.bool (decide (c = d ∧ p = q ∧ x = y))) ∧ Below w.heap.size w w' := by
  have hb0 : Below w.heap.size w ((w.alloc (.cells #[.int .i64 c, .bool p, .int .i64 x] 42)).alloc (.cells #[.int .i64 d, .bool q, .int .i64 y] 42)) := ((Below.refl _ _).alloc (Nat.le_refl _) _).alloc (by simp) _
  by_cases e1 : c = d
  · by_cases e2 : p = q
    · by_cases e3 : x = y
      · subst e1 e2 e3
        simp only [and_self, decide_true]
        go_enter Tryd.func56, Tryd.ntmps56
        unfold frow
        go_wp2
        go_ret
        exact ⟨rfl, hb0⟩
      · have b3 : (x == y) = false := by simpa using e3
        rw [show decide (c = d ∧ p = q ∧ x = y) = false by simp [e3]]
        subst e1 e2
        clear e3
        go_enter Tryd.func56, Tryd.ntmps56
        unfold frow
        go_wp2
        go_ret
        exact ⟨rfl, hb0⟩
    · have b2 : (p == q) = false := by simpa using e2
      rw [show decide (c = d ∧ p = q ∧ x = y) = false by simp [e2]]
      subst e1
      clear e2
      go_enter Tryd.func56, Tryd.ntmps56
      unfold frow
      go_wp2
      go_ret
      exact ⟨rfl, hb0⟩
  · have b1 : (c == d) = false := by simpa using e1
    rw [show decide (c = d ∧ p = q ∧ x = y) = false by simp [e1]]
    clear e1
    go_enter Tryd.func56, Tryd.ntmps56
    unfold frow
    go_wp2
    go_ret
    exact ⟨rfl, hb0⟩

/-- an error and what it is as plain data -/
def Reads (E : Nat → Addr) (e : Value) (c : Int) : Prop := (e = .nilIface ∧ c = 0) ∨ ∃ k, k < 19 ∧ e = errV (E k) ∧ c = 101 + (k : Int)
theorem fault_any (E : Nat → Addr) (v : Value) (c : Int) (hv : Reads E v c) (w : World) (h : ErrsAt E w) : Calls Tryd.prog 21 #[v] w fun e w' => e = .returned (.agg (frow c false 0)) ∧ Below w.heap.size w w' := by
  rcases hv with ⟨rfl, rfl⟩ | ⟨k, hk, rfl, rfl⟩
  · exact faultn_any w
  · exact faulte_any E k hk w h

structure SameS (w : World) (B : Nat) (d : Int) (E : Nat → Addr) (W : World) : Prop where
  r : W.rangeAt B 0 (frow d false 0).toList
  lt : B < W.heap.size
  e : ErrsAt E W
  b : Below w.heap.size w W
theorem SameS.below {w : World} {B : Nat} {d : Int} {E : Nat → Addr} {W W' : World} (x : SameS w B d E W) (hb : Below W.heap.size W W') : SameS w B d E W' :=
  ⟨rangeAt_below x.r hb x.lt, Nat.lt_of_lt_of_le x.lt hb.size, x.e.below hb, x.b.trans (hb.mono x.b.size)⟩

set_option maxRecDepth 100000 in
theorem same_any (E : Nat → Addr) (v : Value) (c d : Int) (hv : Reads E v c) (w : World) (h : ErrsAt E w) :
    Calls Tryd.prog 19 #[v, .agg (frow d false 0)] w fun e w' => e = .returned (.bool (decide (c = d))) ∧ Below w.heap.size w w' := by
  go_enter Tryd.func19, Tryd.ntmps19
  go_upto_region 1 with (fail)
  have iF : (Tryd.prog.info? 42).map (·.size) = some (frow d false 0).toList.length := by kernel_rfl
  have hb0 : Below w.heap.size w (w.alloc (.cells (frow d false 0) 42)) := (Below.refl _ _).alloc (Nat.le_refl _) _
  have hr0 : (w.alloc (.cells (frow d false 0) 42)).rangeAt w.heap.size 0 (frow d false 0).toList := by
    intro j u hj
    rw [Nat.zero_add, World.cell?_alloc_new]
    simpa using hj
  refine wp_world (fun W => W.rangeAt w.heap.size 0 (frow d false 0).toList ∧ w.heap.size < W.heap.size ∧ ErrsAt E W ∧ Below w.heap.size w W) ⟨hr0, by simp, h.below hb0, hb0⟩ ?_
  clear hr0 hb0
  rintro W ⟨h1, h2, h3, h4⟩
  refine wp_region_noPanic ?_
  refine wp_region_held_drew (S := SameS w w.heap.size d E) (by kernel_rfl) ⟨h1, h2, h3.of_heap rfl, h4.drew⟩ (fun hHeld => ?_)
  refine held_move 0 (.tmp 0) (some 5) (v) (by kernel_rfl) (by kernel_rfl) (by kernel_rfl) (by kernel_rfl) (by kernel_rfl) (fun _ _ _ _ _ h => h) hHeld ?_
  refine held_load 2 42 (.tmp 3) (some 7) w.heap.size 0 (frow d false 0).toList _ (by kernel_rfl) (by kernel_rfl) (fun w h => h.r) Tryd.underlying42 rfl iF (by kernel_rfl) (by kernel_rfl) (by kernel_rfl) (fun _ _ _ _ _ h => h) hHeld ?_
  refine held_call 1 21 #[.tmp 5] #[38] (some 6) #[v] _ (by kernel_rfl) (by kernel_rfl) (by kernel_rfl) (by kernel_rfl) (fault_any E v c hv _ hHeld.e) ?_
  rintro e Y1 ⟨rfl, hbY1⟩
  refine ⟨_, rfl, hHeld.below hbY1, fun hHeld => ?_⟩
  have hsf := sameFault_any c d false false 0 0 Y1
  rw [show decide (c = d ∧ false = false ∧ (0 : Int) = 0) = decide (c = d) by simp] at hsf
  refine held_call 3 56 #[.tmp 6, .tmp 7] #[42, 42] (some 8) #[.agg (frow c false 0), .agg (frow d false 0).toList.toArray] _ (by kernel_rfl) (by kernel_rfl) (by kernel_rfl) (by kernel_rfl) (hsf) ?_
  rintro e Y2 ⟨rfl, hbY2⟩
  refine ⟨_, rfl, hHeld.below hbY2, fun hHeld => ?_⟩
  refine held_assign 4 (.tmp 8) (some 4) (.bool (decide (c = d))) (by kernel_rfl) (by kernel_rfl) (by kernel_rfl) (by kernel_rfl) (by kernel_rfl) (fun _ _ _ _ _ h => h) hHeld ?_
  refine wpAnyH_done (by kernel_rfl) ?_ _
  refine NoPanic.normal ?_
  simp only [Act.put, List.setIfInBounds_toArray, List.set_cons_zero, List.set_cons_succ]
  go_wp2_with fail
  go_ret
  exact ⟨rfl, hHeld.b⟩

theorem is_any (E : Nat → Addr) (v : Value) (c d : Int) (hv : Reads E v c) (w : World) (h : ErrsAt E w) :
    Calls Tryd.prog 30 #[v, .int .i64 d] w fun e w' => e = .returned (.bool (decide (c = d))) ∧ Below w.heap.size w w' := by
  go_enter Tryd.func30, Tryd.ntmps30
  go_wp2_with fail
  refine (bare_any d w).mono ?_
  rintro e W ⟨rfl, hb⟩
  have h1 := h.below hb
  go_wp2_with fail
  refine (same_any E v c d hv W h1).mono ?_
  rintro e W2 ⟨rfl, hb2⟩
  go_wp2_with fail
  go_ret
  exact ⟨rfl, hb.trans (hb2.mono hb.size)⟩
end Go.Proofs.YtocjmlncpjfnfaaDoor
