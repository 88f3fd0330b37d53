import Derived.Test.YtffkjbbhbpaacaaDoorUpp
import Derived.Test.YtffkjbbhbpaacaaDoorFil
import Derived.Test.YtffkjbbhbpaacaaDoorOfb
import Derived.Deep.DeepCutAuto
/-
  UploadPlays' walk.
-/
namespace Go.Proofs.YtffkjbbhbpaacaaDoor
open Go.RowKit
theorem bcells_intsQ (l : List UInt8) : bcells l = ints .u8 (l.map fun b => (b.toNat : Int)) := by simp [bcells, ints, cellB]
theorem slread_turnP {F : Nat → Prop} {w w' : World} {A : Option Addr} {xs : List Value} (h : SlRead w A xs) (ht : Turn F w w') (hF : ∀ a, A = some a → 0 < xs.length → ¬ F a.block) : SlRead w' A xs := by
  intro hn
  obtain ⟨b, o, rfl, hlt, hc⟩ := h hn
  exact ⟨b, o, rfl, Nat.lt_of_lt_of_le hlt ht.size, fun j u hj => (ht.cell (o := o + j) hlt (hF _ rfl hn)).trans (hc j u hj)⟩
structure PlS (w0 W : World) (U X : Nat) (ph at' a b : Int) (Ab : Option Addr) (xs : List Int) : Prop where
  u : UpH W U ph at' a b
  x : DpH W X ph at' a b
  ne : U ≠ X
  b : Below w0.heap.size w0 W
  lo : w0.heap.size ≤ U ∧ w0.heap.size ≤ X
  bl : SlRead W Ab (ints .u8 xs)
  ba : ∀ y, Ab = some y → 0 < xs.length → y.block ≠ U ∧ y.block ≠ X
theorem PlS.below {w0 W W' : World} {U X : Nat} {ph at' a b : Int} {Ab : Option Addr} {xs : List Int} (h : PlS w0 W U X ph at' a b Ab xs) (hb : Below W.heap.size W W') : PlS w0 W' U X ph at' a b Ab xs :=
  ⟨h.u.below hb, h.x.below hb, h.ne, h.b.trans (hb.mono h.b.size), h.lo, h.bl.below hb, h.ba⟩
theorem PlS.both {w0 W W1 W2 : World} {U X : Nat} {ph at' a b p2 t2 a2 b2 : Int} {Ab : Option Addr} {xs : List Int} (h : PlS w0 W U X ph at' a b Ab xs) (h1 : Turn (· = U) W W1) (hu : UpH W1 U p2 t2 a2 b2) (h2 : Turn (· = X) W1 W2) (hx : DpH W2 X p2 t2 a2 b2) : PlS w0 W2 U X p2 t2 a2 b2 Ab xs := by
  have hb1 : Below w0.heap.size w0 W1 := h1.below h.b h.b.size (fun q e => by rw [e]; exact h.lo.1)
  have hl : (ints .u8 xs).length = xs.length := by simp
  exact ⟨hu.turn h2 h.ne, hx, h.ne, h2.below hb1 hb1.size (fun q e => by rw [e]; exact h.lo.2), h.lo, slread_turnP (slread_turnP h.bl h1 (fun y e h0 => (h.ba y e (by rwa [hl] at h0)).1)) h2 (fun y e h0 => (h.ba y e (by rwa [hl] at h0)).2), h.ba⟩
theorem PlS.x1 {w0 W W1 : World} {U X : Nat} {ph at' a b : Int} {Ab : Option Addr} {xs : List Int} (h : PlS w0 W U X ph at' a b Ab xs) (h1 : Turn (· = U) W W1) : DpH W1 X ph at' a b := h.x.turn h1 (fun e => h.ne e.symm)
theorem up_build2 (p a : Int) (w : World) : (Instr.build 31 #[(0, .int .i64 p), (1, .int .i64 a)]).run Tryd.prog w = .ok (.agg (uv p a 0 0)) w := by kernel_rfl
theorem dp_build2 (p a : Int) (w : World) : (Instr.build 35 #[(0, .int .i64 p), (1, .int .i64 a)]).run Tryd.prog w = .ok (.agg (uv p a 0 0)) w := by kernel_rfl
theorem hs_build7 (w : World) : (Instr.build 37 #[(0, .int .u8 7)]).run Tryd.prog w = .ok (.agg (arr8 32 (oneF 7#8))) w := by kernel_rfl
theorem rv_build2 (c n : Int) (w : World) : (Instr.build 47 #[(0, .int .i64 c), (1, .int .u32 n)]).run Tryd.prog w = .ok (.agg (rv c n (.slice none 0 0))) w := by kernel_rfl
theorem exec_box {ev : Operand → Value} {oo : Oper} {w : World} (ty : TypeId) (y : Operand) (ho : oo.op = .box ty y) (cs : Array Value) (hy : ev y = .agg cs) (hr : (Instr.box ty (.agg cs)).run Tryd.prog w = .ok (.pointer (some ⟨w.heap.size, 0, none⟩)) (w.alloc (.cells cs ty))) : (execOp ev oo).run Tryd.prog w = .ok (.value (.pointer (some ⟨w.heap.size, 0, none⟩))) (w.alloc (.cells cs ty)) := by
  unfold execOp
  simp [ho, hy, hr, Result.andThen]
theorem load_rqQ {W : World} {g : Nat} {op : Int} {f : Nat → BitVec 8} {off n : Int} {D : Value} (h : W.heap[g]? = some (.cells (rqA op f off n D) 40 (0, 0))) : (Instr.loadAt 40 (.pointer (some ⟨g, 0, none⟩))).run Tryd.prog W = .ok (.agg (rqA op f off n D)) W := by
  have hi := rq_info op f off n D
  have := load_row (P := Tryd.prog) 40 g 0 (rqA op f off n D).toList _ Tryd.underlying40 rfl (by simpa using hi) W (range_new (cs := (rqA op f off n D).toList) (by simpa using h))
  simpa using this
theorem load_rvQ {W : World} {g : Nat} {code n : Int} {D : Value} (h : W.heap[g]? = some (.cells (rv code n D) 47 (0, 0))) : (Instr.loadAt 47 (.pointer (some ⟨g, 0, none⟩))).run Tryd.prog W = .ok (.agg (rv code n D)) W := by
  have hi := info_Rv code n D
  have := load_row (P := Tryd.prog) 47 g 0 (rv code n D).toList _ Tryd.underlying47 rfl (by simpa using hi) W (range_new (cs := (rv code n D).toList) (by simpa using h))
  simpa using this
theorem neq_bb (x y : Operand) (b : Bool) (w : World) : (do eqGuard .neq 4 x y (.bool b) (.bool b); binOp .neq 4 (.bool b) (.bool b) : Sem Value).run Tryd.prog w = .ok (.bool false) w := by
  cases b <;> kernel_rfl
theorem idx_do (b o n c i : Nat) (hi : i < n) (w : World) : (Instr.indexAt 22 (.slice (some ⟨b, o, none⟩) n c) (.int .i64 (i : Int))).run Tryd.prog w = .ok (.pointer (some ⟨b, o + i * 4, none⟩)) w :=
  idx_slice 22 45 4 Tryd.underlying22 (fun w => by kernel_rfl) b o n c i hi w
theorem meas_ltU (k n : Nat) (h : k < n) : n - (intOf (.int .i64 ((k : Int) + 1))).toNat < n - (intOf (.int .i64 (k : Int))).toNat := by
  show n - ((k : Int) + 1).toNat < n - ((k : Int)).toNat
  omega

theorem region_cutG {P : Program} {c : Code} {Q : Exit → Act → World → Prop} {a : Act} {w : World} (R : Act → Act → World → Prop) (h : c.wp P (fun ex a' w' => ex = .normal ∧ R a a' w') a w) (k : ∀ a' w', R a a' w' → Q .normal a' w') : c.wp P Q a w :=
  wp_mono h fun _ _ _ ⟨h1, h2⟩ => h1 ▸ k _ _ h2
theorem exec_allocR {ev : Operand → Value} {oo : Oper} {w : World} (ho : oo.op = .alloc 47) : (execOp ev oo).run Tryd.prog w = .ok (.value (.pointer (some ⟨w.heap.size, 0, none⟩))) (w.alloc (.cells (rv 0 0 (.slice none 0 0)) 47)) := by
  obtain ⟨dst, op, ty, pos, aft, gd⟩ := oo
  simp only at ho
  subst ho
  kernel_rfl
theorem store_rowR (w : World) (g : Nat) (code n : Int) (A : Option Addr) (l c : Nat) (old : Array Value) (h : w.heap[g]? = some (.cells old 47 (0, 0))) (hs : old.size = 3) : (Instr.storeAt 47 (.pointer (some ⟨g, 0, none⟩)) (.agg (rv code n (.slice A l c)))).run Tryd.prog w = .ok () (w.setRow g (rv code n (.slice A l c))) := by
  simp only [Instr.storeAt, Instr.sureAddr, Sem.run_bind, Sem.run_pure, Result.andThen_ok]
  rw [run_storeVar_row w g 47 47 old (rv code n (.slice A l c)) h (by kernel_rfl) (by rw [hs]; rfl) (by kernel_rfl)]
theorem u32_rg (z : Int) : 0 ≤ IntKind.u32.wrap z ∧ IntKind.u32.wrap z < 4294967296 := by
  simp [IntKind.wrap, IntKind.signed, IntKind.bits]
  omega
theorem cvt_i64u (z : Int) (w : World) : (convert 3 38 (.int .i64 z)).run Tryd.prog w = .ok (.int .u32 (IntKind.u32.wrap z)) w := by
  have h1 := Tryd.underlying3
  have h2 := Tryd.underlying38
  simp [convert, run_underlying h1, run_underlying h2, Conv.intToInt]
theorem wpAnyH_weak {P : Program} {md : Region.Mode} {ops : Array Oper} {Q : Exit → Act → World → Prop} {S S' : World → Prop} (hsub : ∀ w, S' w → S w) : ∀ (fuel : Nat) (listed : Array Bool) (a : Act) (w : World), wpAnyH P md ops Q S' fuel listed a w → wpAnyH P md ops Q S fuel listed a w
  | 0, _, _, _, h => h
  | fuel + 1, _, _, _, h => ⟨h.1, fun i hi => wpOp_mono (fun a' w' h' => ⟨hsub _ h'.1, wpAnyH_weak hsub fuel _ a' w' h'.2⟩) (h.2 i hi)⟩
theorem wrap_i {i n : Nat} (h : i < n) (h2 : n ≤ 60) : wrap64 ((i : Int) + 1) = (i : Int) + 1 := by unfold wrap64; omega
theorem neq_ii (t : TypeId) (x y : Operand) (a : Int) (w : World) : (do eqGuard .neq t x y (.int .i64 a) (.int .i64 a); binOp .neq t (.int .i64 a) (.int .i64 a) : Sem Value).run Tryd.prog w = .ok (.bool false) w := by
  simp [eqGuard, binOp, Op.intCmp]
def DatU (W : World) (D : Value) (d : Bool) (U : Nat) : Prop := (d = false ∧ D = .slice none 0 0) ∨ (d = true ∧ ∃ G, D = .slice (some ⟨G, 0, none⟩) 1 1 ∧ W.cell? ⟨G, 0, none⟩ = some (.int .u8 1) ∧ G ≠ U)
theorem DatU.below {W W' : World} {D : Value} {d : Bool} {U : Nat} (h : DatU W D d U) (hb : Below W.heap.size W W') : DatU W' D d U :=
  h.imp_right fun ⟨e, G, e2, c, n⟩ => ⟨e, G, e2, (hb.cell (p := ⟨G, 0, none⟩) (cell_lt c)).trans c, n⟩
theorem DatU.f {W : World} {D : Value} {d : Bool} {U : Nat} (h : DatU W D d U) : DatF W D d := h.imp_right fun ⟨e, G, e2, c, _⟩ => ⟨e, G, e2, c⟩
theorem DatU.turn {W W' : World} {D : Value} {d : Bool} {U : Nat} (h : DatU W D d U) (ht : Turn (· = U) W W') : DatF W' D d :=
  h.imp_right fun ⟨e, G, e2, c, n⟩ => ⟨e, G, e2, (ht.cell (cell_lt c) n).trans c⟩
theorem PlS.other {w0 W W' : World} {U X R : Nat} {ph at' a b : Int} {Ab : Option Addr} {xs : List Int} (h : PlS w0 W U X ph at' a b Ab xs) (ht : Turn (· = R) W W') (hR : R ≠ U ∧ R ≠ X ∧ w0.heap.size ≤ R ∧ ∀ y, Ab = some y → 0 < xs.length → y.block ≠ R) : PlS w0 W' U X ph at' a b Ab xs :=
  ⟨h.u.turn ht (fun e => hR.1 e.symm), h.x.turn ht (fun e => hR.2.1 e.symm), h.ne, ht.below h.b h.b.size (fun q e => by rw [e]; exact hR.2.2.1), h.lo, slread_turnP h.bl ht (fun y e h0 => hR.2.2.2 y e (by simpa using h0)), h.ba⟩
theorem PlS.fresh {w0 W : World} {U X : Nat} {ph at' a b : Int} {Ab : Option Addr} {xs : List Int} (h : PlS w0 W U X ph at' a b Ab xs) {R : Nat} (hR : W.heap.size ≤ R) : R ≠ U ∧ R ≠ X ∧ w0.heap.size ≤ R ∧ ∀ y, Ab = some y → 0 < xs.length → y.block ≠ R := by
  have h1 := h.u.lt
  have h2 := lt_heap h.x
  have h3 := h.b.size
  refine ⟨by omega, by omega, by omega, fun y e h0 => ?_⟩
  obtain ⟨b, o, e2, hl, _⟩ := h.bl (by simpa using h0)
  rw [e] at e2
  cases e2
  have : (Addr.mk b o none).block = b := rfl
  show b ≠ R
  omega
section
variable {P : Program} {md : Region.Mode} {ops : Array Oper} {Q : Exit → Act → World → Prop} {S : World → Prop} {fuel : Nat} {listed : Array Bool} {a : Act} {w : World}
/-- one of several that are ready: it makes a world -/
theorem rdy_run {rs : List Nat} (i : Nat) (op : Op) (ty : TypeId) (dst : Option Tmp) (v : Value) (w' : World) (hi : ops[i]?.map (fun o => (o.op, o.dst, Region.wanted o (yielded ops a.tmps))) = some (op, dst, true)) (hty : ops[i]?.map (·.type) = some ty)
    (hrun : ∀ o, o.op = op → o.type = ty → (execOp a.eval o).run P w = .ok (.value v) w') (hS : S w')
    (h : S w' → wpAnyH P md ops Q S fuel (listed.setIfInBounds i true) (a.put dst v) w') (rest : AllReadyH P md ops Q S fuel listed a w rs) : AllReadyH P md ops Q S fuel listed a w (i :: rs) := by
  obtain ⟨oi, ho, he⟩ := Option.map_eq_some_iff.1 hi
  simp only [Prod.mk.injEq] at he
  refine AllReadyH.cons ho (fun K hK => ?_) rest
  rw [if_pos he.2.2]
  have hr := hrun oi he.1 (by rw [ho] at hty; exact Option.some.inj hty)
  unfold Oper.wp
  rw [hr]
  rw [← he.2.1] at h
  exact hK _ _ hS h
end
theorem sub_1q (t : TypeId) (x y : Operand) (k : Nat) (h : k ≤ 900) (w : World) : (do eqGuard .sub t x y (.int .i64 (k : Int)) (.int .i64 1); binOp .sub t (.int .i64 (k : Int)) (.int .i64 1) : Sem Value).run Tryd.prog w = .ok (.int .i64 ((k : Int) - 1)) w := by
  have hw : IntKind.i64.wrap ((k : Int) - 1) = (k : Int) - 1 := IntWalk.i64_in _ (by omega)
  simp [eqGuard, binOp, Op.intArith, hw]
set_option maxRecDepth 100000 in
set_option maxHeartbeats 12800000 in
theorem plays_walk (E : Nat → Addr) (Al : Option Addr) (nl cl : Nat) (gl : Nat → Nat → Int) (fl : Nat → Bool) (size phase at0 : Int) (w0 : World) (hE : ErrsAt E w0) (hl : FbRead w0 Al nl gl fl) :
    Calls Tryd.prog 3 #[.slice Al nl cl, .int .i64 size, .int .i64 phase, .int .i64 at0] w0 fun e w' => e = .returned (.bool true) ∧ Below w0.heap.size w0 w' := by
  have hfi := first_any w0
  have HE := Lib.hid hE
  have HL := Lib.hid hl
  clear hE hl
  obtain ⟨S, hS, hS9⟩ := exists_mod size 900 (by omega)
  obtain ⟨P, hP, hP8⟩ := exists_mod phase 8 (by omega)
  obtain ⟨T, hT, hT9⟩ := exists_mod at0 900 (by omega)
  have hn1 := fun w => number_nat size 900 S w (by omega) hS
  have hn2 := fun w => number_nat phase 8 P w (by omega) hP
  have hn3 := fun w => number_nat at0 900 T w (by omega) hT
  clear hS hP hT
  go_enter Tryd.func3, Tryd.ntmps3
  go_upto_region 4 with (go_at_call 6; refine hfi.mono ?_; rintro e w1 ⟨rfl, hb1⟩; have HB1 := Lib.hid hb1; clear hb1 hfi)
  by_cases h60 : 60 < nl
  · have d1 : (60 : Int) < (nl : Int) := by omega
    clear h60
    go_wp2_with fail
    go_ret
    exact ⟨rfl, HB1.out⟩
  have d1 : ¬ (60 : Int) < (nl : Int) := by omega
  have hnl : nl ≤ 60 := by omega
  clear h60
  go_upto_region 7 with (go_at_call 7; refine (hn1 _).mono ?_; rintro e wx ⟨rfl, q1, rfl⟩; clear hn1)
  have HB2 := Lib.hid (HB1.out.trans ((Below.drewNr (w := w1) q1).mono HB1.out.size))
  generalize w1.drewN q1 = W2 at *
  clear HB1 d1
  have hfl := file_any (S : Int) S (by omega) W2
  go_upto_region 8 with (go_at_call 8; refine hfl.mono ?_; rintro e Wc ⟨Ab, cb, rfl, hob, hbc⟩; clear hfl)
  obtain ⟨A0, c0', he0, hcb, _, hlo⟩ := own_slice hob
  cases he0
  have hrb := SlRead.of_own hob
  rw [bcells_intsQ] at hrb
  obtain ⟨xs, hxs⟩ : ∃ xs, xs = (fileL (S : Int) S).map (fun b => (b.toNat : Int)) := ⟨_, rfl⟩
  rw [← hxs] at hrb
  have hxl : S = xs.length := by rw [hxs, List.length_map, fileL_len]
  have HXL := Lib.hid (And.intro hxl (And.intro hcb hS9))
  have HB3 := Lib.hid (HB2.out.trans (hbc.mono HB2.out.size))
  have hlc : ∀ y, Ab = some y → y.block < Wc.heap.size := fun y e => (hlo y e).2
  clear hob hlo hxs hxl hbc HB2 hcb
  refine wp_region_lit ?_
  refine wpList_run (by kernel_rfl) (.int .i64 phase) (Wc) (exec_move rfl (by kernel_rfl)) ?_
  refine wpList_call (by kernel_rfl) 7 #[Go.Operand.tmp 32, Go.Operand.const (Go.Value.int Go.IntKind.i64 8)] #[3, 3] #[.int .i64 phase, Go.Value.int Go.IntKind.i64 8] _ rfl (by kernel_rfl) (by kernel_rfl) (hn2 Wc) ?_
  rintro e Wd ⟨rfl, qd, hqd⟩
  refine ⟨_, rfl, ?_⟩
  refine wpList_run (by kernel_rfl) (.int .i64 ((P : Int) - 1)) (Wd) (exec_bin (vx := .int .i64 (P : Int)) (vy := Go.Value.int Go.IntKind.i64 1) rfl (by kernel_rfl) (sub_1q _ _ _ P (by omega) Wd)) ?_
  refine wpList_run (by kernel_rfl) (.int .i64 at0) (Wd) (exec_move rfl (by kernel_rfl)) ?_
  refine wpList_call (by kernel_rfl) 7 #[Go.Operand.tmp 35, Go.Operand.const (Go.Value.int Go.IntKind.i64 900)] #[3, 3] #[.int .i64 at0, Go.Value.int Go.IntKind.i64 900] _ rfl (by kernel_rfl) (by kernel_rfl) (hn3 Wd) ?_
  rintro e We ⟨rfl, qe, hqe⟩
  refine ⟨_, rfl, ?_⟩
  refine wpList_run (by kernel_rfl) (.agg (uv ((P : Int) - 1) (T : Int) 0 0)) (We) (exec_build (vs := #[(0, .int .i64 ((P : Int) - 1)), (1, .int .i64 (T : Int))]) rfl (by kernel_rfl) (up_build2 _ _ We)) ?_
  simp only [put_list, List.set_cons_zero, List.set_cons_succ]
  refine wpList_run (by kernel_rfl) (.pointer (some ⟨We.heap.size, 0, none⟩)) (We.alloc (.cells (uv ((P : Int) - 1) (T : Int) 0 0) 31)) (exec_box 31 (.tmp 37) rfl (uv ((P : Int) - 1) (T : Int) 0 0) (by kernel_rfl) (by kernel_rfl)) ?_
  refine wpList_run (by kernel_rfl) (.pointer (some ⟨We.heap.size, 0, none⟩)) (We.alloc (.cells (uv ((P : Int) - 1) (T : Int) 0 0) 31)) (exec_assign rfl (by kernel_rfl)) ?_
  refine wpList_nil ?_
  simp only [put_list, List.set_cons_zero, List.set_cons_succ]
  have hbd : Below Wc.heap.size Wc Wd := by rw [hqd]; exact Below.drewNr qd
  have hbe : Below Wd.heap.size Wd We := by rw [hqe]; exact Below.drewNr qe
  have hb5 := hbd.trans (hbe.mono hbd.size)
  have hba := below_alc We (.cells (uv ((P : Int) - 1) (T : Int) 0 0) 31)
  clear hqd hqe hbd hbe
  go_upto_region 9 with (fail)
  refine wp_world (fun W => Below w0.heap.size w0 W ∧ UpH W We.heap.size ((P : Int) - 1) (T : Int) 0 0 ∧ SlRead W Ab (ints .u8 xs)) ⟨(HB3.out.trans (hb5.mono HB3.out.size)).trans (hba.mono (Nat.le_trans HB3.out.size hb5.size)), heap1_0 We _, (hrb.below hb5).below hba⟩ ?_
  rintro W5 ⟨hb5', hu5, hr5⟩
  have hUlo : w0.heap.size ≤ We.heap.size := Nat.le_trans HB3.out.size hb5.size
  have hlU : ∀ y, Ab = some y → y.block < We.heap.size := fun y e => Nat.lt_of_lt_of_le (hlc y e) hb5.size
  clear hb5 hba hrb hlc HB3 hn2 hn3
  generalize We.heap.size = U at *
  obtain ⟨zP, hzP⟩ : ∃ z : Int, z = (P : Int) - 1 := ⟨_, rfl⟩
  obtain ⟨zT, hzT⟩ : ∃ z : Int, z = (T : Int) := ⟨_, rfl⟩
  rw [← hzP, ← hzT] at hu5
  have hrg : RgU zP zT 0 0 0 := ⟨by omega, by omega, by omega, by omega⟩
  clear hzP hzT hP8 hT9
  have hUlt := hu5.lt
  have c0 := hu5.c0
  have c1 := hu5.c1
  refine wp_region_noPanic ?_
  refine wp_region_held_drew (S := fun W => Below W5.heap.size W5 W) (by kernel_rfl) (Below.drewNr (w := W5) 1) (fun hHeld => ?_)
  refine held_move 0 (Go.Operand.tmp 11) (some 39) (.pointer (some ⟨U, 0, none⟩)) (by kernel_rfl) (by kernel_rfl) (by kernel_rfl) (by kernel_rfl) (by kernel_rfl) (fun _ _ _ _ _ h => h) hHeld ?_
  refine held_nil 1 (Go.Operand.tmp 39) (some 40) ⟨U, 0, none⟩ (by kernel_rfl) (by kernel_rfl) (by kernel_rfl) (by kernel_rfl) (by kernel_rfl) (fun _ _ _ _ _ h => h) hHeld ?_
  refine held_field 2 31 (Go.Operand.tmp 40) 0 (some 41) (.pointer (some ⟨U, 0, none⟩)) (.pointer (some ⟨U, 0, none⟩)) (by kernel_rfl) (by kernel_rfl) (fun w => by kernel_rfl) (by kernel_rfl) (by kernel_rfl) (by kernel_rfl) (fun _ _ _ _ _ h => h) hHeld ?_
  refine held_cell 3 3 (Go.Operand.tmp 41) (some 42) (.pointer (some ⟨U, 0, none⟩)) (.int .i64 zP) (by kernel_rfl) (by kernel_rfl) (fun W hW => load_i64 U 0 W _ ((hW.cell (p := ⟨U, 0, none⟩) hUlt).trans c0)) (by kernel_rfl) (by kernel_rfl) (by kernel_rfl) (fun _ _ _ _ _ h => h) hHeld ?_
  refine held_move 4 (Go.Operand.tmp 11) (some 43) (.pointer (some ⟨U, 0, none⟩)) (by kernel_rfl) (by kernel_rfl) (by kernel_rfl) (by kernel_rfl) (by kernel_rfl) (fun _ _ _ _ _ h => h) hHeld ?_
  refine held_nil 5 (Go.Operand.tmp 43) (some 44) ⟨U, 0, none⟩ (by kernel_rfl) (by kernel_rfl) (by kernel_rfl) (by kernel_rfl) (by kernel_rfl) (fun _ _ _ _ _ h => h) hHeld ?_
  refine held_field 6 31 (Go.Operand.tmp 44) 1 (some 45) (.pointer (some ⟨U, 0, none⟩)) (.pointer (some ⟨U, 1, none⟩)) (by kernel_rfl) (by kernel_rfl) (fun w => by kernel_rfl) (by kernel_rfl) (by kernel_rfl) (by kernel_rfl) (fun _ _ _ _ _ h => h) hHeld ?_
  refine held_cell 7 3 (Go.Operand.tmp 45) (some 46) (.pointer (some ⟨U, 1, none⟩)) (.int .i64 zT) (by kernel_rfl) (by kernel_rfl) (fun W hW => load_i64 U 1 W _ ((hW.cell (p := ⟨U, 1, none⟩) hUlt).trans c1)) (by kernel_rfl) (by kernel_rfl) (by kernel_rfl) (fun _ _ _ _ _ h => h) hHeld ?_
  refine held_build 8 35 #[(0, Go.Operand.tmp 42), (1, Go.Operand.tmp 46)] (some 47) #[(0, .int .i64 zP), (1, .int .i64 zT)] (.agg (uv zP zT 0 0)) (by kernel_rfl) (by kernel_rfl) (fun w => dp_build2 _ _ w) (by kernel_rfl) (by kernel_rfl) (by kernel_rfl) (fun _ _ _ _ _ h => h) hHeld ?_
  refine held_run 9 (Go.Op.box 35 (Go.Operand.tmp 47)) 32 (some 48) (.pointer (some ⟨W5.drew.heap.size, 0, none⟩)) (W5.drew.alloc (.cells (uv zP zT 0 0) 35)) (by kernel_rfl) (by kernel_rfl) (by kernel_rfl) (fun o ho ht => exec_box 35 (.tmp 47) ho (uv zP zT 0 0) (by kernel_rfl) (by kernel_rfl)) (hHeld.trans ((below_alc W5.drew _).mono hHeld.size)) ?_
  intro hHeld
  refine held_assign 10 (Go.Operand.tmp 48) (some 12) (.pointer (some ⟨W5.drew.heap.size, 0, none⟩)) (by kernel_rfl) (by kernel_rfl) (by kernel_rfl) (by kernel_rfl) (by kernel_rfl) (fun _ _ _ _ _ h => h) hHeld ?_
  refine wpAnyH_done (by kernel_rfl) ?_ _
  refine NoPanic.normal ?_
  have hx6 : DpH (W5.drew.alloc (.cells (uv zP zT 0 0) 35)) W5.drew.heap.size zP zT 0 0 := heap1_0 W5.drew _
  have hst : PlS w0 (W5.drew.alloc (.cells (uv zP zT 0 0) 35)) U W5.drew.heap.size zP zT 0 0 Ab xs := ⟨hu5.below hHeld, hx6, Nat.ne_of_lt hUlt, hb5'.trans (hHeld.mono hb5'.size), ⟨hUlo, hb5'.size⟩, hr5.below hHeld, fun y e _ => by have h1 := hlU y e; exact ⟨by omega, by have h2 : W5.drew.heap.size = W5.heap.size := rfl; omega⟩⟩
  clear hx6 hHeld hu5 hr5 hb5' hUlo hlU hUlt c0 c1
  generalize W5.drew.alloc (.cells (uv zP zT 0 0) 35) = W6 at *
  generalize W5.drew.heap.size = X at *
  have HS6 := Lib.hid (And.intro hst (And.intro hrg hnl))
  clear hst hrg hnl
  go_wp2_with fail
  go_loopw [13] (fun y wr => ∃ (i : Nat) (ph at' a b : Int), i ≤ nl ∧ y = .int .i64 (i : Int) ∧ RgU ph at' a b i ∧ PlS w0 wr U X ph at' a b Ab xs) (fun y _ => nl - (intOf y).toNat)
  case atStart => exact ⟨0, zP, zT, 0, 0, by omega, rfl, HS6.out.2.1, HS6.out.1⟩
  case round =>
    obtain ⟨i, ph, at', a0, b, hi, rfl, hrg, hP⟩ := hrel
    obtain ⟨wo, rfl⟩ : ∃ wo : World, wo = wr := ⟨_, rfl⟩
    by_cases hlt : i < nl
    · have hlt' : (i : Int) < (nl : Int) := by omega
      have HG : Hid (RgU ph at' a0 b i ∧ i < nl ∧ nl ≤ 60) := Lib.hid ⟨hrg, hlt, HS6.out.2.2⟩
      have HP := Lib.hid hP
      obtain ⟨V, hV⟩ : ∃ V, V = askV ph at' b S (oneF 7#8) xs := ⟨_, rfl⟩
      have HV := Lib.hid hV
      have hyl : V.ys.length ≤ 200 := by rw [hV]; exact ask_len _ _ _ _ _ _
      have HYL := Lib.hid hyl
      clear hrg hlt hP hV hyl hi HS6
      go_upto_region 13 with (fail)
      have hau := uask_any HP.out.u (oneF 7#8) Ab S cb xs HXL.out.1 HXL.out.2.1 (by have := HXL.out.2.2; omega) HG.out.1.t HP.out.bl
      rw [← HV.out] at hau
      go_upto_region 14 with (first | (refine wpList_build rfl 37 _ rfl #[(0, .int .u8 7)] (by kernel_rfl) (.agg (arr8 32 (oneF 7#8))) (fun w => hs_build7 w) ?_) | (go_at_call 9; refine hau.mono ?_; rintro e Wa ⟨A1, l1, c1, rfl, hl_A1, hr_A1, hb_A1⟩; have HLA1 := Lib.hid hl_A1; clear hl_A1 hau) | (refine wpList_store_row rfl 40 _ _ rfl Wa.heap.size (rqA V.op V.f V.off V.n (.slice A1 l1 c1)) rfl rfl _ _ (heap1_0 _ _) (rq_info _ _ _ _ _) (by kernel_rfl) (rq_one _ _ _ _ _ _ _) ?_; rw [alloc_setRow]))
      have hbn := below_alc Wa (.cells (rqA V.op V.f V.off V.n (.slice A1 l1 c1)) 40)
      refine wp_world (fun W => PlS w0 W U X ph at' a0 b Ab xs ∧ W.heap[Wa.heap.size]? = some (.cells (rqA V.op V.f V.off V.n (.slice A1 l1 c1)) 40 (0, 0)) ∧ SlRead W A1 (ints .u8 V.ys)) ⟨(HP.out.below hb_A1).below hbn, heap1_0 Wa _, hr_A1.below hbn⟩ ?_
      clear HP hr_A1 hb_A1 hbn 
      rintro W13 ⟨hP, hR1, hr_A1⟩
      have HP := Lib.hid hP
      clear hP
      generalize Wa.heap.size = R1 at *
      have hau := dask_any HP.out.x (oneF 7#8) Ab S cb xs HXL.out.1 HXL.out.2.1 (by have := HXL.out.2.2; omega) HG.out.1.t HP.out.bl
      rw [← HV.out] at hau
      go_upto_region 15 with (first | (refine wpList_build rfl 37 _ rfl #[(0, .int .u8 7)] (by kernel_rfl) (.agg (arr8 32 (oneF 7#8))) (fun w => hs_build7 w) ?_) | (go_at_call 10; refine hau.mono ?_; rintro e Wb ⟨A2, l2, c2, rfl, hl_A2, hr_A2, hb_A2⟩; have HLA2 := Lib.hid hl_A2; clear hl_A2 hau) | (refine wpList_store_row rfl 40 _ _ rfl Wb.heap.size (rqA V.op V.f V.off V.n (.slice A2 l2 c2)) rfl rfl _ _ (heap1_0 _ _) (rq_info _ _ _ _ _) (by kernel_rfl) (rq_one _ _ _ _ _ _ _) ?_; rw [alloc_setRow]))
      have hbn := below_alc Wb (.cells (rqA V.op V.f V.off V.n (.slice A2 l2 c2)) 40)
      refine wp_world (fun W => PlS w0 W U X ph at' a0 b Ab xs ∧ W.heap[Wb.heap.size]? = some (.cells (rqA V.op V.f V.off V.n (.slice A2 l2 c2)) 40 (0, 0)) ∧ SlRead W A2 (ints .u8 V.ys) ∧ W.heap[R1]? = some (.cells (rqA V.op V.f V.off V.n (.slice A1 l1 c1)) 40 (0, 0)) ∧ SlRead W A1 (ints .u8 V.ys)) ⟨(HP.out.below hb_A2).below hbn, heap1_0 Wb _, hr_A2.below hbn, heap_below (heap_below hR1 hb_A2) hbn, (hr_A1.below hb_A2).below hbn⟩ ?_
      clear HP hr_A2 hb_A2 hbn hR1 hr_A1
      rintro W14 ⟨hP, hR2, hr_A2, hR1, hr_A1⟩
      have HP := Lib.hid hP
      clear hP
      generalize Wb.heap.size = R2 at *
      obtain rfl : l2 = l1 := HLA2.out.trans HLA1.out.symm
      have hsr := samereq_any V.op V.f V.off V.n A1 A2 l2 c1 c2 V.ys W14 hr_A1 hr_A2 HLA1.out (by rw [HLA1.out]; have := HYL.out; omega)
      refine wp_region_lit ?_
      refine wpList_run (by kernel_rfl) (.bool V.is) (W14) (exec_move rfl (by kernel_rfl)) ?_
      refine wpList_run (by kernel_rfl) (.bool V.is) (W14) (exec_move rfl (by kernel_rfl)) ?_
      refine wpList_run (by kernel_rfl) (.bool false) (W14) (exec_bin (vx := .bool V.is) (vy := .bool V.is) rfl (by kernel_rfl) (neq_bb _ _ V.is W14)) ?_
      refine wpList_run (by kernel_rfl) (.bool false) (W14) (exec_move rfl (by kernel_rfl)) ?_
      simp only [put_list, List.set_cons_zero, List.set_cons_succ]
      refine wpList_runG (by kernel_rfl) (.agg (rqA V.op V.f V.off V.n (.slice A1 l2 c1))) (W14) (exec_load (vx := .pointer (some ⟨R1, 0, none⟩)) rfl (by kernel_rfl) (load_rqQ hR1)) ?_
      refine wpList_runG (by kernel_rfl) (.agg (rqA V.op V.f V.off V.n (.slice A2 l2 c2))) (W14) (exec_load (vx := .pointer (some ⟨R2, 0, none⟩)) rfl (by kernel_rfl) (load_rqQ hR2)) ?_
      refine wpList_call (by kernel_rfl) 11 #[Go.Operand.tmp 73, Go.Operand.tmp 74] #[40, 40] #[.agg (rqA V.op V.f V.off V.n (.slice A1 l2 c1)), .agg (rqA V.op V.f V.off V.n (.slice A2 l2 c2))] _ rfl (by kernel_rfl) (by kernel_rfl) (hsr) ?_
      rintro e W15 ⟨rfl, hb15⟩
      refine ⟨_, rfl, ?_⟩
      refine wpList_runG (by kernel_rfl) (.bool false) (W15) (exec_un (vx := .bool true) rfl (by kernel_rfl) (by kernel_rfl)) ?_
      refine wpList_run (by kernel_rfl) (.bool false) (W15) (exec_pick (b := false) rfl (by kernel_rfl) (by kernel_rfl)) ?_
      refine wpList_nil ?_
      simp only [put_list, List.set_cons_zero, List.set_cons_succ]
      replace HP := Lib.hid (HP.out.below hb15)
      clear hsr hR1 hR2 hr_A1 hr_A2 hb15
      go_upto_region 17 with (fail)
      obtain ⟨bA, oA, eA, hltA, hci, hcb⟩ := HL.out.r (by have := HG.out.2.1; omega)
      subst eA
      obtain ⟨z2, hz2⟩ : ∃ z, z = gl i 2 := ⟨_, rfl⟩
      have hc2 : W15.cell? ⟨bA, oA + i * 4 + 2, none⟩ = some (.int .i64 z2) := by rw [hz2, Nat.add_assoc]; exact (HP.out.b.cell (p := ⟨bA, _, none⟩) hltA).trans (hci i 2 HG.out.2.1 (by decide))
      obtain ⟨K, hK, hK70⟩ := exists_mod z2 70 (by omega)
      have hnk := fun w => number_nat z2 70 K w (by omega) hK
      have HC := Lib.hid (And.intro hltA (And.intro hci hcb))
      clear hltA hci hcb hz2 hK
      refine wp_region_lit ?_
      refine wpList_run (by kernel_rfl) (.slice (some ⟨bA, oA, none⟩) nl cl) (W15) (exec_move rfl (by kernel_rfl)) ?_
      refine wpList_run (by kernel_rfl) (.int .i64 (i : Int)) (W15) (exec_move rfl (by kernel_rfl)) ?_
      refine wpList_run (by kernel_rfl) (.pointer (some ⟨bA, oA + i * 4, none⟩)) (W15) (exec_index (vx := .slice (some ⟨bA, oA, none⟩) nl cl) (vy := .int .i64 (i : Int)) rfl (by kernel_rfl) (idx_do bA oA nl cl i HG.out.2.1 W15)) ?_
      refine wpList_run (by kernel_rfl) (.pointer (some ⟨bA, oA + i * 4 + 2, none⟩)) (W15) (exec_field (vx := .pointer (some ⟨bA, oA + i * 4, none⟩)) rfl (by kernel_rfl) (by kernel_rfl)) ?_
      simp only [put_list, List.set_cons_zero, List.set_cons_succ]
      refine wpList_run (by kernel_rfl) (.int .i64 z2) (W15) (exec_load (vx := .pointer (some ⟨bA, oA + i * 4 + 2, none⟩)) rfl (by kernel_rfl) (load_i64 bA (oA + i * 4 + 2) W15 _ hc2)) ?_
      refine wpList_call (by kernel_rfl) 7 #[Go.Operand.tmp 82, Go.Operand.const (Go.Value.int Go.IntKind.i64 70)] #[3, 3] #[.int .i64 z2, Go.Value.int Go.IntKind.i64 70] _ rfl (by kernel_rfl) (by kernel_rfl) (hnk W15) ?_
      rintro e W16 ⟨rfl, qk, hqk⟩
      refine ⟨_, rfl, ?_⟩
      refine wpList_run (by kernel_rfl) (.int .i64 (K : Int)) (W16) (exec_assign rfl (by kernel_rfl)) ?_
      refine wpList_nil ?_
      simp only [put_list, List.set_cons_zero, List.set_cons_succ]
      have hb16 : Below W15.heap.size W15 W16 := by rw [hqk]; exact Below.drewNr qk
      replace HP := Lib.hid (HP.out.below hb16)
      clear hb16 hqk hnk hc2
      go_wp2_with fail
      go_loopw [18] (fun y wj => ∃ (k : Nat) (b2 : Int), y = .int .i64 (k : Int) ∧ k ≤ 70 ∧ 0 ≤ b2 ∧ b2 ≤ 64 ∧ PlS w0 wj U X ph at' a0 b2 Ab xs) (fun y _ => (intOf y).toNat)
      case atStart => exact ⟨K, b, rfl, by omega, HG.out.1.b.1, HG.out.1.b.2, HP.out⟩
      clear HP
      case round =>
        obtain ⟨k, b2, rfl, hk70, hb0, hb64, hPj⟩ := hrel
        by_cases hk : 0 < k
        · have hk' : (0 : Int) < (k : Int) := by omega
          obtain ⟨b3, hb3⟩ : ∃ z : Int, z = if 0 < b2 then b2 - 1 else b2 := ⟨_, rfl⟩
          have htu := tick_u wr U ph at' a0 b2 hPj.u (by omega)
          have htd := fun W (h : Turn (· = U) wr W) => tick_d W X ph at' a0 b2 (hPj.x1 h) (by omega)
          rw [← hb3] at htu htd
          have HK := Lib.hid (And.intro hPj (And.intro hk (show 0 ≤ b3 ∧ b3 ≤ 64 by rw [hb3]; split <;> omega)))
          have hw1 : wrap64 ((k : Int) - 1) = (((k - 1 : Nat)) : Int) := by unfold wrap64; omega
          clear hPj hk hb0 hb64 hb3
          go_wp2_with (first | (go_at_call 12; refine htu.mono ?_; rintro e Wt ⟨rfl, hut, htt⟩; have htd2 := htd Wt htt; have HT := Lib.hid (And.intro hut htt); clear hut htt htu htd) | (go_at_call 13; refine htd2.mono ?_; rintro e Wv ⟨rfl, hxt, htt⟩; have HV2 := Lib.hid (And.intro hxt htt); clear hxt htt htd2))
          refine ⟨?rel, ?measure⟩
          case rel => exact ⟨k - 1, b3, by first | rw [hw1] | go_num, by omega, HK.out.2.2.1, HK.out.2.2.2, HK.out.1.both HT.out.2 HT.out.1 HV2.out.2 HV2.out.1⟩
          case measure => have := HK.out.2.1; show ((k : Int) - 1).toNat < (k : Int).toNat; omega
        · obtain rfl : k = 0 := by omega
          have HP := Lib.hid hPj
          have HG2 : Hid (RgU ph at' a0 b2 i) := Lib.hid ⟨HG.out.1.p, HG.out.1.t, HG.out.1.a, hb0, hb64⟩
          clear hPj hk hb0 hb64 hk70
          go_upto_region 22 with (fail)
          obtain ⟨zc, hzc⟩ : ∃ z, z = gl i 0 := ⟨_, rfl⟩
          obtain ⟨zn, hzn⟩ : ∃ z, z = gl i 1 := ⟨_, rfl⟩
          obtain ⟨nu, hnu⟩ : ∃ z, z = IntKind.u32.wrap zn := ⟨_, rfl⟩
          have hnr : 0 ≤ nu ∧ nu < 4294967296 := by rw [hnu]; exact u32_rg zn
          have HNU := Lib.hid hnu
          obtain ⟨C, hC, hC21⟩ := exists_mod zc 21 (by omega)
          have hnc := fun w => number_nat zc 21 C w (by omega) hC
          have hPd : PlS w0 wr.drew U X ph at' a0 b2 Ab xs := HP.out.below (Below.drewNr (w := wr) 1)
          have hAl : bA < (wr.drew).heap.size := Nat.lt_of_lt_of_le HC.out.1 hPd.b.size
          have hc0 : (wr.drew).cell? ⟨bA, oA + i * 4, none⟩ = some (.int .i64 zc) := by rw [hzc]; exact (hPd.b.cell (p := ⟨bA, oA + i * 4, none⟩) HC.out.1).trans (HC.out.2.1 i 0 HG.out.2.1 (by decide))
          have hc1 : (wr.drew).cell? ⟨bA, oA + i * 4 + 1, none⟩ = some (.int .i64 zn) := by rw [hzn, Nat.add_assoc]; exact (hPd.b.cell (p := ⟨bA, _, none⟩) HC.out.1).trans (HC.out.2.1 i 1 HG.out.2.1 (by decide))
          clear hC hnu
          refine region_cutG (fun a a' w' => ∃ Rb, a' = ((((((((((((((a.put (some 96) (.slice (some ⟨bA, oA, none⟩) nl cl)).put (some 97) (.int .i64 (i : Int))).put (some 98) (.pointer (some ⟨bA, oA + i * 4, none⟩))).put (some 99) (.pointer (some ⟨bA, oA + i * 4, none⟩))).put (some 100) (.int .i64 zc)).put (some 101) (.int .i64 (C : Int))).put (some 102) (.slice (some ⟨bA, oA, none⟩) nl cl)).put (some 103) (.int .i64 (i : Int))).put (some 104) (.pointer (some ⟨bA, oA + i * 4, none⟩))).put (some 105) (.pointer (some ⟨bA, oA + i * 4 + 1, none⟩))).put (some 106) (.int .i64 zn)).put (some 107) (.int .u32 nu)).put (some 108) (.agg (rv (C : Int) nu (.slice none 0 0)))).put (some 19) (.pointer (some ⟨Rb, 0, none⟩))) ∧ PlS w0 w' U X ph at' a0 b2 Ab xs ∧ w'.heap[Rb]? = some (.cells (rv (C : Int) nu (.slice none 0 0)) 47 (0, 0)) ∧ (Rb ≠ U ∧ Rb ≠ X ∧ w0.heap.size ≤ Rb ∧ ∀ y, Ab = some y → 0 < xs.length → y.block ≠ Rb)) ?_ ?_
          · skip
            refine wp_region_noPanic ?_
            refine wp_region_held_drew (S := fun W => Below wr.drew.heap.size wr.drew W) (by kernel_rfl) (Below.refl _ _) (fun hHeld => ?_)
            generalize wr.drew = WD at *
            refine held_move 0 (Go.Operand.tmp 0) (some 96) (.slice (some ⟨bA, oA, none⟩) nl cl) (by kernel_rfl) (by kernel_rfl) (by kernel_rfl) (by kernel_rfl) (by kernel_rfl) (fun _ _ _ _ _ h => h) hHeld ?_
            refine held_move 1 (Go.Operand.tmp 13) (some 97) (.int .i64 (i : Int)) (by kernel_rfl) (by kernel_rfl) (by kernel_rfl) (by kernel_rfl) (by kernel_rfl) (fun _ _ _ _ _ h => h) hHeld ?_
            refine held_index 2 22 (Go.Operand.tmp 96) (Go.Operand.tmp 97) (some 98) (.slice (some ⟨bA, oA, none⟩) nl cl) (.int .i64 (i : Int)) (.pointer (some ⟨bA, oA + i * 4, none⟩)) (by kernel_rfl) (by kernel_rfl) (fun w => idx_do bA oA nl cl i HG.out.2.1 w) (by kernel_rfl) (by kernel_rfl) (by kernel_rfl) (fun _ _ _ _ _ h => h) hHeld ?_
            refine held_field 3 45 (Go.Operand.tmp 98) 0 (some 99) (.pointer (some ⟨bA, oA + i * 4, none⟩)) (.pointer (some ⟨bA, oA + i * 4, none⟩)) (by kernel_rfl) (by kernel_rfl) (fun w => by kernel_rfl) (by kernel_rfl) (by kernel_rfl) (by kernel_rfl) (fun _ _ _ _ _ h => h) hHeld ?_
            refine held_cell 4 3 (Go.Operand.tmp 99) (some 100) (.pointer (some ⟨bA, oA + i * 4, none⟩)) (.int .i64 zc) (by kernel_rfl) (by kernel_rfl) (fun W hW => load_i64 bA (oA + i * 4) W _ ((hW.cell (p := ⟨bA, oA + i * 4, none⟩) hAl).trans hc0)) (by kernel_rfl) (by kernel_rfl) (by kernel_rfl) (fun _ _ _ _ _ h => h) hHeld ?_
            refine held_move 6 (Go.Operand.tmp 0) (some 102) (.slice (some ⟨bA, oA, none⟩) nl cl) (by kernel_rfl) (by kernel_rfl) (by kernel_rfl) (by kernel_rfl) (by kernel_rfl) (fun _ _ _ _ _ h => h) hHeld ?_
            refine held_move 7 (Go.Operand.tmp 13) (some 103) (.int .i64 (i : Int)) (by kernel_rfl) (by kernel_rfl) (by kernel_rfl) (by kernel_rfl) (by kernel_rfl) (fun _ _ _ _ _ h => h) hHeld ?_
            refine held_index 8 22 (Go.Operand.tmp 102) (Go.Operand.tmp 103) (some 104) (.slice (some ⟨bA, oA, none⟩) nl cl) (.int .i64 (i : Int)) (.pointer (some ⟨bA, oA + i * 4, none⟩)) (by kernel_rfl) (by kernel_rfl) (fun w => idx_do bA oA nl cl i HG.out.2.1 w) (by kernel_rfl) (by kernel_rfl) (by kernel_rfl) (fun _ _ _ _ _ h => h) hHeld ?_
            refine held_field 9 45 (Go.Operand.tmp 104) 1 (some 105) (.pointer (some ⟨bA, oA + i * 4, none⟩)) (.pointer (some ⟨bA, oA + i * 4 + 1, none⟩)) (by kernel_rfl) (by kernel_rfl) (fun w => by kernel_rfl) (by kernel_rfl) (by kernel_rfl) (by kernel_rfl) (fun _ _ _ _ _ h => h) hHeld ?_
            refine held_cell 10 3 (Go.Operand.tmp 105) (some 106) (.pointer (some ⟨bA, oA + i * 4 + 1, none⟩)) (.int .i64 zn) (by kernel_rfl) (by kernel_rfl) (fun W hW => load_i64 bA (oA + i * 4 + 1) W _ ((hW.cell (p := ⟨bA, oA + i * 4 + 1, none⟩) hAl).trans hc1)) (by kernel_rfl) (by kernel_rfl) (by kernel_rfl) (fun _ _ _ _ _ h => h) hHeld ?_
            refine held_any 11 (Go.Op.convert 3 38 (Go.Operand.tmp 106)) (some 107) (.int .u32 nu) (by kernel_rfl) (by kernel_rfl) (by kernel_rfl) (by kernel_rfl) (fun _ _ _ _ _ h => h) hHeld (fun o ho w _ => exec_cvt (vx := .int .i64 zn) ho (by kernel_rfl) (by rw [HNU.out]; exact cvt_i64u zn w)) ?_
            refine held_ready [5, 13] (by kernel_rfl) (by simp) (rdy_call 5 7 #[Go.Operand.tmp 100, Go.Operand.const (Go.Value.int Go.IntKind.i64 21)] #[3, 3] (some 101) #[.int .i64 zc, .int .i64 21] _ (by kernel_rfl) (by kernel_rfl) (by kernel_rfl) (hnc WD) ?_ (rdy_run 13 (.alloc 47) 0 (some 19) (.pointer (some ⟨WD.heap.size, 0, none⟩)) (WD.alloc (.cells (rv 0 0 (.slice none 0 0)) 47)) (by kernel_rfl) (by kernel_rfl) (fun o ho _ => exec_allocR ho) (below_alc WD _) ?_ AllReadyH.nil))
            · rintro e WN ⟨rfl, qa, hqa⟩
              refine ⟨_, rfl, by rw [hqa]; exact Below.drewNr qa, fun hHeld => ?_⟩
              refine held_build 12 47 #[(0, Go.Operand.tmp 101), (1, Go.Operand.tmp 107)] (some 108) #[(0, .int .i64 (C : Int)), (1, .int .u32 nu)] (.agg (rv (C : Int) nu (.slice none 0 0))) (by kernel_rfl) (by kernel_rfl) (fun w => rv_build2 (C : Int) nu w) (by kernel_rfl) (by kernel_rfl) (by kernel_rfl) (fun _ _ _ _ _ h => h) hHeld ?_
              refine held_run 13 (Go.Op.alloc 47) 0 (some 19) (.pointer (some ⟨WN.heap.size, 0, none⟩)) (WN.alloc (.cells (rv 0 0 (.slice none 0 0)) 47)) (by kernel_rfl) (by kernel_rfl) (by kernel_rfl) (fun o ho ht => exec_allocR ho) (hHeld.trans ((below_alc WN _).mono hHeld.size)) ?_
              intro hHeld
              refine held_skip 14 (Go.Op.store 47 (Go.Operand.tmp 19) (Go.Operand.tmp 108)) none ((WN.alloc (.cells (rv 0 0 (.slice none 0 0)) 47)).setRow WN.heap.size (rv (C : Int) nu (.slice none 0 0))) (by kernel_rfl) (by kernel_rfl) (fun o ho => exec_store (vx := .pointer (some ⟨WN.heap.size, 0, none⟩)) (vy := .agg (rv (C : Int) nu (.slice none 0 0))) ho (by kernel_rfl) (store_rowR (WN.alloc (.cells (rv 0 0 (.slice none 0 0)) 47)) WN.heap.size (C : Int) nu none 0 0 _ (heap1_0 WN _) rfl)) (below_setRow hHeld (by rw [hqa]; exact Nat.le_refl _) _) ?_
              intro hHeld
              refine wpAnyH_done (by kernel_rfl) ?_ _
              refine NoPanic.normal ?_
              refine ⟨rfl, WN.heap.size, ?_, hPd.below hHeld, setRow_heap _ _ _ _ _ _ (heap1_0 WN _), hPd.fresh (by rw [hqa]; exact Nat.le_refl _)⟩
              simp only [put_list, List.set_cons_zero, List.set_cons_succ]
              rfl
            · intro hHeld
              refine held_call 5 7 #[Go.Operand.tmp 100, Go.Operand.const (Go.Value.int Go.IntKind.i64 21)] #[3, 3] (some 101) #[.int .i64 zc, Go.Value.int Go.IntKind.i64 21] _ (by kernel_rfl) (by kernel_rfl) (by kernel_rfl) (by kernel_rfl) (hnc (WD.alloc (.cells (rv 0 0 (.slice none 0 0)) 47))) ?_
              rintro e WN ⟨rfl, qa, hqa⟩
              have hbN : Below (WD.alloc (.cells (rv 0 0 (.slice none 0 0)) 47)).heap.size (WD.alloc (.cells (rv 0 0 (.slice none 0 0)) 47)) WN := by rw [hqa]; exact Below.drewNr qa
              have hbN2 := hHeld.trans (hbN.mono hHeld.size)
              have hgN := heap_below (heap1_0 WD (.cells (rv 0 0 (.slice none 0 0)) 47)) hbN
              refine ⟨_, rfl, hbN2, fun hHeld => ?_⟩
              refine held_build 12 47 #[(0, Go.Operand.tmp 101), (1, Go.Operand.tmp 107)] (some 108) #[(0, .int .i64 (C : Int)), (1, .int .u32 nu)] (.agg (rv (C : Int) nu (.slice none 0 0))) (by kernel_rfl) (by kernel_rfl) (fun w => rv_build2 (C : Int) nu w) (by kernel_rfl) (by kernel_rfl) (by kernel_rfl) (fun _ _ _ _ _ h => h) hHeld ?_
              refine held_skip 14 (Go.Op.store 47 (Go.Operand.tmp 19) (Go.Operand.tmp 108)) none (WN.setRow WD.heap.size (rv (C : Int) nu (.slice none 0 0))) (by kernel_rfl) (by kernel_rfl) (fun o ho => exec_store (vx := .pointer (some ⟨WD.heap.size, 0, none⟩)) (vy := .agg (rv (C : Int) nu (.slice none 0 0))) ho (by kernel_rfl) (store_rowR WN WD.heap.size (C : Int) nu none 0 0 _ hgN rfl)) (below_setRow hHeld (Nat.le_refl _) _) ?_
              intro hHeld
              refine wpAnyH_done (by kernel_rfl) ?_ _
              refine NoPanic.normal ?_
              refine ⟨rfl, WD.heap.size, ?_, hPd.below hHeld, setRow_heap _ _ _ _ _ _ hgN, hPd.fresh (Nat.le_refl _)⟩
              simp only [put_list, List.set_cons_zero, List.set_cons_succ]
              rfl
          · rintro a' W22 ⟨Rb, rfl, hP, hR, hRf⟩
            have HP := Lib.hid hP
            have HRf := Lib.hid hRf
            clear hP hRf hPd hc0 hc1 hAl hnc
            simp only [put_list, List.set_cons_zero, List.set_cons_succ]
            have HGI : Hid (i < nl ∧ nl ≤ 60) := Lib.hid HG.out.2
            have HZN := Lib.hid (And.intro hzc hzn)
            clear hzc hzn HG
            obtain ⟨M, hM, hMS⟩ := exists_mod zn ((S : Int) + 2) (by omega)
            have hnm := fun w => number_nat zn ((S : Int) + 2) M w (by omega) hM
            have hM9 : M < 4294967296 := by omega
            clear hM
            have HNR := Lib.hid hnr
            clear hnr
            have hk0 : W22.cell? ⟨bA, oA + i * 4, none⟩ = some (.int .i64 zc) := by rw [HZN.out.1]; exact (HP.out.b.cell (p := ⟨bA, oA + i * 4, none⟩) HC.out.1).trans (HC.out.2.1 i 0 HGI.out.1 (by decide))
            go_upto_if 115 with (fail)
            clear hk0
            go_cut [] (fun wx => ∃ cd : Int, PlS w0 wx U X ph at' a0 b2 Ab xs ∧ wx.heap[Rb]? = some (.cells (rv (cd) (nu) (.slice none 0 0)) 47 (0, 0)))
            case first =>
              have r0 : W22.cell? ⟨Rb, 0, none⟩ = some (.int .i64 (C : Int)) := cell_heap hR rfl
              have f0 := thaw_heap hR 0
              have HQ0 := Lib.hid (And.intro (HP.out.other (set_turnH W22 Rb 0 (.int .i64 0)) HRf.out) (heap_setCell_same W22 Rb 0 _ _ (.int .i64 0) hR))
              have HQ1 := Lib.hid (And.intro HP.out hR)
              clear HP hR
              go_wp2_with fail
              · go_meet
                exact ⟨0, HQ0.out⟩
              · go_meet
                exact ⟨(C : Int), HQ1.out⟩
            case rest =>
            clear HP hR
            obtain ⟨cd, hP, hR⟩ := hcut
            obtain ⟨W23, rfl⟩ : ∃ W : World, W = wc := ⟨_, rfl⟩
            have HP := Lib.hid hP
            clear hP
            have k1 : W23.cell? ⟨bA, oA + i * 4 + 1, none⟩ = some (.int .i64 zn) := by rw [HZN.out.2, Nat.add_assoc]; exact (HP.out.b.cell (p := ⟨bA, _, none⟩) HC.out.1).trans (HC.out.2.1 i 1 HGI.out.1 (by decide))
            go_upto_if 123 with (fail)
            go_cut [] (fun wx => ∃ nn : Int, (0 ≤ nn ∧ nn < 4294967296) ∧ PlS w0 wx U X ph at' a0 b2 Ab xs ∧ wx.heap[Rb]? = some (.cells (rv (cd) (nn) (.slice none 0 0)) 47 (0, 0)))
            case first =>
              have r1 : W23.cell? ⟨Rb, 1, none⟩ = some (.int .u32 nu) := cell_heap hR rfl
              have f1 := thaw_heap hR 1
              have hRlt := lt_heap hR
              have HQ0 := Lib.hid (fun qm => And.intro ((HP.out.below (Below.drewNr (w := W23) qm)).other (set_turnH (W23.drewN qm) Rb 1 (.int .u32 (M : Int))) HRf.out) (heap_setCell_same (W23.drewN qm) Rb 1 _ _ (.int .u32 (M : Int)) (show (W23.drewN qm).heap[Rb]? = some (.cells (rv (cd) (nu) (.slice none 0 0)) 47 (0, 0)) from heap_below hR (Below.drewNr qm))))
              have HQ1 := Lib.hid (And.intro HP.out hR)
              clear HP hR
              go_wp2_with (go_at_call 7; refine (hnm W23).mono ?_; rintro e Wx ⟨rfl, qm, rfl⟩; have r1b := ((Below.drewNr (w := W23) qm).cell (p := ⟨Rb, 1, none⟩) hRlt).trans r1; have f1b := ((Below.drewNr (w := W23) qm).frozen (p := ⟨Rb, 1, none⟩) hRlt).trans f1)
              · go_meet
                exact ⟨(M : Int), by omega, HQ0.out qm⟩
              · go_meet
                exact ⟨nu, HNR.out, HQ1.out⟩
            case rest =>
            clear HP hR
            clear k1
            obtain ⟨nn, hnn, hP, hR⟩ := hcut
            obtain ⟨W25, rfl⟩ : ∃ W : World, W = wc := ⟨_, rfl⟩
            have HP := Lib.hid hP
            have HNN := Lib.hid hnn
            clear hP hnn hnm
            have k3 : W25.cell? ⟨bA, oA + i * 4 + 3, none⟩ = some (.bool (fl i)) := by rw [Nat.add_assoc]; exact (HP.out.b.cell (p := ⟨bA, _, none⟩) HC.out.1).trans (HC.out.2.2 i HGI.out.1)
            go_upto_if 138 with (fail)
            clear k3
            go_cut [] (fun wx => ∃ (D : Value) (d : Bool), PlS w0 wx U X ph at' a0 b2 Ab xs ∧ wx.heap[Rb]? = some (.cells (rv (cd) (nn) (D)) 47 (0, 0)) ∧ DatU wx D d U)
            case first =>
              have HQ1 := Lib.hid (And.intro HP.out hR)
              have hbx := below_alc W25 (.cells #[.int .u8 1] 5)
              have r2 : (W25.alloc (.cells #[.int .u8 1] 5)).cell? ⟨Rb, 2, none⟩ = some (.slice none 0 0) := cell_heap (heap_below hR hbx) rfl
              have f2 := thaw_heap (heap_below hR hbx) 2
              have hRlt := lt_heap hR
              have hne : W25.heap.size ≠ Rb := by omega
              have hR2 := heap_setCell_same (W25.alloc (.cells #[.int .u8 1] 5)) Rb 2 _ _ (.slice (some ⟨W25.heap.size, 0, none⟩) 1 1) (heap_below hR hbx)
              have hG2 : ((W25.alloc (.cells #[.int .u8 1] 5)).setCell ⟨Rb, 2, none⟩ (.slice (some ⟨W25.heap.size, 0, none⟩) 1 1)).cell? ⟨W25.heap.size, 0, none⟩ = some (.int .u8 1) := ((set_turnH (W25.alloc (.cells #[.int .u8 1] 5)) Rb 2 _).cell (lt_heap (heap1_0 W25 _)) hne).trans (cell_heap (heap1_0 W25 _) rfl)
              have hPx := (HP.out.below hbx).other (set_turnH (W25.alloc (.cells #[.int .u8 1] 5)) Rb 2 (.slice (some ⟨W25.heap.size, 0, none⟩) 1 1)) HRf.out
              have hGU0 : W25.heap.size ≠ U := fun e => by have := HP.out.u.lt; omega
              have HQ0 := Lib.hid (And.intro hPx (And.intro hR2 (And.intro hG2 hGU0)))
              clear HP hR hbx hRlt hne hR2 hG2 hPx hGU0
              cases hfi : fl i with
              | true =>
                clear hfi
                go_wp2_with fail
                go_meet
                exact ⟨_, true, HQ0.out.1, HQ0.out.2.1, .inr ⟨rfl, _, rfl, HQ0.out.2.2⟩⟩
              | false =>
                clear hfi r2 f2
                go_wp2_with fail
                go_meet
                exact ⟨_, false, HQ1.out.1, HQ1.out.2, .inl ⟨rfl, rfl⟩⟩
            case rest =>
            clear HP hR
            obtain ⟨D, d, hP, hR, hD⟩ := hcut
            have HP := Lib.hid hP
            clear hP
            go_upto_region 29 with (fail)
            have hPd : PlS w0 wc.drew U X ph at' a0 b2 Ab xs := HP.out.below (Below.drewNr (w := wc) 1)
            have hDd : DatU wc.drew D d U := hD.below (Below.drewNr (w := wc) 1)
            obtain ⟨AV, hAV⟩ : ∃ v, v = ansV ph at' a0 b2 (S : Int) cd nn d := ⟨_, rfl⟩
            have hSS : (S : Int) ≤ 900 := by omega
            have hrg : RgU AV.ph AV.at' AV.a AV.b (i + 1) := by rw [hAV]; exact HG2.out.next (S : Int) cd nn d HNN.out.1 hSS
            have hai : -1000000 ≤ a0 ∧ a0 ≤ 1000000 := by have h1 := HG2.out.a; have h2 := HGI.out; omega
            have hua := uans_any E (HE.out.below hPd.b) hPd.u hai (S : Int) cd nn HNN.out D d hDd.f
            have hda := fun W1 (ht : Turn (· = U) wc.drew W1) => dans_any (hPd.x1 ht) hai (S : Int) cd nn HNN.out D d (hDd.turn ht)
            rw [← hAV] at hua
            simp only [← hAV] at hda
            clear hAV hSS hai hDd hD
            refine wp_region_noPanic ?_
            refine wp_region_held_drew (S := fun Wq => Wq.heap[Rb]? = some (.cells (rv (cd) (nn) (D)) 47 (0, 0))) (by kernel_rfl) ((show wc.drew.heap[Rb]? = some (.cells (rv (cd) (nn) (D)) 47 (0, 0)) from hR)) (fun hHeld => ?_)
            generalize wc.drew = WD at *
            refine held_move 0 (Go.Operand.tmp 11) (some 141) (.pointer (some ⟨U, 0, none⟩)) (by kernel_rfl) (by kernel_rfl) (by kernel_rfl) (by kernel_rfl) (by kernel_rfl) (fun _ _ _ _ _ h => h) hHeld ?_
            refine held_move 1 (Go.Operand.tmp 1) (some 142) (.int .i64 (S : Int)) (by kernel_rfl) (by kernel_rfl) (by kernel_rfl) (by kernel_rfl) (by kernel_rfl) (fun _ _ _ _ _ h => h) hHeld ?_
            refine held_cell 2 47 (Go.Operand.tmp 19) (some 143) (.pointer (some ⟨Rb, 0, none⟩)) (.agg (rv cd nn D)) (by kernel_rfl) (by kernel_rfl) (fun Wq hW => load_rvQ hW) (by kernel_rfl) (by kernel_rfl) (by kernel_rfl) (fun _ _ _ _ _ h => h) hHeld ?_
            refine held_move 4 (Go.Operand.tmp 12) (some 145) (.pointer (some ⟨X, 0, none⟩)) (by kernel_rfl) (by kernel_rfl) (by kernel_rfl) (by kernel_rfl) (by kernel_rfl) (fun _ _ _ _ _ h => h) hHeld ?_
            refine held_move 5 (Go.Operand.tmp 1) (some 146) (.int .i64 (S : Int)) (by kernel_rfl) (by kernel_rfl) (by kernel_rfl) (by kernel_rfl) (by kernel_rfl) (fun _ _ _ _ _ h => h) hHeld ?_
            refine held_cell 6 47 (Go.Operand.tmp 19) (some 147) (.pointer (some ⟨Rb, 0, none⟩)) (.agg (rv cd nn D)) (by kernel_rfl) (by kernel_rfl) (fun Wq hW => load_rvQ hW) (by kernel_rfl) (by kernel_rfl) (by kernel_rfl) (fun _ _ _ _ _ h => h) hHeld ?_
            refine held_call 3 14 #[Go.Operand.tmp 141, Go.Operand.tmp 142, Go.Operand.tmp 143] #[27, 3, 47] (some 144) #[.pointer (some ⟨U, 0, none⟩), .int .i64 (S : Int), .agg (rv cd nn D)] _ (by kernel_rfl) (by kernel_rfl) (by kernel_rfl) (by kernel_rfl) (hua) ?_
            rintro e Y1 ⟨rfl, hu1, ht1⟩
            have hdb := hda Y1 ht1
            refine ⟨_, rfl, (ht1.block Rb (lt_heap hHeld) HRf.out.1).trans hHeld, fun hHeld => ?_⟩
            refine held_call 7 15 #[Go.Operand.tmp 145, Go.Operand.tmp 146, Go.Operand.tmp 147] #[32, 3, 47] (some 148) #[.pointer (some ⟨X, 0, none⟩), .int .i64 (S : Int), .agg (rv cd nn D)] _ (by kernel_rfl) (by kernel_rfl) (by kernel_rfl) (by kernel_rfl) (hdb) ?_
            rintro e Y2 ⟨rfl, hx2, ht2⟩
            refine ⟨_, rfl, (ht2.block Rb (lt_heap hHeld) HRf.out.2.1).trans hHeld, fun hHeld => ?_⟩
            have hu2 := hu1.turn ht2 hPd.ne
            refine wpAnyH_weak (S' := fun Wq => (Wq.heap[Rb]? = some (.cells (rv (cd) (nn) (D)) 47 (0, 0))) ∧ UpH Wq U AV.ph AV.at' AV.a AV.b ∧ DpH Wq X AV.ph AV.at' AV.a AV.b) (fun w h => h.1) _ _ _ _ ?_
            replace hHeld : (Y2.heap[Rb]? = some (.cells (rv (cd) (nn) (D)) 47 (0, 0))) ∧ UpH Y2 U AV.ph AV.at' AV.a AV.b ∧ DpH Y2 X AV.ph AV.at' AV.a AV.b := ⟨hHeld, hu2, hx2⟩
            have HZ := Lib.hid (And.intro hrg (hPd.both ht1 hu1 ht2 hx2))
            clear hua hda hdb hu1 ht1 hu2 hx2 ht2 hrg hPd hR
            refine held_bin 8 Go.BinOp.neq 4 (Go.Operand.tmp 144) (Go.Operand.tmp 148) 4 (some 149) (.bool AV.e) (.bool AV.e) (.bool false) (by kernel_rfl) (by kernel_rfl) (fun w => neq_bb _ _ AV.e w) (by kernel_rfl) (by kernel_rfl) (by kernel_rfl) (fun _ _ _ _ _ h => h) hHeld ?_
            refine held_move 9 (Go.Operand.tmp 149) (some 150) (.bool false) (by kernel_rfl) (by kernel_rfl) (by kernel_rfl) (by kernel_rfl) (by kernel_rfl) (fun _ _ _ _ _ h => h) hHeld ?_
            refine held_move 10 (Go.Operand.tmp 11) (some 151) (.pointer (some ⟨U, 0, none⟩)) (by kernel_rfl) (by kernel_rfl) (by kernel_rfl) (by kernel_rfl) (by kernel_rfl) (fun _ _ _ _ _ h => h) hHeld ?_
            refine held_nil 11 (Go.Operand.tmp 151) (some 152) ⟨U, 0, none⟩ (by kernel_rfl) (by kernel_rfl) (by kernel_rfl) (by kernel_rfl) (by kernel_rfl) (fun _ _ _ _ _ h => h) hHeld ?_
            refine held_field 12 31 (Go.Operand.tmp 152) 0 (some 153) (.pointer (some ⟨U, 0, none⟩)) (.pointer (some ⟨U, 0, none⟩)) (by kernel_rfl) (by kernel_rfl) (fun w => by kernel_rfl) (by kernel_rfl) (by kernel_rfl) (by kernel_rfl) (fun _ _ _ _ _ h => h) hHeld ?_
            refine held_cell 13 3 (Go.Operand.tmp 153) (some 154) (.pointer (some ⟨U, 0, none⟩)) (.int .i64 AV.ph) (by kernel_rfl) (by kernel_rfl) (fun Wq hW => load_i64 U 0 Wq _ (hW.2.1.c0)) (by kernel_rfl) (by kernel_rfl) (by kernel_rfl) (fun _ _ _ _ _ h => h) hHeld ?_
            refine held_move 14 (Go.Operand.tmp 12) (some 155) (.pointer (some ⟨X, 0, none⟩)) (by kernel_rfl) (by kernel_rfl) (by kernel_rfl) (by kernel_rfl) (by kernel_rfl) (fun _ _ _ _ _ h => h) hHeld ?_
            refine held_nil 15 (Go.Operand.tmp 155) (some 156) ⟨X, 0, none⟩ (by kernel_rfl) (by kernel_rfl) (by kernel_rfl) (by kernel_rfl) (by kernel_rfl) (fun _ _ _ _ _ h => h) hHeld ?_
            refine held_field 16 35 (Go.Operand.tmp 156) 0 (some 157) (.pointer (some ⟨X, 0, none⟩)) (.pointer (some ⟨X, 0, none⟩)) (by kernel_rfl) (by kernel_rfl) (fun w => by kernel_rfl) (by kernel_rfl) (by kernel_rfl) (by kernel_rfl) (fun _ _ _ _ _ h => h) hHeld ?_
            refine held_cell 17 3 (Go.Operand.tmp 157) (some 158) (.pointer (some ⟨X, 0, none⟩)) (.int .i64 AV.ph) (by kernel_rfl) (by kernel_rfl) (fun Wq hW => load_i64 X 0 Wq _ ((cell_heap hW.2.2 rfl))) (by kernel_rfl) (by kernel_rfl) (by kernel_rfl) (fun _ _ _ _ _ h => h) hHeld ?_
            refine held_bin 18 Go.BinOp.neq 3 (Go.Operand.tmp 154) (Go.Operand.tmp 158) 3 (some 159) (.int .i64 AV.ph) (.int .i64 AV.ph) (.bool false) (by kernel_rfl) (by kernel_rfl) (fun w => neq_ii _ _ _ AV.ph w) (by kernel_rfl) (by kernel_rfl) (by kernel_rfl) (fun _ _ _ _ _ h => h) hHeld ?_
            refine held_pick 19 (Go.Operand.tmp 150) (Go.Operand.const (Go.Value.bool true)) (Go.Operand.tmp 159) (some 160) false (.bool false) (by kernel_rfl) (by kernel_rfl) (by kernel_rfl) (by kernel_rfl) (by kernel_rfl) (by kernel_rfl) (fun _ _ _ _ _ h => h) hHeld ?_
            refine held_move 20 (Go.Operand.tmp 160) (some 161) (.bool false) (by kernel_rfl) (by kernel_rfl) (by kernel_rfl) (by kernel_rfl) (by kernel_rfl) (fun _ _ _ _ _ h => h) hHeld ?_
            refine held_move 21 (Go.Operand.tmp 11) (some 162) (.pointer (some ⟨U, 0, none⟩)) (by kernel_rfl) (by kernel_rfl) (by kernel_rfl) (by kernel_rfl) (by kernel_rfl) (fun _ _ _ _ _ h => h) hHeld ?_
            refine held_nil 22 (Go.Operand.tmp 162) (some 163) ⟨U, 0, none⟩ (by kernel_rfl) (by kernel_rfl) (by kernel_rfl) (by kernel_rfl) (by kernel_rfl) (fun _ _ _ _ _ h => h) hHeld ?_
            refine held_field 23 31 (Go.Operand.tmp 163) 1 (some 164) (.pointer (some ⟨U, 0, none⟩)) (.pointer (some ⟨U, 1, none⟩)) (by kernel_rfl) (by kernel_rfl) (fun w => by kernel_rfl) (by kernel_rfl) (by kernel_rfl) (by kernel_rfl) (fun _ _ _ _ _ h => h) hHeld ?_
            refine held_cell 24 3 (Go.Operand.tmp 164) (some 165) (.pointer (some ⟨U, 1, none⟩)) (.int .i64 AV.at') (by kernel_rfl) (by kernel_rfl) (fun Wq hW => load_i64 U 1 Wq _ (hW.2.1.c1)) (by kernel_rfl) (by kernel_rfl) (by kernel_rfl) (fun _ _ _ _ _ h => h) hHeld ?_
            refine held_move 25 (Go.Operand.tmp 12) (some 166) (.pointer (some ⟨X, 0, none⟩)) (by kernel_rfl) (by kernel_rfl) (by kernel_rfl) (by kernel_rfl) (by kernel_rfl) (fun _ _ _ _ _ h => h) hHeld ?_
            refine held_nil 26 (Go.Operand.tmp 166) (some 167) ⟨X, 0, none⟩ (by kernel_rfl) (by kernel_rfl) (by kernel_rfl) (by kernel_rfl) (by kernel_rfl) (fun _ _ _ _ _ h => h) hHeld ?_
            refine held_field 27 35 (Go.Operand.tmp 167) 1 (some 168) (.pointer (some ⟨X, 0, none⟩)) (.pointer (some ⟨X, 1, none⟩)) (by kernel_rfl) (by kernel_rfl) (fun w => by kernel_rfl) (by kernel_rfl) (by kernel_rfl) (by kernel_rfl) (fun _ _ _ _ _ h => h) hHeld ?_
            refine held_cell 28 3 (Go.Operand.tmp 168) (some 169) (.pointer (some ⟨X, 1, none⟩)) (.int .i64 AV.at') (by kernel_rfl) (by kernel_rfl) (fun Wq hW => load_i64 X 1 Wq _ ((cell_heap hW.2.2 rfl))) (by kernel_rfl) (by kernel_rfl) (by kernel_rfl) (fun _ _ _ _ _ h => h) hHeld ?_
            refine held_bin 29 Go.BinOp.neq 3 (Go.Operand.tmp 165) (Go.Operand.tmp 169) 3 (some 170) (.int .i64 AV.at') (.int .i64 AV.at') (.bool false) (by kernel_rfl) (by kernel_rfl) (fun w => neq_ii _ _ _ AV.at' w) (by kernel_rfl) (by kernel_rfl) (by kernel_rfl) (fun _ _ _ _ _ h => h) hHeld ?_
            refine held_pick 30 (Go.Operand.tmp 161) (Go.Operand.const (Go.Value.bool true)) (Go.Operand.tmp 170) (some 171) false (.bool false) (by kernel_rfl) (by kernel_rfl) (by kernel_rfl) (by kernel_rfl) (by kernel_rfl) (by kernel_rfl) (fun _ _ _ _ _ h => h) hHeld ?_
            refine held_move 31 (Go.Operand.tmp 171) (some 172) (.bool false) (by kernel_rfl) (by kernel_rfl) (by kernel_rfl) (by kernel_rfl) (by kernel_rfl) (fun _ _ _ _ _ h => h) hHeld ?_
            refine held_move 32 (Go.Operand.tmp 11) (some 173) (.pointer (some ⟨U, 0, none⟩)) (by kernel_rfl) (by kernel_rfl) (by kernel_rfl) (by kernel_rfl) (by kernel_rfl) (fun _ _ _ _ _ h => h) hHeld ?_
            refine held_nil 33 (Go.Operand.tmp 173) (some 174) ⟨U, 0, none⟩ (by kernel_rfl) (by kernel_rfl) (by kernel_rfl) (by kernel_rfl) (by kernel_rfl) (fun _ _ _ _ _ h => h) hHeld ?_
            refine held_field 34 31 (Go.Operand.tmp 174) 2 (some 175) (.pointer (some ⟨U, 0, none⟩)) (.pointer (some ⟨U, 2, none⟩)) (by kernel_rfl) (by kernel_rfl) (fun w => by kernel_rfl) (by kernel_rfl) (by kernel_rfl) (by kernel_rfl) (fun _ _ _ _ _ h => h) hHeld ?_
            refine held_field 35 29 (Go.Operand.tmp 175) 0 (some 176) (.pointer (some ⟨U, 2, none⟩)) (.pointer (some ⟨U, 2, none⟩)) (by kernel_rfl) (by kernel_rfl) (fun w => by kernel_rfl) (by kernel_rfl) (by kernel_rfl) (by kernel_rfl) (fun _ _ _ _ _ h => h) hHeld ?_
            refine held_cell 36 3 (Go.Operand.tmp 176) (some 177) (.pointer (some ⟨U, 2, none⟩)) (.int .i64 AV.a) (by kernel_rfl) (by kernel_rfl) (fun Wq hW => load_i64 U 2 Wq _ (hW.2.1.c2)) (by kernel_rfl) (by kernel_rfl) (by kernel_rfl) (fun _ _ _ _ _ h => h) hHeld ?_
            refine held_move 37 (Go.Operand.tmp 12) (some 178) (.pointer (some ⟨X, 0, none⟩)) (by kernel_rfl) (by kernel_rfl) (by kernel_rfl) (by kernel_rfl) (by kernel_rfl) (fun _ _ _ _ _ h => h) hHeld ?_
            refine held_nil 38 (Go.Operand.tmp 178) (some 179) ⟨X, 0, none⟩ (by kernel_rfl) (by kernel_rfl) (by kernel_rfl) (by kernel_rfl) (by kernel_rfl) (fun _ _ _ _ _ h => h) hHeld ?_
            refine held_field 39 35 (Go.Operand.tmp 179) 2 (some 180) (.pointer (some ⟨X, 0, none⟩)) (.pointer (some ⟨X, 2, none⟩)) (by kernel_rfl) (by kernel_rfl) (fun w => by kernel_rfl) (by kernel_rfl) (by kernel_rfl) (by kernel_rfl) (fun _ _ _ _ _ h => h) hHeld ?_
            refine held_field 40 33 (Go.Operand.tmp 180) 0 (some 181) (.pointer (some ⟨X, 2, none⟩)) (.pointer (some ⟨X, 2, none⟩)) (by kernel_rfl) (by kernel_rfl) (fun w => by kernel_rfl) (by kernel_rfl) (by kernel_rfl) (by kernel_rfl) (fun _ _ _ _ _ h => h) hHeld ?_
            refine held_cell 41 3 (Go.Operand.tmp 181) (some 182) (.pointer (some ⟨X, 2, none⟩)) (.int .i64 AV.a) (by kernel_rfl) (by kernel_rfl) (fun Wq hW => load_i64 X 2 Wq _ ((cell_heap hW.2.2 rfl))) (by kernel_rfl) (by kernel_rfl) (by kernel_rfl) (fun _ _ _ _ _ h => h) hHeld ?_
            refine held_bin 42 Go.BinOp.neq 3 (Go.Operand.tmp 177) (Go.Operand.tmp 182) 3 (some 183) (.int .i64 AV.a) (.int .i64 AV.a) (.bool false) (by kernel_rfl) (by kernel_rfl) (fun w => neq_ii _ _ _ AV.a w) (by kernel_rfl) (by kernel_rfl) (by kernel_rfl) (fun _ _ _ _ _ h => h) hHeld ?_
            refine held_pick 43 (Go.Operand.tmp 172) (Go.Operand.const (Go.Value.bool true)) (Go.Operand.tmp 183) (some 184) false (.bool false) (by kernel_rfl) (by kernel_rfl) (by kernel_rfl) (by kernel_rfl) (by kernel_rfl) (by kernel_rfl) (fun _ _ _ _ _ h => h) hHeld ?_
            refine held_move 44 (Go.Operand.tmp 184) (some 185) (.bool false) (by kernel_rfl) (by kernel_rfl) (by kernel_rfl) (by kernel_rfl) (by kernel_rfl) (fun _ _ _ _ _ h => h) hHeld ?_
            refine held_move 45 (Go.Operand.tmp 11) (some 186) (.pointer (some ⟨U, 0, none⟩)) (by kernel_rfl) (by kernel_rfl) (by kernel_rfl) (by kernel_rfl) (by kernel_rfl) (fun _ _ _ _ _ h => h) hHeld ?_
            refine held_nil 46 (Go.Operand.tmp 186) (some 187) ⟨U, 0, none⟩ (by kernel_rfl) (by kernel_rfl) (by kernel_rfl) (by kernel_rfl) (by kernel_rfl) (fun _ _ _ _ _ h => h) hHeld ?_
            refine held_field 47 31 (Go.Operand.tmp 187) 2 (some 188) (.pointer (some ⟨U, 0, none⟩)) (.pointer (some ⟨U, 2, none⟩)) (by kernel_rfl) (by kernel_rfl) (fun w => by kernel_rfl) (by kernel_rfl) (by kernel_rfl) (by kernel_rfl) (fun _ _ _ _ _ h => h) hHeld ?_
            refine held_field 48 29 (Go.Operand.tmp 188) 1 (some 189) (.pointer (some ⟨U, 2, none⟩)) (.pointer (some ⟨U, 3, none⟩)) (by kernel_rfl) (by kernel_rfl) (fun w => by kernel_rfl) (by kernel_rfl) (by kernel_rfl) (by kernel_rfl) (fun _ _ _ _ _ h => h) hHeld ?_
            refine held_cell 49 3 (Go.Operand.tmp 189) (some 190) (.pointer (some ⟨U, 3, none⟩)) (.int .i64 AV.b) (by kernel_rfl) (by kernel_rfl) (fun Wq hW => load_i64 U 3 Wq _ (hW.2.1.c3)) (by kernel_rfl) (by kernel_rfl) (by kernel_rfl) (fun _ _ _ _ _ h => h) hHeld ?_
            refine held_move 50 (Go.Operand.tmp 12) (some 191) (.pointer (some ⟨X, 0, none⟩)) (by kernel_rfl) (by kernel_rfl) (by kernel_rfl) (by kernel_rfl) (by kernel_rfl) (fun _ _ _ _ _ h => h) hHeld ?_
            refine held_nil 51 (Go.Operand.tmp 191) (some 192) ⟨X, 0, none⟩ (by kernel_rfl) (by kernel_rfl) (by kernel_rfl) (by kernel_rfl) (by kernel_rfl) (fun _ _ _ _ _ h => h) hHeld ?_
            refine held_field 52 35 (Go.Operand.tmp 192) 2 (some 193) (.pointer (some ⟨X, 0, none⟩)) (.pointer (some ⟨X, 2, none⟩)) (by kernel_rfl) (by kernel_rfl) (fun w => by kernel_rfl) (by kernel_rfl) (by kernel_rfl) (by kernel_rfl) (fun _ _ _ _ _ h => h) hHeld ?_
            refine held_field 53 33 (Go.Operand.tmp 193) 1 (some 194) (.pointer (some ⟨X, 2, none⟩)) (.pointer (some ⟨X, 3, none⟩)) (by kernel_rfl) (by kernel_rfl) (fun w => by kernel_rfl) (by kernel_rfl) (by kernel_rfl) (by kernel_rfl) (fun _ _ _ _ _ h => h) hHeld ?_
            refine held_cell 54 3 (Go.Operand.tmp 194) (some 195) (.pointer (some ⟨X, 3, none⟩)) (.int .i64 AV.b) (by kernel_rfl) (by kernel_rfl) (fun Wq hW => load_i64 X 3 Wq _ ((cell_heap hW.2.2 rfl))) (by kernel_rfl) (by kernel_rfl) (by kernel_rfl) (fun _ _ _ _ _ h => h) hHeld ?_
            refine held_bin 55 Go.BinOp.neq 3 (Go.Operand.tmp 190) (Go.Operand.tmp 195) 3 (some 196) (.int .i64 AV.b) (.int .i64 AV.b) (.bool false) (by kernel_rfl) (by kernel_rfl) (fun w => neq_ii _ _ _ AV.b w) (by kernel_rfl) (by kernel_rfl) (by kernel_rfl) (fun _ _ _ _ _ h => h) hHeld ?_
            refine held_pick 56 (Go.Operand.tmp 185) (Go.Operand.const (Go.Value.bool true)) (Go.Operand.tmp 196) (some 197) false (.bool false) (by kernel_rfl) (by kernel_rfl) (by kernel_rfl) (by kernel_rfl) (by kernel_rfl) (by kernel_rfl) (fun _ _ _ _ _ h => h) hHeld ?_
            refine wpAnyH_done (by kernel_rfl) ?_ _
            refine NoPanic.normal ?_
            simp only [put_list, List.set_cons_zero, List.set_cons_succ]
            have hw1 : wrap64 ((i : Int) + 1) = (i : Int) + 1 := wrap_i HGI.out.1 HGI.out.2
            clear hHeld
            go_wp2_with fail
            refine ⟨?rel, ?measure⟩
            case rel => exact ⟨i + 1, AV.ph, AV.at', AV.a, AV.b, by have := HGI.out; omega, by go_num, HZ.out.1, HZ.out.2⟩
            case measure => rw [hw1]; exact meas_ltU i nl HGI.out.1
    · obtain rfl : i = nl := by omega
      have HB := Lib.hid hP.b
      clear hrg hP HS6
      go_wp2_with fail
      go_ret
      exact ⟨rfl, HB.out⟩
end Go.Proofs.YtffkjbbhbpaacaaDoor
