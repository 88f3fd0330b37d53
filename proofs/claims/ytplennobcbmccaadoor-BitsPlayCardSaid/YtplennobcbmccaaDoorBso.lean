import Derived.Test.YtplennobcbmccaaDoorBmo
import Derived.Test.YtplennobcbmccaaDoorFirst
namespace Go.Proofs.YtplennobcbmccaaDoor
open Go.RowKit

def SlVB (vs : List Value) (n : Nat) (v : Value) (w : World) : Prop := ∃ g, v = .slice (some ⟨g, 0, none⟩) n n ∧ SlRead w (some ⟨g, 0, none⟩) vs
theorem SlVB.mono {vs : List Value} {n : Nat} : ∀ y w1 w2, SlVB vs n y w1 → Cells w1 w2 → SlVB vs n y w2 := by
  rintro y w1 w2 ⟨g, h1, h3⟩ hb
  exact ⟨g, h1, h3.cells hb⟩
theorem quiet_below {P : Program} {f : FuncId} {args : Array Value} {w : World} {v : Value} (h : Quiets P f args w v) : Calls P f args w fun e w' => e = .returned v ∧ Below w.heap.size w w' :=
  h.mono fun _ _ ⟨h1, m, h2⟩ => ⟨h1, by rw [h2]; exact Below.drewNr m⟩
section
variable {P : Program} {ops : Array Oper} {l : List Sp} {a : Act} {w : World}
theorem owes_lenB (i : Nat) (dst : Option Tmp) (anc : List Nat) (r : Value) (x : Operand) (t ty : TypeId) (vx : Value) (hop : ∀ v, ops[i]?.map (fun o => (o.op, Region.wanted o (yielded ops (fr l anc a v).tmps))) = some (.call { callee := .builtin .len, args := #[x], argTypes := #[t] }, true)) (hty : ops[i]?.map (·.type) = some ty)
    (hx : ∀ v, (fr l anc a v).eval x = vx) (he : ∀ w, (Builtin.len_ #[t] ty #[vx]).run P w = .ok r w) : Owes P ops l a w (Sp.k i dst anc r) :=
  .mk_k fun v w' hb ho o hi => by
    have h := hop v
    rw [hi] at h hty
    simp only [Option.map_some, Option.some.injEq, Prod.mk.injEq] at h hty
    refine .value (v := r) (w' := w') h.2 ?_ ⟨Below.refl _ _, Cells.refl _, rfl⟩
    simp only [execOp, h.1, resolve, invoke, builtin, Sem.run_bind, Sem.run_pure, Result.andThen_ok, List.map_toArray, List.map_cons, List.map_nil, hx v, hty, he w']
theorem owes_nil (i : Nat) (dst : Option Tmp) (anc : List Nat) (x : Operand) (p : Addr) (hop : ∀ v, ops[i]?.map (fun o => (o.op, Region.wanted o (yielded ops (fr l anc a v).tmps))) = some (.nilCheck x, true))
    (hx : ∀ v, (fr l anc a v).eval x = .pointer (some p)) : Owes P ops l a w (Sp.k i dst anc (.pointer (some p))) :=
  owes_pure i dst anc _ _ hop fun v w' _ _ o ho => by unfold execOp; simp only [ho, hx v]; rfl
theorem owes_field (i : Nat) (dst : Option Tmp) (anc : List Nat) (r : Value) (t : TypeId) (x : Operand) (k : Nat) (vx : Value) (hop : ∀ v, ops[i]?.map (fun o => (o.op, Region.wanted o (yielded ops (fr l anc a v).tmps))) = some (.fieldAddr t x k, true))
    (hx : ∀ v, (fr l anc a v).eval x = vx) (he : ∀ w, (Instr.fieldAt t vx k).run P w = .ok r w) : Owes P ops l a w (Sp.k i dst anc r) :=
  owes_pure i dst anc r _ hop fun v w' _ _ o ho => by unfold execOp; simp only [ho, hx v, Sem.run_bind, he w']; rfl
end
theorem load_slB (b : Nat) (v : Value) (w : World) (h : w.cell? ⟨b, 0, none⟩ = some v) : (Instr.loadAt 30 (.pointer (some ⟨b, 0, none⟩))).run Tryd.prog w = .ok v w := by
  have h2 := Tryd.underlying30
  go_simp
theorem eqs_i64 (t : TypeId) (x y : Operand) (a : Int) (w : World) : (do eqGuard .eql t x y (.int .i64 a) (.int .i64 a); binOp .eql t (.int .i64 a) (.int .i64 a) : Sem Value).run Tryd.prog w = .ok (.bool true) w := by
  simp [eqGuard, binOp, Op.intCmp]
theorem SlRead.of_bytes {w : World} {g : Nat} {t : TypeId} {n : Nat} {f : Nat → BitVec 8} {bs : List (BitVec 8)} (h : w.rowIs g t n (fun q => v8 (f q))) (hl : bs.length = n) (hf : ∀ q, q < n → f q = bs.getD q 0#8) : SlRead w (some ⟨g, 0, none⟩) (ints .u8 (bys bs)) := by
  refine fun _ => ⟨g, 0, rfl, h.lt, fun j u hj => ?_⟩
  have hjl : j < bs.length := by
    have := (List.getElem?_eq_some_iff.1 hj).1
    simpa [ints, bys] using this
  rw [Nat.zero_add, h.cell (i := j) (by omega), hf j (by omega)]
  rw [← hj]
  simp [ints, bys, hjl]

set_option maxRecDepth 100000 in
set_option maxHeartbeats 3200000 in
theorem bof_walk (E : Nat → Addr) (zn : Int) (X : Option Addr) (bs : List (BitVec 8)) (cb : Nat) (w : World) (hX : SlRead w X (ints .u8 (bys bs))) (hE0 : ErrsAt E w) :
    Calls Tryd.prog 4 #[.int .i64 zn, .slice X bs.length cb] w fun e w' => e = .returned (.bool true) ∧ Below w.heap.size w w' := by
  obtain ⟨mn, hn1, hn2⟩ := exists_mod zn 60 (by omega)
  have HN := Lib.hid hn1; clear hn1
  go_enter Tryd.func4, Tryd.ntmps4
  go_wp2_with fail
  refine (first_any w).mono ?_
  rintro e W1 ⟨rfl, hb1⟩
  by_cases h150 : 150 < bs.length
  · have d1 : decide ((150 : Int) < (bs.length : Int)) = true := by simp; omega
    go_wp2_with fail
    go_ret
    exact ⟨rfl, hb1⟩
  have d1 : decide ((150 : Int) < (bs.length : Int)) = false := by simp; omega
  go_wp2_with fail
  refine (number_nat zn 60 mn W1 (by omega) HN.out).mono ?_
  rintro e W2 ⟨rfl, n2, rfl⟩
  replace hb1 := below_tr hb1 (Below.drewNr n2)
  generalize W1.drewN n2 = W1 at *
  go_upto_region 7 with (fail)
  obtain ⟨z, hz⟩ : ∃ z : Int, z = (mn : Int) - 3 := ⟨_, rfl⟩
  rw [← hz]
  clear hz
  go_wp2_with fail
  refine (of_any E z bs X cb W1 (hE0.below hb1) (hX.below hb1) (by omega)).mono ?_
  intro e W2 hof
  rcases hof with ⟨hlen, hno, b, a, rfl, hm, hb2, _, _⟩ | ⟨hno, rfl, hb2⟩
  · replace hb1 := below_tr hb1 hb2
    have HLEN := Lib.hid hlen
    clear hb2 hlen
    go_wp2_with fail
    refine (mapof_any z bs X cb W2 (hX.below hb1) (by omega)).mono ?_
    intro e W3 hmo
    rcases hmo with ⟨hq1, hq2, rb, ra, rfl, hr, hb3, _, _⟩ | ⟨hno2, _, _⟩
    · clear hq1 hq2
      replace hm := hm.below' hb3
      replace hb1 := below_tr hb1 hb3
      clear hb3
      have HMB : ∀ w', Below W3.heap.size W3 w' → Calls Tryd.prog 21 #[.pointer (some ⟨b, 0, none⟩)] w' fun e w'' => (∃ g, e = .returned (.slice (some ⟨g, 0, none⟩) bs.length bs.length) ∧ SlRead w'' (some ⟨g, 0, none⟩) (ints .u8 (bys bs))) ∧ Below w'.heap.size w' w'' := fun w' hb => by
        refine (mbytes_any b a _ w' (hm.below' hb)).mono ?_
        rintro e w'' ⟨g, rfl, hrow, _, hb2⟩
        simp only [readOf_length, ← HLEN.out] at hrow ⊢
        exact ⟨⟨g, rfl, SlRead.of_bytes hrow rfl fun q hq => bytes_read bs _ HLEN.out hno q hq⟩, hb2⟩
      have HSZ : ∀ w', Below W3.heap.size W3 w' → Calls Tryd.prog 10 #[.pointer (some ⟨b, 0, none⟩)] w' fun e w'' => e = .returned (.int .i64 (sizeN z : Nat)) ∧ Below w'.heap.size w' w'' := fun w' hb => by
        have h := quiet_below (size_any b a _ w' (hm.below' hb))
        rwa [readOf_length] at h
      have HR0 : ∀ w', Below W3.heap.size W3 w' → w'.cell? ⟨rb, 0, none⟩ = some (.slice (some ⟨ra, 0, none⟩) (sizeN z) (sizeN z)) := fun w' hb => by
        have h := (hr.below' hb).h0
        rwa [readOf_length] at h
      have HSB : ∀ w', Below W3.heap.size W3 w' → ∀ g, SlRead w' (some ⟨g, 0, none⟩) (ints .u8 (bys bs)) → Calls Tryd.prog 23 #[.slice (some ⟨g, 0, none⟩) bs.length bs.length, .slice X bs.length cb] w' fun e w'' => e = .returned (.bool true) ∧ Below w'.heap.size w' w'' := fun w' hb g hg => by
        have h := quiet_below (sameBytes_any (some ⟨g, 0, none⟩) X (bys bs) (bys bs) bs.length cb w' hg (hX.below (below_tr hb1 hb)) (by simp [bys]; omega) (by simp [bys]; omega))
        simpa [bys] using h
      clear hm hr HLEN hno
      generalize sizeN z = N at *
      go_upto_region 9 with (fail)
      refine wp_region_text [Sp.k 0 (some 32) [] (.nilIface),
        Sp.k 1 (some 33) [0] (.bool true),
        Sp.k 2 (some 34) [] (.bool true),
        Sp.k 3 (some 35) [1, 2] (.bool false),
        Sp.k 4 (some 36) [3] (.bool false),
        Sp.k 5 (some 37) [4] (.bool true),
        Sp.k 6 (some 38) [4, 5] (.bool false),
        Sp.k 7 (some 39) [4, 6] (.bool false),
        Sp.k 8 (some 40) [7] (undef),
        Sp.k 9 (some 41) [7, 8] (undef),
        Sp.k 10 (some 42) [7, 9] (undef),
        Sp.k 11 (some 43) [7, 10] (undef),
        Sp.k 12 (some 44) [11] (undef),
        Sp.k 13 (some 45) [11, 12] (undef),
        Sp.k 14 (some 46) [7, 11, 13] (undef),
        Sp.k 15 (some 47) [4, 7, 14] (Go.Value.bool false),
        Sp.k 16 (some 48) [4, 15] (Go.Value.bool false)] (by kernel_rfl)
        ⟨owes_move 0 (some 32) [] (.nilIface) (Go.Operand.tmp 7) (fun v => by kernel_rfl) (fun v => by kernel_rfl),
        owes_bin 1 (some 33) [0] (.bool true) Go.BinOp.eql 38 (Go.Operand.tmp 32) (Go.Operand.const Go.Value.nilIface) 38 (.nilIface) (Go.Value.nilIface) (fun v => by kernel_rfl) (fun v => by kernel_rfl) (fun w => by kernel_rfl),
        owes_move 2 (some 34) [] (.bool true) (Go.Operand.tmp 9) (fun v => by kernel_rfl) (fun v => by kernel_rfl),
        owes_bin 3 (some 35) [1, 2] (.bool false) Go.BinOp.neq 4 (Go.Operand.tmp 33) (Go.Operand.tmp 34) 4 (.bool true) (.bool true) (fun v => by kernel_rfl) (fun v => by kernel_rfl) (fun w => by kernel_rfl),
        owes_move 4 (some 36) [3] (.bool false) (Go.Operand.tmp 35) (fun v => by kernel_rfl) (fun v => by kernel_rfl),
        owes_move 5 (some 37) [4] (.bool true) (Go.Operand.tmp 9) (fun v => by kernel_rfl) (fun v => by kernel_rfl),
        owes_un 6 (some 38) [4, 5] (.bool false) Go.UnOp.not 4 (Go.Operand.tmp 37) (.bool true) (fun v => by kernel_rfl) (fun v => by kernel_rfl) (fun w => by kernel_rfl),
        owes_move 7 (some 39) [4, 6] (.bool false) (Go.Operand.tmp 38) (fun v => by kernel_rfl) (fun v => by kernel_rfl),
        owes_skip 8 (some 40) [7] (fun v => by kernel_rfl),
        owes_skip 9 (some 41) [7, 8] (fun v => by kernel_rfl),
        owes_skip 10 (some 42) [7, 9] (fun v => by kernel_rfl),
        owes_skip 11 (some 43) [7, 10] (fun v => by kernel_rfl),
        owes_skip 12 (some 44) [11] (fun v => by kernel_rfl),
        owes_skip 13 (some 45) [11, 12] (fun v => by kernel_rfl),
        owes_skip 14 (some 46) [7, 11, 13] (fun v => by kernel_rfl),
        owes_pick 15 (some 47) [4, 7, 14] (Go.Value.bool false) (Go.Operand.tmp 39) (Go.Operand.tmp 46) (Go.Operand.const (Go.Value.bool false)) false (fun v => by kernel_rfl) (fun v => by kernel_rfl) (fun v => by kernel_rfl),
        owes_pick 16 (some 48) [4, 15] (Go.Value.bool false) (Go.Operand.tmp 36) (Go.Operand.const (Go.Value.bool true)) (Go.Operand.tmp 47) false (fun v => by kernel_rfl) (fun v => by kernel_rfl) (fun v => by kernel_rfl), trivial⟩ ?_
      intro v W4 hb' hall
      clear hall
      replace hb1 := below_tr hb1 hb'
      replace HMB := fun w' hb => HMB w' (below_tr hb' hb)
      replace HSZ := fun w' hb => HSZ w' (below_tr hb' hb)
      replace HR0 := fun w' hb => HR0 w' (below_tr hb' hb)
      replace HSB := fun w' hb => HSB w' (below_tr hb' hb)
      clear hb'
      simp only [putsL_k, putsL_nil, List.set_cons_zero, List.set_cons_succ]
      go_upto_region 11 with (fail)
      refine wp_region_spec [Sp.k 0 (some 49) [] (.bool true),
        Sp.k 1 (some 50) [0] (.bool true),
        Sp.k 2 (some 51) [1] (.bool true),
        Sp.k 3 (some 52) [1, 2] (.bool false),
        Sp.k 4 (some 53) [1, 3] (.bool false),
        Sp.k 5 (some 54) [4] (.pointer (some ⟨b, 0, none⟩)),
        Sp.k 6 (some 55) [4, 5] (.bool true),
        Sp.k 7 (some 56) [4, 6] (.bool true),
        Sp.k 8 (some 57) [7] (.pointer (some ⟨b, 0, none⟩)),
        Sp.k 9 (some 58) [7, 8] (.int .i64 N),
        Sp.k 10 (some 59) [7] (.pointer (some ⟨rb, 0, none⟩)),
        Sp.k 11 (some 60) [7, 10] (.pointer (some ⟨rb, 0, none⟩)),
        Sp.k 12 (some 61) [7, 11] (.pointer (some ⟨rb, 0, none⟩)),
        Sp.k 13 (some 62) [7, 12] (.slice (some ⟨ra, 0, none⟩) N N),
        Sp.k 14 (some 63) [7, 13] (.int .i64 N),
        Sp.k 15 (some 64) [7, 9, 14] (.bool true),
        Sp.k 16 (some 65) [4, 7, 15] (.bool true),
        Sp.k 17 (some 66) [4, 16] (.bool true),
        Sp.k 18 (some 67) [17] (.pointer (some ⟨b, 0, none⟩)),
        Sp.o 19 (some 68) [17, 18] (SlVB (ints .u8 (bys bs)) bs.length),
        Sp.k 20 (some 69) [17] (.slice X bs.length cb),
        Sp.k 21 (some 70) [17, 19, 20] (.bool true),
        Sp.k 22 (some 71) [4, 17, 21] (.bool true),
        Sp.k 23 (some 72) [1, 4, 22] (.bool true),
        Sp.k 24 (some 73) [1, 23] (.bool true),
        Sp.k 25 (some 4) [24] (.bool true)] (by kernel_rfl) (by kernel_rfl)
        ⟨owes_move 0 (some 49) [] (.bool true) (Go.Operand.tmp 5) (fun v => by kernel_rfl) (fun v => by kernel_rfl),
        owes_move 1 (some 50) [0] (.bool true) (Go.Operand.tmp 49) (fun v => by kernel_rfl) (fun v => by kernel_rfl),
        owes_move 2 (some 51) [1] (.bool true) (Go.Operand.tmp 9) (fun v => by kernel_rfl) (fun v => by kernel_rfl),
        owes_un 3 (some 52) [1, 2] (.bool false) Go.UnOp.not 4 (Go.Operand.tmp 51) (.bool true) (fun v => by kernel_rfl) (fun v => by kernel_rfl) (fun w => by kernel_rfl),
        owes_move 4 (some 53) [1, 3] (.bool false) (Go.Operand.tmp 52) (fun v => by kernel_rfl) (fun v => by kernel_rfl),
        owes_move 5 (some 54) [4] (.pointer (some ⟨b, 0, none⟩)) (Go.Operand.tmp 6) (fun v => by kernel_rfl) (fun v => by kernel_rfl),
        owes_bin 6 (some 55) [4, 5] (.bool true) Go.BinOp.neq 25 (Go.Operand.tmp 54) (Go.Operand.const (Go.Value.pointer none)) 25 (.pointer (some ⟨b, 0, none⟩)) (Go.Value.pointer none) (fun v => by kernel_rfl) (fun v => by kernel_rfl) (fun w => by kernel_rfl),
        owes_move 7 (some 56) [4, 6] (.bool true) (Go.Operand.tmp 55) (fun v => by kernel_rfl) (fun v => by kernel_rfl),
        owes_move 8 (some 57) [7] (.pointer (some ⟨b, 0, none⟩)) (Go.Operand.tmp 6) (fun v => by kernel_rfl) (fun v => by kernel_rfl),
        owes_call 9 (some 58) [7, 8] (.int .i64 N) 10 #[Go.Operand.tmp 57] #[25] (fun v => by kernel_rfl) (fun _ _ => by kernel_rfl) (fun v w' hb ho => by
            exact ⟨#[.pointer (some ⟨b, 0, none⟩)], by kernel_rfl, (HSZ w' (drB hb)).mono (fun _ _ h => h)⟩),
        owes_move 10 (some 59) [7] (.pointer (some ⟨rb, 0, none⟩)) (Go.Operand.tmp 8) (fun v => by kernel_rfl) (fun v => by kernel_rfl),
        owes_nil 11 (some 60) [7, 10] (Go.Operand.tmp 59) _ (fun v => by kernel_rfl) (fun v => by kernel_rfl),
        owes_field 12 (some 61) [7, 11] (.pointer (some ⟨rb, 0, none⟩)) 32 (Go.Operand.tmp 60) 0 (.pointer (some ⟨rb, 0, none⟩)) (fun v => by kernel_rfl) (fun v => by kernel_rfl) (fun w => by kernel_rfl),
        owes_load 13 (some 62) [7, 12] (.slice (some ⟨ra, 0, none⟩) N N) 30 (Go.Operand.tmp 61) (.pointer (some ⟨rb, 0, none⟩)) (fun v => by kernel_rfl) (fun v => by kernel_rfl) (fun w' hb => load_slB _ _ w' (HR0 w' (drB hb))),
        owes_lenB 14 (some 63) [7, 13] (.int .i64 N) (.tmp 62) 30 3 (.slice (some ⟨ra, 0, none⟩) N N) (fun v => by kernel_rfl) (by kernel_rfl) (fun v => by kernel_rfl) (fun w => by kernel_rfl),
        owes_bin 15 (some 64) [7, 9, 14] (.bool true) Go.BinOp.eql 3 (Go.Operand.tmp 58) (Go.Operand.tmp 63) 3 (.int .i64 N) (.int .i64 N) (fun v => by kernel_rfl) (fun v => by kernel_rfl) (fun w => eqs_i64 _ _ _ _ w),
        owes_pick 16 (some 65) [4, 7, 15] (.bool true) (Go.Operand.tmp 56) (Go.Operand.tmp 64) (Go.Operand.const (Go.Value.bool false)) true (fun v => by kernel_rfl) (fun v => by kernel_rfl) (fun v => by kernel_rfl),
        owes_move 17 (some 66) [4, 16] (.bool true) (Go.Operand.tmp 65) (fun v => by kernel_rfl) (fun v => by kernel_rfl),
        owes_move 18 (some 67) [17] (.pointer (some ⟨b, 0, none⟩)) (Go.Operand.tmp 6) (fun v => by kernel_rfl) (fun v => by kernel_rfl),
        owes_call_o 19 (some 68) [17, 18] (SlVB (ints .u8 (bys bs)) bs.length) 21 #[Go.Operand.tmp 67] #[25] (fun v => by kernel_rfl) (fun _ _ => by kernel_rfl) SlVB.mono (fun v w' hb ho => by
            exact ⟨#[.pointer (some ⟨b, 0, none⟩)], by kernel_rfl, (HMB w' (drB hb)).mono (fun e w1 ⟨⟨g, h1, h2⟩, h3⟩ => ⟨_, h1, h3, g, rfl, h2⟩)⟩),
        owes_move 20 (some 69) [17] (.slice X bs.length cb) (Go.Operand.tmp 1) (fun v => by kernel_rfl) (fun v => by kernel_rfl),
        owes_call 21 (some 70) [17, 19, 20] (.bool true) 23 #[Go.Operand.tmp 68, Go.Operand.tmp 69] #[35, 35] (fun v => by kernel_rfl) (fun _ _ => by kernel_rfl) (fun v w' hb ho => by
            obtain ⟨g19, e19, r19⟩ := ho.get 19 _ _ (SlVB (ints .u8 (bys bs)) bs.length) rfl rfl
            exact ⟨#[.slice (some ⟨g19, 0, none⟩) bs.length bs.length, .slice X bs.length cb], Eq.trans (b := #[v 19, .slice X bs.length cb]) (by kernel_rfl) (by rw [e19]), (HSB w' (drB hb) _ r19).mono (fun _ _ h => h)⟩),
        owes_pick 22 (some 71) [4, 17, 21] (.bool true) (Go.Operand.tmp 66) (Go.Operand.tmp 70) (Go.Operand.const (Go.Value.bool false)) true (fun v => by kernel_rfl) (fun v => by kernel_rfl) (fun v => by kernel_rfl),
        owes_pick 23 (some 72) [1, 4, 22] (.bool true) (Go.Operand.tmp 53) (Go.Operand.const (Go.Value.bool true)) (Go.Operand.tmp 71) false (fun v => by kernel_rfl) (fun v => by kernel_rfl) (fun v => by kernel_rfl),
        owes_pick 24 (some 73) [1, 23] (.bool true) (Go.Operand.tmp 50) (Go.Operand.tmp 72) (Go.Operand.const (Go.Value.bool false)) true (fun v => by kernel_rfl) (fun v => by kernel_rfl) (fun v => by kernel_rfl),
        owes_assign 25 (some 4) [24] (.bool true) (Go.Operand.tmp 73) (fun v => by kernel_rfl) (fun v => by kernel_rfl), trivial⟩ ?_
      intro v w' hb' hall
      clear hall
      have hbb := below_tr hb1 (drB hb')
      clear hb' HMB HSZ HR0 HSB
      simp only [putsL_k, putsL_o, putsL_nil, List.set_cons_zero, List.set_cons_succ]
      go_wp2_with fail
      go_ret
      exact ⟨rfl, hbb⟩
    · exact absurd ⟨HLEN.out, hno⟩ hno2
  · replace hb1 := below_tr hb1 hb2
    clear hb2
    go_wp2_with fail
    refine (mapof_any z bs X cb W2 (hX.below hb1) (by omega)).mono ?_
    intro e W3 hmo
    rcases hmo with ⟨h1, h2, _⟩ | ⟨_, rfl, hb3⟩
    · exact absurd ⟨h1, h2⟩ hno
    · replace hb1 := below_tr hb1 hb3
      have hE := hE0.below hb1
      clear hb3 hno
      go_upto_region 9 with (fail)
      refine wp_region_text [Sp.k 0 (some 32) [] (errV (E 4)),
        Sp.k 1 (some 33) [0] (.bool false),
        Sp.k 2 (some 34) [] (.bool false),
        Sp.k 3 (some 35) [1, 2] (.bool false),
        Sp.k 4 (some 36) [3] (.bool false),
        Sp.k 5 (some 37) [4] (.bool false),
        Sp.k 6 (some 38) [4, 5] (.bool true),
        Sp.k 7 (some 39) [4, 6] (.bool true),
        Sp.k 8 (some 40) [7] (errV (E 4)),
        Sp.k 9 (some 41) [7, 8] (.bool true),
        Sp.k 10 (some 42) [7, 9] (.bool false),
        Sp.k 11 (some 43) [7, 10] (.bool false),
        Sp.k 12 (some 44) [11] (.pointer none),
        Sp.k 13 (some 45) [11, 12] (.bool false),
        Sp.k 14 (some 46) [7, 11, 13] (.bool false),
        Sp.k 15 (some 47) [4, 7, 14] (.bool false),
        Sp.k 16 (some 48) [4, 15] (.bool false)] (by kernel_rfl)
        ⟨owes_move 0 (some 32) [] (errV (E 4)) (Go.Operand.tmp 7) (fun v => by kernel_rfl) (fun v => by kernel_rfl),
        owes_bin 1 (some 33) [0] (.bool false) Go.BinOp.eql 38 (Go.Operand.tmp 32) (Go.Operand.const Go.Value.nilIface) 38 (errV (E 4)) (Go.Value.nilIface) (fun v => by kernel_rfl) (fun v => by kernel_rfl) (fun w => by kernel_rfl),
        owes_move 2 (some 34) [] (.bool false) (Go.Operand.tmp 9) (fun v => by kernel_rfl) (fun v => by kernel_rfl),
        owes_bin 3 (some 35) [1, 2] (.bool false) Go.BinOp.neq 4 (Go.Operand.tmp 33) (Go.Operand.tmp 34) 4 (.bool false) (.bool false) (fun v => by kernel_rfl) (fun v => by kernel_rfl) (fun w => by kernel_rfl),
        owes_move 4 (some 36) [3] (.bool false) (Go.Operand.tmp 35) (fun v => by kernel_rfl) (fun v => by kernel_rfl),
        owes_move 5 (some 37) [4] (.bool false) (Go.Operand.tmp 9) (fun v => by kernel_rfl) (fun v => by kernel_rfl),
        owes_un 6 (some 38) [4, 5] (.bool true) Go.UnOp.not 4 (Go.Operand.tmp 37) (.bool false) (fun v => by kernel_rfl) (fun v => by kernel_rfl) (fun w => by kernel_rfl),
        owes_move 7 (some 39) [4, 6] (.bool true) (Go.Operand.tmp 38) (fun v => by kernel_rfl) (fun v => by kernel_rfl),
        owes_move 8 (some 40) [7] (errV (E 4)) (Go.Operand.tmp 7) (fun v => by kernel_rfl) (fun v => by kernel_rfl),
        owes_call 9 (some 41) [7, 8] (.bool true) 26 #[Go.Operand.tmp 40, Go.Operand.const (Go.Value.int Go.IntKind.i64 105)] #[38, 3] (fun v => by kernel_rfl) (fun _ _ => by kernel_rfl) (fun v w' hb ho => by
            exact ⟨#[errV (E 4), Go.Value.int Go.IntKind.i64 105], by kernel_rfl, (is_any E (errV (E 4)) 105 105 (.inr ⟨4, by decide, rfl, rfl⟩) w' (hE.below hb)).mono (fun _ _ h => h)⟩),
        owes_un 10 (some 42) [7, 9] (.bool false) Go.UnOp.not 4 (Go.Operand.tmp 41) (.bool true) (fun v => by kernel_rfl) (fun v => by kernel_rfl) (fun w => by kernel_rfl),
        owes_move 11 (some 43) [7, 10] (.bool false) (Go.Operand.tmp 42) (fun v => by kernel_rfl) (fun v => by kernel_rfl),
        owes_move 12 (some 44) [11] (.pointer none) (Go.Operand.tmp 6) (fun v => by kernel_rfl) (fun v => by kernel_rfl),
        owes_bin 13 (some 45) [11, 12] (.bool false) Go.BinOp.neq 25 (Go.Operand.tmp 44) (Go.Operand.const (Go.Value.pointer none)) 25 (.pointer none) (Go.Value.pointer none) (fun v => by kernel_rfl) (fun v => by kernel_rfl) (fun w => by kernel_rfl),
        owes_pick 14 (some 46) [7, 11, 13] (.bool false) (Go.Operand.tmp 43) (Go.Operand.const (Go.Value.bool true)) (Go.Operand.tmp 45) false (fun v => by kernel_rfl) (fun v => by kernel_rfl) (fun v => by kernel_rfl),
        owes_pick 15 (some 47) [4, 7, 14] (.bool false) (Go.Operand.tmp 39) (Go.Operand.tmp 46) (Go.Operand.const (Go.Value.bool false)) true (fun v => by kernel_rfl) (fun v => by kernel_rfl) (fun v => by kernel_rfl),
        owes_pick 16 (some 48) [4, 15] (.bool false) (Go.Operand.tmp 36) (Go.Operand.const (Go.Value.bool true)) (Go.Operand.tmp 47) false (fun v => by kernel_rfl) (fun v => by kernel_rfl) (fun v => by kernel_rfl), trivial⟩ ?_
      intro v W4 hb' hall
      clear hall hE
      replace hb1 := below_tr hb1 hb'
      clear hb'
      simp only [putsL_k, putsL_nil, List.set_cons_zero, List.set_cons_succ]
      go_upto_region 11 with (fail)
      refine wp_region_spec [Sp.k 0 (some 49) [] (.bool true),
        Sp.k 1 (some 50) [0] (.bool true),
        Sp.k 2 (some 51) [1] (.bool false),
        Sp.k 3 (some 52) [1, 2] (.bool true),
        Sp.k 4 (some 53) [1, 3] (.bool true),
        Sp.k 5 (some 54) [4] (undef),
        Sp.k 6 (some 55) [4, 5] (undef),
        Sp.k 7 (some 56) [4, 6] (undef),
        Sp.k 8 (some 57) [7] (undef),
        Sp.k 9 (some 58) [7, 8] (undef),
        Sp.k 10 (some 59) [7] (undef),
        Sp.k 11 (some 60) [7, 10] (undef),
        Sp.k 12 (some 61) [7, 11] (undef),
        Sp.k 13 (some 62) [7, 12] (undef),
        Sp.k 14 (some 63) [7, 13] (undef),
        Sp.k 15 (some 64) [7, 9, 14] (undef),
        Sp.k 16 (some 65) [4, 7, 15] (undef),
        Sp.k 17 (some 66) [4, 16] (undef),
        Sp.k 18 (some 67) [17] (undef),
        Sp.k 19 (some 68) [17, 18] (undef),
        Sp.k 20 (some 69) [17] (undef),
        Sp.k 21 (some 70) [17, 19, 20] (undef),
        Sp.k 22 (some 71) [4, 17, 21] (undef),
        Sp.k 23 (some 72) [1, 4, 22] (Go.Value.bool true),
        Sp.k 24 (some 73) [1, 23] (Go.Value.bool true),
        Sp.k 25 (some 4) [24] (Go.Value.bool true)] (by kernel_rfl) (by kernel_rfl)
        ⟨owes_move 0 (some 49) [] (.bool true) (Go.Operand.tmp 5) (fun v => by kernel_rfl) (fun v => by kernel_rfl),
        owes_move 1 (some 50) [0] (.bool true) (Go.Operand.tmp 49) (fun v => by kernel_rfl) (fun v => by kernel_rfl),
        owes_move 2 (some 51) [1] (.bool false) (Go.Operand.tmp 9) (fun v => by kernel_rfl) (fun v => by kernel_rfl),
        owes_un 3 (some 52) [1, 2] (.bool true) Go.UnOp.not 4 (Go.Operand.tmp 51) (.bool false) (fun v => by kernel_rfl) (fun v => by kernel_rfl) (fun w => by kernel_rfl),
        owes_move 4 (some 53) [1, 3] (.bool true) (Go.Operand.tmp 52) (fun v => by kernel_rfl) (fun v => by kernel_rfl),
        owes_skip 5 (some 54) [4] (fun v => by kernel_rfl),
        owes_skip 6 (some 55) [4, 5] (fun v => by kernel_rfl),
        owes_skip 7 (some 56) [4, 6] (fun v => by kernel_rfl),
        owes_skip 8 (some 57) [7] (fun v => by kernel_rfl),
        owes_skip 9 (some 58) [7, 8] (fun v => by kernel_rfl),
        owes_skip 10 (some 59) [7] (fun v => by kernel_rfl),
        owes_skip 11 (some 60) [7, 10] (fun v => by kernel_rfl),
        owes_skip 12 (some 61) [7, 11] (fun v => by kernel_rfl),
        owes_skip 13 (some 62) [7, 12] (fun v => by kernel_rfl),
        owes_skip 14 (some 63) [7, 13] (fun v => by kernel_rfl),
        owes_skip 15 (some 64) [7, 9, 14] (fun v => by kernel_rfl),
        owes_skip 16 (some 65) [4, 7, 15] (fun v => by kernel_rfl),
        owes_skip 17 (some 66) [4, 16] (fun v => by kernel_rfl),
        owes_skip 18 (some 67) [17] (fun v => by kernel_rfl),
        owes_skip 19 (some 68) [17, 18] (fun v => by kernel_rfl),
        owes_skip 20 (some 69) [17] (fun v => by kernel_rfl),
        owes_skip 21 (some 70) [17, 19, 20] (fun v => by kernel_rfl),
        owes_skip 22 (some 71) [4, 17, 21] (fun v => by kernel_rfl),
        owes_pick 23 (some 72) [1, 4, 22] (Go.Value.bool true) (Go.Operand.tmp 53) (Go.Operand.const (Go.Value.bool true)) (Go.Operand.tmp 71) true (fun v => by kernel_rfl) (fun v => by kernel_rfl) (fun v => by kernel_rfl),
        owes_pick 24 (some 73) [1, 23] (Go.Value.bool true) (Go.Operand.tmp 50) (Go.Operand.tmp 72) (Go.Operand.const (Go.Value.bool false)) true (fun v => by kernel_rfl) (fun v => by kernel_rfl) (fun v => by kernel_rfl),
        owes_assign 25 (some 4) [24] (Go.Value.bool true) (Go.Operand.tmp 73) (fun v => by kernel_rfl) (fun v => by kernel_rfl), trivial⟩ ?_
      intro v w' hb' hall
      clear hall
      have hbb := below_tr hb1 (drB hb')
      clear hb'
      simp only [putsL_k, putsL_nil, List.set_cons_zero, List.set_cons_succ]
      go_wp2_with fail
      go_ret
      exact ⟨rfl, hbb⟩
end Go.Proofs.YtplennobcbmccaaDoor
