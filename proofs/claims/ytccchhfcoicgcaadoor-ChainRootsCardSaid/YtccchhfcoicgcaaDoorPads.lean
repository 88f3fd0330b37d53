import Derived.Test.YtccchhfcoicgcaaDoorMeq
import Derived.Lib.SliceRun
import Derived.Laws.CopyOwn
namespace Go.Proofs.YtccchhfcoicgcaaDoor
open Go.RowKit

/-- an array's bytes as a list -/
def lst (n : Nat) (f : Nat → BitVec 8) : List (BitVec 8) := (List.range n).map f
@[simp] theorem lst_length (n : Nat) (f : Nat → BitVec 8) : (lst n f).length = n := by simp [lst]
theorem lst_get (n : Nat) (f : Nat → BitVec 8) (i : Nat) (h : i < n) : (lst n f)[i]? = some (f i) := by simp [lst, h]
theorem slread_row {w : World} {g : Nat} {t : TypeId} {n : Nat} {f : Nat → BitVec 8} (h : w.rowIs g t n (fun i => v8 (f i))) : SlRead w (some ⟨g, 0, none⟩) (ints .u8 (bys (lst n f))) := by
  intro _
  refine ⟨g, 0, rfl, h.lt, fun j u hj => ?_⟩
  rw [bys_ints] at hj
  have hjn : j < n := by
    have := (List.getElem?_eq_some_iff.1 hj).1
    simpa using this
  rw [Nat.zero_add, h.cell hjn, ← hj]
  simp [lst, hjn]

section
variable {P : Program} {t e : TypeId}
theorem sliceAt_all (n : Nat) (hu : P.underlying t = some (.array n e)) (hs : (P.info? e).map (·.size) = some 1) (b : Nat) (hn : 0 < n) (w : World) :
    (Instr.sliceAt t (.pointer (some ⟨b, 0, none⟩)) none none none).run P w = .ok (.slice (some ⟨b, 0, none⟩) n n) w := sliceAt_arr n hu hs b hn w
end

/-- the key as it is used: its digest where it is longer than a block -/
def keyOf (key : List (BitVec 8)) : List (BitVec 8) := if 64 < key.length then lst 32 (shaOf key) else key
theorem keyOf_len (key : List (BitVec 8)) : (keyOf key).length ≤ 64 := by
  unfold keyOf
  split
  · simp
  · omega
/-- both pads -/
def inP (key : List (BitVec 8)) (i : Nat) : BitVec 8 := (keyOf key).getD i 0#8 ^^^ 54#8
def outP (key : List (BitVec 8)) (i : Nat) : BitVec 8 := (keyOf key).getD i 0#8 ^^^ 92#8
def padTo (k : List (BitVec 8)) (x : BitVec 8) (m : Nat) (i : Nat) : BitVec 8 := if i < m then k.getD i 0#8 ^^^ x else k.getD i 0#8
theorem padTo_step (k : List (BitVec 8)) (x : BitVec 8) (m : Nat) (j : Nat) : (if j = m then v8 (k.getD m 0#8 ^^^ x) else v8 (padTo k x m j)) = v8 (padTo k x (m + 1) j) := by
  unfold padTo
  by_cases e : j = m
  · subst e; simp
  · rw [if_neg e]
    by_cases h : j < m
    · rw [if_pos h, if_pos (by omega)]
    · rw [if_neg h, if_neg (by omega)]

theorem rowIs_setCells {g : Nat} {t : TypeId} {n : Nat} : ∀ (xs : List (BitVec 8)) {w : World} {f : Nat → BitVec 8} (o : Nat), w.rowIs g t n (fun i => v8 (f i)) → (w.setCells g o (xs.map fun y => v8 y)).rowIs g t n (fun i => v8 (if o ≤ i ∧ i < o + xs.length then xs.getD (i - o) 0#8 else f i))
  | [], w, f, o, h => h.congr fun i _ => by rw [if_neg (by simp)]
  | x :: r, w, f, o, h => by
    have h1 : (w.setCell ⟨g, o, none⟩ (v8 x)).rowIs g t n (fun i => v8 (if i = o then x else f i)) := (h.set o (v8 x)).congr fun i _ => by split <;> rfl
    refine (rowIs_setCells r (o + 1) h1).congr fun i _ => ?_
    by_cases e : i = o
    · subst e
      have e1 : ¬ (i + 1 ≤ i ∧ i < i + 1 + r.length) := by omega
      have e2 : i ≤ i ∧ i < i + (x :: r).length := by simp
      rw [if_neg e1, if_pos rfl, if_pos e2]
      simp
    · by_cases e2 : o + 1 ≤ i ∧ i < o + 1 + r.length
      · have e3 : o ≤ i ∧ i < o + (x :: r).length := by simp; omega
        rw [if_pos e2, if_pos e3, show i - o = (i - (o + 1)) + 1 by omega]
        simp
      · have e3 : ¬ (o ≤ i ∧ i < o + (x :: r).length) := by simp; omega
        rw [if_neg e2, if_neg e3, if_neg e]
theorem wpList_copy_row {P : Program} {w : World} {ops : Array Oper} {rest : List Oper} {o : Oper} {a : Act} {Q : Exit → Act → World → Prop} (hgd : o.guard = none) (d s : Operand) (dT sT : TypeId)
    (ho : o.op = .call { callee := .builtin .copy, args := #[d, s], argTypes := #[dT, sT] }) (elem : TypeId) (hu : P.underlying dT = some (.slice elem)) (hsz : (P.info? elem).map (·.size) = some 1)
    (g n : Nat) (sp : Option Addr) (sLen sCap : Nat) (hd : a.eval d = .slice (some ⟨g, 0, none⟩) n n) (hs : a.eval s = .slice sp sLen sCap) (t : TypeId) (f : Nat → BitVec 8) (hr : w.rowIs g t n (fun i => v8 (f i)))
    (K : List (BitVec 8)) (hKl : K.length = sLen) (hn : sLen ≤ n) (hS : SlRead w sp (ints .u8 (bys K)))
    (h : ∀ W', W'.rowIs g t n (fun i => v8 (if i < K.length then K.getD i 0#8 else f i)) → Only g w W' → wpList P ops Q rest (a.put o.dst (goInt K.length)) W') : wpList P ops Q (o :: rest) a w := by
  by_cases h0 : K.length = 0
  · refine wpList_copy_nothing hgd d s dT sT ho elem hu hsz (some ⟨g, 0, none⟩) sp n n sLen sCap hd hs (by rw [← hKl, h0]; exact Nat.zero_min _) ?_
    have := h w (hr.congr fun i _ => by rw [if_neg (by omega)]) (Only.refl _ _)
    rwa [h0] at this
  · obtain ⟨b, o', rfl, _, hc⟩ := hS (by simp; omega)
    have hl : (K.map fun y => v8 y).length = K.length := by simp
    have h2 := h (w.setCells g 0 (K.map fun y => v8 y)) ((rowIs_setCells K 0 hr).congr fun i _ => by simp) (Only.setCells _ _ (Only.refl _ _))
    refine wpList_copy_cells hgd d s dT sT ho elem hu hsz g 0 n n ⟨b, o', none⟩ sLen sCap hd hs (K.map fun y => v8 y) (by rw [hl, hKl]; exact (Nat.min_eq_left hn).symm) ?_ ?_ ?_ ?_ (by rw [hl]; exact h2)
    · intro j v hv
      rw [add_eq]
      exact hc j v (by rw [bys_ints]; exact hv)
    · intro j hj
      rw [hl] at hj
      rw [Nat.zero_add]
      exact Option.isSome_of_eq_some (hr.cell (i := j) (by omega))
    · intro j _
      exact hr.frozen _
    · intro v hv
      obtain ⟨x, _, rfl⟩ := List.mem_map.1 hv
      rfl

section
variable {P : Program} {md : Region.Mode} {ops : Array Oper} {Q : Exit → Act → World → Prop} {S : World → Prop} {fuel : Nat} {listed : Array Bool} {a : Act} {w : World}
/-- one of the operations that are ready: a store -/
theorem rdy_store {rs : List Nat} (i : Nat) (ty : TypeId) (x y : Operand) (dst : Option Tmp) (vx vy : Value) (w2 : World)
    (hi : ops[i]?.map (fun o => (o.op, o.dst, Region.wanted o (yielded ops a.tmps))) = some (.store ty x y, dst, true))
    (hx : (a.eval x, a.eval y) = (vx, vy)) (hrun : (Instr.storeAt ty vx vy).run P w = .ok () w2) (hS : S w2)
    (h : S w2 → wpAnyH P md ops Q S fuel (listed.setIfInBounds i true) (a.put dst undef) w2) (rest : AllReadyH P md ops Q S fuel listed a w rs) : AllReadyH P md ops Q S fuel listed a w (i :: rs) := by
  obtain ⟨oi, ho, he⟩ := Option.map_eq_some_iff.1 hi
  simp only [Prod.mk.injEq] at he hx
  refine AllReadyH.cons ho (fun K hK => ?_) rest
  rw [if_pos he.2.2]
  unfold Oper.wp
  simp [execOp, he.1, hx.1, hx.2, hrun, Result.andThen]
  show K (a.put oi.dst undef) w2
  rw [he.2.1]
  exact hK.out _ _ hS h
end
/-- what lies there is laid there again -/
theorem row_again {P : Program} {w : World} {g : Nat} {t ty : TypeId} {n : Nat} {f : Nat → BitVec 8} (h : w.rowIs g t n (fun i => v8 (f i))) (hi : (P.info? ty).map (·.size) = some n) :
    (Instr.storeAt ty (.pointer (some ⟨g, 0, none⟩)) (.agg (arr8 n f))).run P w = .ok () (w.setCells g 0 ((lst n f).map fun y => v8 y)) ∧ (w.setCells g 0 ((lst n f).map fun y => v8 y)).rowIs g t n (fun i => v8 (f i)) ∧ Only g w (w.setCells g 0 ((lst n f).map fun y => v8 y)) := by
  have he : (arr8 n f).toList = (lst n f).map fun y => v8 y := by simp [arr8, lst]
  refine ⟨?_, ?_, Only.setCells _ _ (Only.refl _ _)⟩
  · have := run_storeAt_mid (P := P) w g 0 ty (arr8 n f) (fun j hj => ⟨by rw [Nat.zero_add]; exact Option.isSome_of_eq_some (h.cell (i := j) (by simpa using hj)), h.frozen _⟩) (by rw [hi]; simp) (arr8_one n f)
    rwa [he] at this
  · refine (rowIs_setCells (lst n f) 0 h).congr fun i hi => ?_
    rw [if_pos (by simp; omega)]
    simp [List.getD, lst_get n f i hi]

theorem results_two_rows {P : Program} {fn : Func} {p q : Tmp} {ty : TypeId} (h : fn.results = #[.cell p ty, .cell q ty]) (tmps : Array Value) (w : World) (g g' : Nat) (t t' : TypeId) (cs cs' : Array Value) (fr fr' : Nat × Nat) (d : TypeDesc)
    (hp : tmps.getD p undef = .pointer (some ⟨g, 0, none⟩)) (hg : w.heap[g]? = some (.cells cs t fr)) (hq : tmps.getD q undef = .pointer (some ⟨g', 0, none⟩)) (hg' : w.heap[g']? = some (.cells cs' t' fr'))
    (hu : P.underlying ty = some d) (hd : (match d with | .struct _ | .array _ _ => true | _ => false) = true) (hi : (P.info? ty).map (·.size) = some cs.size) (hi' : (P.info? ty).map (·.size) = some cs'.size) :
    (results fn tmps).run P w = .ok (.tuple #[.agg cs, .agg cs']) w := by
  have hp' : tmps[p]?.getD undef = .pointer (some ⟨g, 0, none⟩) := by simpa using hp
  have hq' : tmps[q]?.getD undef = .pointer (some ⟨g', 0, none⟩) := by simpa using hq
  simp [results, h, hp', hq', asAddr, run_loadVar_row w g t ty cs fr d hg hu hd hi, run_loadVar_row w g' t' ty cs' fr' d hg' hu hd hi']

set_option maxRecDepth 100000 in
set_option maxHeartbeats 3200000 in
theorem pads_any (A : Option Addr) (ks : List (BitVec 8)) (cap : Nat) (w : World) (hA : SlRead w A (ints .u8 (bys ks))) (hcap : ks.length ≤ cap) (hlen : ks.length ≤ 4611686018427387904) (hk : KAt w) :
    Calls Tryd.prog 19 #[.slice A ks.length cap] w fun e w' => e = .returned (.tuple #[.agg (arr8 64 (inP ks)), .agg (arr8 64 (outP ks))]) ∧ Below w.heap.size w w' := by
  have z64 : ∀ i, i < 64 → (Array.replicate 64 (Value.int IntKind.u8 0))[i]? = some (.int .u8 0) := fun i hi => by simp [hi]
  go_enter Tryd.func19, Tryd.ntmps19
  go_upto_region 1 with (fail)
  refine wp_world (fun W => Below w.heap.size w W ∧ W.heap.size = w.heap.size + 2 ∧ W.rowIs w.heap.size 47 64 (fun _ => v8 0#8) ∧ W.rowIs (w.heap.size + 1) 47 64 (fun _ => v8 0#8)) ?_ ?_
  · refine ⟨by go_grown, by simp, ?_, ?_⟩
    · exact (rowIs_new w (Array.replicate 64 (.int .u8 0)) 47 w.heap.size 64 (fun _ => .int .u8 0) rfl (by simp) z64).alloc _
    · exact rowIs_new (w.alloc _) (Array.replicate 64 (.int .u8 0)) 47 (w.heap.size + 1) 64 (fun _ => .int .u8 0) (by simp) (by simp) z64
  rintro W ⟨hb, hsz, hr2, hr3⟩
  have HSZ := Lib.hid hsz; clear hsz
  have hAW := hA.below hb
  have hkW := hk.below hb
  clear hA hk z64
  by_cases h64 : 64 < ks.length
  · have hb0 : decide ((64 : Int) < (ks.length : Int)) = true := by simp; omega
    have hi1 : inP ks = fun i => (lst 32 (shaOf ks)).getD i 0#8 ^^^ 54#8 := by funext i; unfold inP keyOf; rw [if_pos h64]
    have hi2 : outP ks = fun i => (lst 32 (shaOf ks)).getD i 0#8 ^^^ 92#8 := by funext i; unfold outP keyOf; rw [if_pos h64]
    have HI := Lib.hid hi1
    have HO := Lib.hid hi2
    clear hi1 hi2
    go_wp2_with fail
    refine (suml_one A ks cap W hAW hcap hlen hkW).mono ?_
    rintro e W1 ⟨rfl, hb1⟩
    go_upto_region 3 with (first | (refine wpList_store_row rfl 31 _ _ rfl _ _ rfl rfl _ _ (heap_alloc_new _ _) (by kernel_rfl) (by simp) (arr8_one _ _) ?_; rw [alloc_setRow]))
    generalize hG : W1.heap.size = G at *
    refine wp_world (fun W => Below w.heap.size w W ∧ W.rowIs w.heap.size 47 64 (fun _ => v8 0#8) ∧ W.rowIs (w.heap.size + 1) 47 64 (fun _ => v8 0#8) ∧ SlRead W (some ⟨G, 0, none⟩) (ints .u8 (bys (lst 32 (shaOf ks))))) ?_ ?_
    · have hbb : Below W.heap.size W (W1.alloc (.cells (arr8 32 (shaOf ks)) 31)) := hb1.alloc hb1.size _
      refine ⟨hb.trans (hbb.mono hb.size), hr2.of_block (hbb.block _ hr2.lt), hr3.of_block (hbb.block _ hr3.lt), ?_⟩
      exact slread_row (rowIs_new W1 (arr8 32 (shaOf ks)) 31 G 32 _ hG.symm (by simp) (fun i hi => arr8_get 32 _ i hi))
    clear hb hr2 hr3 hAW hkW hb1 hG HSZ
    rintro W0 ⟨hb, hr2, hr3, hS⟩
    obtain ⟨K, hK⟩ : ∃ K, K = lst 32 (shaOf ks) := ⟨_, rfl⟩
    have hkl : K.length = 32 := by rw [hK]; simp
    have hls : K.length ≤ 64 := by omega
    rw [← hK] at HI HO hS
    have HKL := Lib.hid hkl
    clear hK hkl
    have hs32 := fun w => sliceAt_arr (P := Tryd.prog) 32 Tryd.underlying31 (show (Tryd.prog.info? 5).map (·.size) = some 1 by kernel_rfl) G (by omega) w
    go_upto_region 4 with (fail)
    have hsl := fun w' => sliceAt_arr (P := Tryd.prog) 64 Tryd.underlying47 (show (Tryd.prog.info? 5).map (·.size) = some 1 by kernel_rfl) w.heap.size (by omega) w'
    go_upto_region 5 with (refine wpList_copy_row rfl (.tmp 13) (.tmp 14) 33 33 rfl 5 Tryd.underlying33 (by kernel_rfl) w.heap.size 64 _ _ _ rfl rfl 47 (fun _ => 0#8) hr2 K HKL.out (by have := HKL.out; omega) hS ?_; rintro W3 hrow hon)
    have hr2' := hrow.congr (g := fun i => v8 (K.getD i 0#8)) (fun i hi => by
      split
      · rfl
      · rename_i hh
        simp [List.getD, List.getElem?_eq_none (Nat.le_of_not_lt hh)])
    have hr3' := hon.row hr3 (by omega)
    have hb3 := hb.trans (hon.below (Nat.le_refl _) hb.size)
    clear hb hr2 hr3 hS hrow hon
    have hh2 := rowIs_heap8 hr2'
    obtain ⟨old, ho1, ho2, _⟩ := hr3'
    have hb4 := below_setRow (g := w.heap.size + 1) hb3 (by omega) (arr8 64 (fun i => K.getD i 0#8))
    have hr4 : (W3.setRow (w.heap.size + 1) (arr8 64 (fun i => K.getD i 0#8))).rowIs w.heap.size 47 64 (fun i => v8 (padTo K 54#8 0 i)) := (hr2'.of_block (setRow_other W3 _ _ _ (by omega))).congr fun i _ => by simp [padTo]
    have hr5 : (W3.setRow (w.heap.size + 1) (arr8 64 (fun i => K.getD i 0#8))).rowIs (w.heap.size + 1) 47 64 (fun i => v8 (padTo K 92#8 0 i)) := ⟨_, setRow_heap _ _ _ _ _ _ ho1, by simp, fun i hi => by rw [arr8_get 64 _ i hi]; simp [padTo]⟩
    go_upto_region 6 with (first | (refine wpList_load_row rfl 47 _ rfl _ rfl _ _ _ _ hh2 Tryd.underlying47 rfl (by kernel_rfl) ?_) | (refine wpList_store_row rfl 47 _ _ rfl _ _ rfl rfl _ _ ho1 (by kernel_rfl) (by simpa using ho2) (arr8_one _ _) ?_))
    clear hh2 ho1 ho2 hb3 hr2'
    generalize W3.setRow (w.heap.size + 1) (arr8 64 (fun i => K.getD i 0#8)) = W4 at *
    go_wp2_with fail
    go_loopw [17] (fun i wr => ∃ k : Nat, k ≤ 64 ∧ i = .int .i64 k ∧ Below w.heap.size w wr ∧ wr.rowIs w.heap.size 47 64 (fun i => v8 (padTo K 54#8 k i)) ∧ wr.rowIs (w.heap.size + 1) 47 64 (fun i => v8 (padTo K 92#8 k i))) (fun i _ => 64 - (intOf i).toNat)
    case atStart => exact ⟨0, by omega, rfl, hb4, hr4, hr5⟩
    clear hb4 hr4 hr5
    case round =>
      obtain ⟨k, hk1, rfl, hb, hp, hq⟩ := hrel
      by_cases hlt : k < 64
      · have c1 := hp.cell (i := k) hlt
        have c2 := hq.cell (i := k) hlt
        rw [show padTo K 54#8 k k = K.getD k 0#8 by simp [padTo]] at c1
        rw [show padTo K 92#8 k k = K.getD k 0#8 by simp [padTo]] at c2
        have f1 := hp.frozen k
        have f2 := hq.frozen k
        have e1 := n8_xor (K.getD k 0#8) 54#8
        have e2 := n8_xor (K.getD k 0#8) 92#8
        change bits .xor .u8 (n8 (K.getD k 0#8)) 54 = _ at e1
        change bits .xor .u8 (n8 (K.getD k 0#8)) 92 = _ at e2
        have hst1 := fun j => padTo_step K 54#8 k j
        have hst2 := fun j => padTo_step K 92#8 k j
        have HS1 := Lib.hid hst1
        have HS2 := Lib.hid hst2
        clear hst1 hst2
        generalize K.getD k 0#8 = x at *
        have hk0 : (k : Int) < 64 := by omega
        go_wp2_with fail
        go_roundw
        case rel =>
          refine ⟨k + 1, by omega, by go_num, (hb.setCell (Nat.le_refl _) _).setCell (by simp only; omega) _, ?_, ?_⟩
          · exact ((hp.set k _).setOther (by simp only; omega) _).congr fun j _ => HS1.out j
          · exact ((hq.setOther (by simp only; omega) _).set k _).congr fun j _ => HS2.out j
        case measure => simp [intOf]; omega
      · have hk64 : k = 64 := by omega
        subst hk64
        have hdk : decide (((64 : Nat) : Int) < 64) = false := by decide
        have hp2 := hp.congr (g := fun i => v8 (K.getD i 0#8 ^^^ 54#8)) fun i hi => by unfold padTo; rw [if_pos hi]
        have hq2 := hq.congr (g := fun i => v8 (K.getD i 0#8 ^^^ 92#8)) fun i hi => by unfold padTo; rw [if_pos hi]
        clear hp hq
        have hh1 : wr.heap[w.heap.size]? = some (.cells (arr8 64 (inP ks)) 47 (0, 0)) := by rw [HI.out]; exact rowIs_heap8 hp2
        have hh2 : wr.heap[w.heap.size + 1]? = some (.cells (arr8 64 (outP ks)) 47 (0, 0)) := by rw [HO.out]; exact rowIs_heap8 hq2
        have hp3 : wr.rowIs w.heap.size 47 64 (fun i => v8 (inP ks i)) := by rw [HI.out]; exact hp2
        have hq3 : wr.rowIs (w.heap.size + 1) 47 64 (fun i => v8 (outP ks i)) := by rw [HO.out]; exact hq2
        clear hp2 hq2 hh1 hh2
        clear HI HO
        generalize hpp : inP ks = p at *
        generalize hqq : outP ks = q at *
        have HPP := Lib.hid hpp
        have HQQ := Lib.hid hqq
        clear hpp hqq
        go_wp2_with fail
        have iT : (Tryd.prog.info? 47).map (·.size) = some 64 := by kernel_rfl
        have iP : (Tryd.prog.info? 47).map (·.size) = some (arr8 64 p).toList.length := by simp only [Array.length_toList, arr8_size]; kernel_rfl
        have iQ : (Tryd.prog.info? 47).map (·.size) = some (arr8 64 q).toList.length := by simp only [Array.length_toList, arr8_size]; kernel_rfl
        have put2 : ∀ {W : World}, (W.rowIs w.heap.size 47 64 (fun i => v8 (p i)) ∧ W.rowIs (w.heap.size + 1) 47 64 (fun i => v8 (q i)) ∧ Below w.heap.size w W) → ((W.setCells w.heap.size 0 ((lst 64 p).map fun y => v8 y)).rowIs w.heap.size 47 64 (fun i => v8 (p i)) ∧ (W.setCells w.heap.size 0 ((lst 64 p).map fun y => v8 y)).rowIs (w.heap.size + 1) 47 64 (fun i => v8 (q i)) ∧ Below w.heap.size w (W.setCells w.heap.size 0 ((lst 64 p).map fun y => v8 y))) :=
          fun h => ⟨(row_again h.1 iT).2.1, (row_again h.1 iT).2.2.row h.2.1 (by omega), h.2.2.trans ((row_again h.1 iT).2.2.below (Nat.le_refl _) h.2.2.size)⟩
        have put3 : ∀ {W : World}, (W.rowIs w.heap.size 47 64 (fun i => v8 (p i)) ∧ W.rowIs (w.heap.size + 1) 47 64 (fun i => v8 (q i)) ∧ Below w.heap.size w W) → ((W.setCells (w.heap.size + 1) 0 ((lst 64 q).map fun y => v8 y)).rowIs w.heap.size 47 64 (fun i => v8 (p i)) ∧ (W.setCells (w.heap.size + 1) 0 ((lst 64 q).map fun y => v8 y)).rowIs (w.heap.size + 1) 47 64 (fun i => v8 (q i)) ∧ Below w.heap.size w (W.setCells (w.heap.size + 1) 0 ((lst 64 q).map fun y => v8 y))) :=
          fun h => ⟨(row_again h.2.1 iT).2.2.row h.1 (by omega), (row_again h.2.1 iT).2.1, h.2.2.trans ((row_again h.2.1 iT).2.2.below (by omega) h.2.2.size)⟩
        refine wp_region_noPanic ?_
        refine wp_region_held_drew (S := fun W => W.rowIs w.heap.size 47 64 (fun i => v8 (p i)) ∧ W.rowIs (w.heap.size + 1) 47 64 (fun i => v8 (q i)) ∧ Below w.heap.size w W) (by kernel_rfl) ⟨hp3, hq3, hb.drew⟩ (fun hHeld => ?_)
        refine held_load 0 47 (.tmp 2) (some 31) w.heap.size 0 (arr8 64 p).toList _ (by kernel_rfl) (by kernel_rfl) (fun w h => rangeAt_row h.1) Tryd.underlying47 rfl iP (by kernel_rfl) (by kernel_rfl) (by kernel_rfl) (fun _ _ _ _ _ h => h) hHeld ?_
        refine held_load 1 47 (.tmp 3) (some 32) (w.heap.size + 1) 0 (arr8 64 q).toList _ (by kernel_rfl) (by kernel_rfl) (fun w h => rangeAt_row h.2.1) Tryd.underlying47 rfl iQ (by kernel_rfl) (by kernel_rfl) (by kernel_rfl) (fun _ _ _ _ _ h => h) hHeld ?_
        refine held_ready [2] (by kernel_rfl) (by simp) (rdy_store 2 47 (.tmp 2) (.tmp 31) none (.pointer (some ⟨w.heap.size, 0, none⟩)) (.agg (arr8 64 p)) _ (by kernel_rfl) (by kernel_rfl) (row_again hHeld.1 iT).1 (put2 hHeld) ?_ AllReadyH.nil)
        intro hHeld
        refine held_ready [3] (by kernel_rfl) (by simp) (rdy_store 3 47 (.tmp 3) (.tmp 32) none (.pointer (some ⟨w.heap.size + 1, 0, none⟩)) (.agg (arr8 64 q)) _ (by kernel_rfl) (by kernel_rfl) (row_again hHeld.2.1 iT).1 (put3 hHeld) ?_ AllReadyH.nil)
        intro hHeld
        refine wpAnyH_done (by kernel_rfl) ?_ _
        refine NoPanic.normal ?_
        generalize World.setCells _ _ _ _ = W9 at hHeld ⊢
        simp only [Act.put, List.setIfInBounds_toArray, List.set_cons_zero, List.set_cons_succ]
        go_wp2_with fail
        refine bodyPost_ret (results_two_rows rfl _ _ _ _ _ _ _ _ _ _ _ rfl (rowIs_heap8 hHeld.1) rfl (rowIs_heap8 hHeld.2.1) Tryd.underlying47 rfl (by rw [arr8_size]; kernel_rfl) (by rw [arr8_size]; kernel_rfl)) rfl ?_
        rw [HPP.out, HQQ.out]
        exact ⟨rfl, hHeld.2.2⟩
  · have hb0 : decide ((64 : Int) < (ks.length : Int)) = false := by simp; omega
    obtain ⟨W0, rfl⟩ : ∃ x, x = W := ⟨_, rfl⟩
    have hS := hAW
    have hls : ks.length ≤ 64 := by omega
    obtain ⟨K, hK⟩ : ∃ K, K = ks := ⟨_, rfl⟩
    have HKL := Lib.hid (congrArg List.length hK)
    have hi1 : inP ks = fun i => K.getD i 0#8 ^^^ 54#8 := by funext i; unfold inP keyOf; rw [if_neg h64, hK]
    have hi2 : outP ks = fun i => K.getD i 0#8 ^^^ 92#8 := by funext i; unfold outP keyOf; rw [if_neg h64, hK]
    have HI := Lib.hid hi1
    have HO := Lib.hid hi2
    rw [← hK] at hS hls
    clear hi1 hi2 hK
    go_upto_region 4 with (fail)
    have hsl := fun w' => sliceAt_arr (P := Tryd.prog) 64 Tryd.underlying47 (show (Tryd.prog.info? 5).map (·.size) = some 1 by kernel_rfl) w.heap.size (by omega) w'
    go_upto_region 5 with (refine wpList_copy_row rfl (.tmp 13) (.tmp 14) 33 33 rfl 5 Tryd.underlying33 (by kernel_rfl) w.heap.size 64 _ _ _ rfl rfl 47 (fun _ => 0#8) hr2 K HKL.out (by have := HKL.out; omega) hS ?_; rintro W3 hrow hon)
    have hr2' := hrow.congr (g := fun i => v8 (K.getD i 0#8)) (fun i hi => by
      split
      · rfl
      · rename_i hh
        simp [List.getD, List.getElem?_eq_none (Nat.le_of_not_lt hh)])
    have hr3' := hon.row hr3 (by omega)
    have hb3 := hb.trans (hon.below (Nat.le_refl _) hb.size)
    clear hb hr2 hr3 hS hrow hon
    have hh2 := rowIs_heap8 hr2'
    obtain ⟨old, ho1, ho2, _⟩ := hr3'
    have hb4 := below_setRow (g := w.heap.size + 1) hb3 (by omega) (arr8 64 (fun i => K.getD i 0#8))
    have hr4 : (W3.setRow (w.heap.size + 1) (arr8 64 (fun i => K.getD i 0#8))).rowIs w.heap.size 47 64 (fun i => v8 (padTo K 54#8 0 i)) := (hr2'.of_block (setRow_other W3 _ _ _ (by omega))).congr fun i _ => by simp [padTo]
    have hr5 : (W3.setRow (w.heap.size + 1) (arr8 64 (fun i => K.getD i 0#8))).rowIs (w.heap.size + 1) 47 64 (fun i => v8 (padTo K 92#8 0 i)) := ⟨_, setRow_heap _ _ _ _ _ _ ho1, by simp, fun i hi => by rw [arr8_get 64 _ i hi]; simp [padTo]⟩
    go_upto_region 6 with (first | (refine wpList_load_row rfl 47 _ rfl _ rfl _ _ _ _ hh2 Tryd.underlying47 rfl (by kernel_rfl) ?_) | (refine wpList_store_row rfl 47 _ _ rfl _ _ rfl rfl _ _ ho1 (by kernel_rfl) (by simpa using ho2) (arr8_one _ _) ?_))
    clear hh2 ho1 ho2 hb3 hr2'
    generalize W3.setRow (w.heap.size + 1) (arr8 64 (fun i => K.getD i 0#8)) = W4 at *
    go_wp2_with fail
    go_loopw [17] (fun i wr => ∃ k : Nat, k ≤ 64 ∧ i = .int .i64 k ∧ Below w.heap.size w wr ∧ wr.rowIs w.heap.size 47 64 (fun i => v8 (padTo K 54#8 k i)) ∧ wr.rowIs (w.heap.size + 1) 47 64 (fun i => v8 (padTo K 92#8 k i))) (fun i _ => 64 - (intOf i).toNat)
    case atStart => exact ⟨0, by omega, rfl, hb4, hr4, hr5⟩
    clear hb4 hr4 hr5
    case round =>
      obtain ⟨k, hk1, rfl, hb, hp, hq⟩ := hrel
      by_cases hlt : k < 64
      · have c1 := hp.cell (i := k) hlt
        have c2 := hq.cell (i := k) hlt
        rw [show padTo K 54#8 k k = K.getD k 0#8 by simp [padTo]] at c1
        rw [show padTo K 92#8 k k = K.getD k 0#8 by simp [padTo]] at c2
        have f1 := hp.frozen k
        have f2 := hq.frozen k
        have e1 := n8_xor (K.getD k 0#8) 54#8
        have e2 := n8_xor (K.getD k 0#8) 92#8
        change bits .xor .u8 (n8 (K.getD k 0#8)) 54 = _ at e1
        change bits .xor .u8 (n8 (K.getD k 0#8)) 92 = _ at e2
        have hst1 := fun j => padTo_step K 54#8 k j
        have hst2 := fun j => padTo_step K 92#8 k j
        have HS1 := Lib.hid hst1
        have HS2 := Lib.hid hst2
        clear hst1 hst2
        generalize K.getD k 0#8 = x at *
        have hk0 : (k : Int) < 64 := by omega
        go_wp2_with fail
        go_roundw
        case rel =>
          refine ⟨k + 1, by omega, by go_num, (hb.setCell (Nat.le_refl _) _).setCell (by simp only; omega) _, ?_, ?_⟩
          · exact ((hp.set k _).setOther (by simp only; omega) _).congr fun j _ => HS1.out j
          · exact ((hq.setOther (by simp only; omega) _).set k _).congr fun j _ => HS2.out j
        case measure => simp [intOf]; omega
      · have hk64 : k = 64 := by omega
        subst hk64
        have hdk : decide (((64 : Nat) : Int) < 64) = false := by decide
        have hp2 := hp.congr (g := fun i => v8 (K.getD i 0#8 ^^^ 54#8)) fun i hi => by unfold padTo; rw [if_pos hi]
        have hq2 := hq.congr (g := fun i => v8 (K.getD i 0#8 ^^^ 92#8)) fun i hi => by unfold padTo; rw [if_pos hi]
        clear hp hq
        have hh1 : wr.heap[w.heap.size]? = some (.cells (arr8 64 (inP ks)) 47 (0, 0)) := by rw [HI.out]; exact rowIs_heap8 hp2
        have hh2 : wr.heap[w.heap.size + 1]? = some (.cells (arr8 64 (outP ks)) 47 (0, 0)) := by rw [HO.out]; exact rowIs_heap8 hq2
        have hp3 : wr.rowIs w.heap.size 47 64 (fun i => v8 (inP ks i)) := by rw [HI.out]; exact hp2
        have hq3 : wr.rowIs (w.heap.size + 1) 47 64 (fun i => v8 (outP ks i)) := by rw [HO.out]; exact hq2
        clear hp2 hq2 hh1 hh2
        clear HI HO
        generalize hpp : inP ks = p at *
        generalize hqq : outP ks = q at *
        have HPP := Lib.hid hpp
        have HQQ := Lib.hid hqq
        clear hpp hqq
        go_wp2_with fail
        have iT : (Tryd.prog.info? 47).map (·.size) = some 64 := by kernel_rfl
        have iP : (Tryd.prog.info? 47).map (·.size) = some (arr8 64 p).toList.length := by simp only [Array.length_toList, arr8_size]; kernel_rfl
        have iQ : (Tryd.prog.info? 47).map (·.size) = some (arr8 64 q).toList.length := by simp only [Array.length_toList, arr8_size]; kernel_rfl
        have put2 : ∀ {W : World}, (W.rowIs w.heap.size 47 64 (fun i => v8 (p i)) ∧ W.rowIs (w.heap.size + 1) 47 64 (fun i => v8 (q i)) ∧ Below w.heap.size w W) → ((W.setCells w.heap.size 0 ((lst 64 p).map fun y => v8 y)).rowIs w.heap.size 47 64 (fun i => v8 (p i)) ∧ (W.setCells w.heap.size 0 ((lst 64 p).map fun y => v8 y)).rowIs (w.heap.size + 1) 47 64 (fun i => v8 (q i)) ∧ Below w.heap.size w (W.setCells w.heap.size 0 ((lst 64 p).map fun y => v8 y))) :=
          fun h => ⟨(row_again h.1 iT).2.1, (row_again h.1 iT).2.2.row h.2.1 (by omega), h.2.2.trans ((row_again h.1 iT).2.2.below (Nat.le_refl _) h.2.2.size)⟩
        have put3 : ∀ {W : World}, (W.rowIs w.heap.size 47 64 (fun i => v8 (p i)) ∧ W.rowIs (w.heap.size + 1) 47 64 (fun i => v8 (q i)) ∧ Below w.heap.size w W) → ((W.setCells (w.heap.size + 1) 0 ((lst 64 q).map fun y => v8 y)).rowIs w.heap.size 47 64 (fun i => v8 (p i)) ∧ (W.setCells (w.heap.size + 1) 0 ((lst 64 q).map fun y => v8 y)).rowIs (w.heap.size + 1) 47 64 (fun i => v8 (q i)) ∧ Below w.heap.size w (W.setCells (w.heap.size + 1) 0 ((lst 64 q).map fun y => v8 y))) :=
          fun h => ⟨(row_again h.2.1 iT).2.2.row h.1 (by omega), (row_again h.2.1 iT).2.1, h.2.2.trans ((row_again h.2.1 iT).2.2.below (by omega) h.2.2.size)⟩
        refine wp_region_noPanic ?_
        refine wp_region_held_drew (S := fun W => W.rowIs w.heap.size 47 64 (fun i => v8 (p i)) ∧ W.rowIs (w.heap.size + 1) 47 64 (fun i => v8 (q i)) ∧ Below w.heap.size w W) (by kernel_rfl) ⟨hp3, hq3, hb.drew⟩ (fun hHeld => ?_)
        refine held_load 0 47 (.tmp 2) (some 31) w.heap.size 0 (arr8 64 p).toList _ (by kernel_rfl) (by kernel_rfl) (fun w h => rangeAt_row h.1) Tryd.underlying47 rfl iP (by kernel_rfl) (by kernel_rfl) (by kernel_rfl) (fun _ _ _ _ _ h => h) hHeld ?_
        refine held_load 1 47 (.tmp 3) (some 32) (w.heap.size + 1) 0 (arr8 64 q).toList _ (by kernel_rfl) (by kernel_rfl) (fun w h => rangeAt_row h.2.1) Tryd.underlying47 rfl iQ (by kernel_rfl) (by kernel_rfl) (by kernel_rfl) (fun _ _ _ _ _ h => h) hHeld ?_
        refine held_ready [2] (by kernel_rfl) (by simp) (rdy_store 2 47 (.tmp 2) (.tmp 31) none (.pointer (some ⟨w.heap.size, 0, none⟩)) (.agg (arr8 64 p)) _ (by kernel_rfl) (by kernel_rfl) (row_again hHeld.1 iT).1 (put2 hHeld) ?_ AllReadyH.nil)
        intro hHeld
        refine held_ready [3] (by kernel_rfl) (by simp) (rdy_store 3 47 (.tmp 3) (.tmp 32) none (.pointer (some ⟨w.heap.size + 1, 0, none⟩)) (.agg (arr8 64 q)) _ (by kernel_rfl) (by kernel_rfl) (row_again hHeld.2.1 iT).1 (put3 hHeld) ?_ AllReadyH.nil)
        intro hHeld
        refine wpAnyH_done (by kernel_rfl) ?_ _
        refine NoPanic.normal ?_
        generalize World.setCells _ _ _ _ = W9 at hHeld ⊢
        simp only [Act.put, List.setIfInBounds_toArray, List.set_cons_zero, List.set_cons_succ]
        go_wp2_with fail
        refine bodyPost_ret (results_two_rows rfl _ _ _ _ _ _ _ _ _ _ _ rfl (rowIs_heap8 hHeld.1) rfl (rowIs_heap8 hHeld.2.1) Tryd.underlying47 rfl (by rw [arr8_size]; kernel_rfl) (by rw [arr8_size]; kernel_rfl)) rfl ?_
        rw [HPP.out, HQQ.out]
        exact ⟨rfl, hHeld.2.2⟩
end Go.Proofs.YtccchhfcoicgcaaDoor
