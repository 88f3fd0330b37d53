import Derived.Test.YtegijahkiopncaaDoorRnd
import Derived.StillTailTactics
namespace Go.Proofs.YtegijahkiopncaaDoor
open Go.RowKit

theorem wpStill_load_row {P : Program} {ops : Array Oper} {rest : List Oper} {o : Oper} {a : Act} {w : World} {Q : Act → Prop} (hgd : o.guard = none) (ty : TypeId) (x : Operand) (ho : o.op = .load ty x)
    (g : Nat) (hx : a.eval x = .pointer (some ⟨g, 0, none⟩)) (t : TypeId) (cs : Array Value) (fr : Nat × Nat) (d : TypeDesc) (hg : w.heap[g]? = some (.cells cs t fr))
    (hu : P.underlying ty = some d) (hd : (match d with | .struct _ | .array _ _ => true | _ => false) = true) (hi : (P.info? ty).map (·.size) = some cs.size)
    (h : wpStill P ops w Q rest (a.put o.dst (.agg cs))) : wpStill P ops w Q (o :: rest) a := by
  refine wpStill_step fun K hK => ?_
  simp only [Region.wanted, hgd, if_true]
  unfold Oper.still execOp
  simp only [ho, hx, Instr.loadAt, Instr.sureAddr, Sem.run_bind, Sem.run_pure, Result.andThen_ok, run_loadVar_row w g t ty cs fr d hg hu hd hi]
  exact ⟨rfl, hK _ h⟩

theorem wpStill_slice {P : Program} {ops : Array Oper} {rest : List Oper} {o : Oper} {a : Act} {w : World} {Q : Act → Prop} (hgd : o.guard = none) (t e : TypeId) (hu : P.underlying t = some (.slice e)) (x lo hi : Operand) (ho : o.op = .slice t x (some lo) (some hi) none)
    (va vl vh r : Value) (hx : a.eval x = va) (hl : a.eval lo = vl) (hh : a.eval hi = vh) (hr : (Instr.slice t va (some vl) (some vh) none).run P w = .ok r w)
    (h : wpStill P ops w Q rest (a.put o.dst r)) : wpStill P ops w Q (o :: rest) a := by
  have e2 : P.elem t = e := by simp [Program.elem, hu]
  refine wpStill_step fun K hK => ?_
  simp only [Region.wanted, hgd, if_true]
  unfold Oper.still execOp
  simp only [ho, hx, hl, hh, Option.map_some, Option.map_none, Sem.run_bind, Sem.run_pure, run_sliceAt_slice (h := by rw [e2]; exact hu), hr, Result.andThen_ok]
  exact ⟨rfl, hK _ h⟩

/-- one byte appended to a row that is one's own -/
theorem push_own {ops : Array Oper} {rest : List Oper} {o : Oper} {a : Act} {Q : Exit → Act → World → Prop} (hgd : o.guard = none) (s x : Operand)
    (ho : o.op = .call { callee := .builtin .append, args := #[s, x], argTypes := #[24, 24] }) (W : World) (base : Nat) (v : Value) (ys : List (BitVec 8)) (y : BitVec 8)
    (hs : a.eval s = v) (hx : a.eval x = .slice (some ⟨W.heap.size, 0, none⟩) 1 1) (hown : W.ownsRow base 5 1 v ys.length (ints .u8 (bys ys))) (hbase : base ≤ W.heap.size) (hl : ys.length ≤ 140737488352000)
    (h : ∀ v' w', w'.ownsRow base 5 1 v' (ys ++ [y]).length (ints .u8 (bys (ys ++ [y]))) → Below base W w' → wpList Tryd.prog ops Q rest (a.put o.dst v') w') :
    wpList Tryd.prog ops Q (o :: rest) a (W.alloc (.cells #[.int .u8 (n8 y)] 5)) := by
  obtain ⟨i0, hi, hz0, hz1, hz2⟩ := info_parts Tryd.info5
  refine wpList_append_own _ hgd s x 24 ho base 5 i0 (.int .u8 0) 1 1 Tryd.underlying24 hi hz0 hz1 hz2 rfl (by decide) v _ _ hs (hown.alloc _) ⟨W.heap.size, 0, none⟩ 1 1 [.int .u8 (n8 y)] hx rfl (cell_one_new _ _ _) ?_ ?_ ?_ ?_ ?_
  · intro u hu; simp at hu; subst hu; rfl
  · unfold maxLen; omega
  · omega
  · simp; omega
  · intro v' w2 hown2 hgrow2 _
    have e : ints .u8 (bys ys) ++ [.int .u8 (n8 y)] = ints .u8 (bys (ys ++ [y])) := by simp [ints, bys]
    rw [e] at hown2
    refine h v' w2 (by simpa using hown2) ?_
    exact ((Below.refl _ _).alloc hbase _).grown hgrow2 (by simp; omega) (fun j hj => (hown.lt j hj).1)

theorem feeds_mod (xs : List (BitVec 8)) : ∀ h : HSt, h.u < 64 → (feeds h xs).u = (h.u + xs.length) % 64 := by
  induction xs with
  | nil => intro h hu; simp [feeds, Nat.mod_eq_of_lt hu]
  | cons x r ih =>
    intro h hu
    rw [feeds_cons, ih (feed1 h x) (by unfold feed1; split <;> simp; omega)]
    unfold feed1
    split <;> simp <;> omega

/-- the padded bytes: the first t of the padding -/
def docTo (n : Nat) (L : BitVec 64) (t : Nat) : List (BitVec 8) := (List.range t).map (padF n L 8)
theorem docTo_succ (n : Nat) (L : BitVec 64) (t : Nat) : docTo n L (t + 1) = docTo n L t ++ [padF n L 8 t] := by simp [docTo, List.range_succ]
@[simp] theorem docTo_len (n : Nat) (L : BitVec 64) (t : Nat) : (docTo n L t).length = t := by simp [docTo]

/-- what the document's Sum keeps while it lays its list -/
structure SumM (w : World) (B : Nat) (ys : List (BitVec 8)) (v : Value) (wr : World) : Prop where
  own : wr.ownsRow (B + 1) 5 1 v ys.length (ints .u8 (bys ys))
  b : Below B w wr
  r : wr.rowIs B 26 32 (fun _ => .int .u8 0)
  s : B + 1 ≤ wr.heap.size
theorem SumM.push {w : World} {B : Nat} {ys ys' : List (BitVec 8)} {v v' : Value} {wr wr' : World} (h : SumM w B ys v wr) (hb : Below (B + 1) wr wr') (ho : wr'.ownsRow (B + 1) 5 1 v' ys'.length (ints .u8 (bys ys'))) : SumM w B ys' v' wr' :=
  ⟨ho, h.b.trans (hb.mono (by omega)), h.r.of_block (hb.block B (by omega)), Nat.le_trans h.s hb.size⟩

theorem updbs_low (xs : List (BitVec 8)) : ∀ (m : Nat → BitVec 8) (u i : Nat), i < u → updbs m u xs i = m i := by
  induction xs with
  | nil => intro m u i _; rfl
  | cons x r ih =>
    intro m u i hi
    rw [updbs, ih _ _ _ (by omega)]
    unfold updb
    rw [if_neg (by omega)]
theorem updbs_get (xs : List (BitVec 8)) : ∀ (m : Nat → BitVec 8) (u j : Nat), j < xs.length → xs[j]? = some (updbs m u xs (u + j)) := by
  induction xs with
  | nil => intro m u j hj; simp at hj
  | cons x r ih =>
    intro m u j hj
    cases j with
    | zero =>
      rw [updbs, updbs_low r _ _ _ (by omega)]
      simp [updb]
    | succ j =>
      simp at hj
      have := ih (updb m u x) (u + 1) j hj
      rw [updbs, show u + (j + 1) = u + 1 + j by omega, List.getElem?_cons_succ]
      exact this

/-- a block more -/
theorem feeds_block (zs : List (BitVec 8)) (p : Nat) (hp : p % 64 = 0) (hl : p + 64 ≤ zs.length) :
    ∃ m, (∀ i, i < 64 → zs[p + i]? = some (m i)) ∧ (feeds h0 (zs.take (p + 64))).s = mixed (feeds h0 (zs.take p)).s m := by
  have hu : (feeds h0 (zs.take p)).u = 0 := by
    rw [feeds_mod _ h0 (by decide), List.length_take, Nat.min_eq_left (by omega)]
    simp [h0, hp]
  have hbl : ((zs.drop p).take 64).length = 64 := by simp; omega
  refine ⟨updbs (feeds h0 (zs.take p)).m 0 ((zs.drop p).take 64), fun i hi => ?_, ?_⟩
  · have h1 := updbs_get ((zs.drop p).take 64) (feeds h0 (zs.take p)).m 0 i (by omega)
    rw [Nat.zero_add] at h1
    rw [← h1, List.getElem?_take_of_lt hi, List.getElem?_drop]
  · rw [List.take_add, feeds_append, feeds_full _ _ (by omega) (by intro e; rw [e] at hbl; simp at hbl), hu]

theorem slice_sl_lh {P : Program} {t e : TypeId} (hu : P.underlying t = some (.slice e)) (hs : (P.info? e).map (·.size) = some 1) (b o n cap l m : Nat) (hm : l + m ≤ n) (hc : n ≤ cap) (h0 : l < n) (w : World) :
    (Instr.slice t (.slice (some ⟨b, o, none⟩) n cap) (some (.int .i64 (l : Int))) (some (.int .i64 ((l : Int) + m))) none).run P w = .ok (.slice (some ⟨b, o + l, none⟩) m (cap - l)) w := by
  have e2 : P.elem t = e := by simp [Program.elem, hu]
  rw [run_slice_lh (P := P) w t (some ⟨b, o, none⟩) n cap (by rw [e2]; exact hu) .i64 .i64 (l : Int) ((l : Int) + m) (by omega) (by omega) (by omega), e2]
  obtain ⟨i, hi, hz⟩ := Option.map_eq_some_iff.1 hs
  have h1 : ((l : Int) + m).toNat = l + m := by omega
  have h2 : ¬ cap = l := by omega
  have h3 : l + m - l = m := by omega
  simp [sizeOf, typeInfo, hi, hz, Result.andThen, sliced, h1, h2, h3, add_eq]

/-- what it keeps while it goes over the blocks -/
structure SumH (w : World) (B H g o : Nat) (zs : List (BitVec 8)) (S : Nat → BitVec 32) (wr : World) : Prop where
  b : Below B w wr
  r : wr.rowIs B 26 32 (fun _ => .int .u8 0)
  h : wr.rowIs H 75 8 (fun i => v32 (S i))
  c : ∀ i u, zs[i]? = some u → wr.cell? ⟨g, o + i, none⟩ = some (v8 u)
  l : g < H ∧ B < H
theorem SumH.below {w : World} {B H g o : Nat} {zs : List (BitVec 8)} {S : Nat → BitVec 32} {wr wr' : World} (x : SumH w B H g o zs S wr) (hb : Below wr.heap.size wr wr') : SumH w B H g o zs S wr' := by
  have hl := x.h.lt
  have := x.l
  exact ⟨x.b.trans (hb.mono (by omega)), x.r.of_block (hb.block _ (by omega)), x.h.of_block (hb.block _ hl), fun i u e => by rw [World.cell?_of_block (hb.block g (by omega))]; exact x.c i u e, x.l⟩
theorem SumH.set {w : World} {B H g o : Nat} {zs : List (BitVec 8)} {S : Nat → BitVec 32} {wr : World} (x : SumH w B H g o zs S wr) (S' : Nat → BitVec 32) : SumH w B H g o zs S' (wr.setRow H (arr32 8 S')) := by
  have hl := x.l
  have hg : ∀ b, b ≠ H → (wr.setRow H (arr32 8 S')).heap[b]? = wr.heap[b]? := by
    intro b hb
    unfold World.setRow
    simp [Array.getElem?_modify, Ne.symm hb]
  refine ⟨below_setRow x.b (by omega) _, rowIs_setRow_ne x.r (by omega) _, ?_, fun i u e => by rw [World.cell?_of_block (hg g (by omega))]; exact x.c i u e, x.l⟩
  exact rowIs_arr (setRow_heap _ _ _ _ _ _ (rowIs_heap32 x.h)) (by simp) (fun i hi => arr32_get 8 S' i hi)
def outUp (s : Nat → BitVec 32) (k : Nat) (i : Nat) : BitVec 8 := if i < k then outB s i else 0#8

set_option maxRecDepth 100000 in
set_option maxHeartbeats 800000 in
theorem dsum_any (A : Option Addr) (xs : List (BitVec 8)) (ca : Nat) (w : World) (hA : SlRead w A (ints .u8 (bys xs))) (hx : xs.length ≤ 140737488351232) :
    Calls Tryd.prog 25 #[.slice A xs.length ca] w fun e w' => e = .returned (.agg (arr8 32 (shaOf xs))) ∧ Below w.heap.size w w' := by
  go_enter Tryd.func25, Tryd.ntmps25
  go_upto_region 1 with (fail)
  refine wp_world (fun W => Below w.heap.size w W ∧ W.heap.size = w.heap.size + 1 ∧ W.rowIs w.heap.size 26 32 (fun _ => .int .u8 0)) ?_ ?_
  · refine ⟨by go_grown, by simp, ?_⟩
    exact rowIs_new w (Array.replicate 32 (.int .u8 0)) 26 w.heap.size 32 (fun _ => .int .u8 0) rfl (by simp) (fun i hi => by simp [hi])
  rintro W1 ⟨hb1, hs1, hr1⟩
  have hby := bytes_any A (bys xs) ca W1 (hA.below hb1) (by simpa using hx)
  rw [bys_length] at hby
  have HS := Lib.hid hs1; clear hs1
  go_wp2_with fail
  refine hby.mono ?_
  rintro e W2 ⟨v, rfl, hown, hb2⟩
  have hs1 := HS.out
  rw [hs1] at hown hb2
  have hM : SumM w w.heap.size xs v W2 := ⟨hown, hb1.trans (hb2.mono (by omega)), hr1.of_block (hb2.block _ (by omega)), by rw [← hs1]; exact hb2.size⟩
  clear hby hown hb1 hr1 hb2 HS hs1 W1
  generalize hB : w.heap.size = B at *
  have HB := Lib.hid hB; clear hB
  go_upto_region 2 with (at_builtin; refine push_own rfl _ _ rfl W2 (B + 1) v xs 128#8 rfl rfl hM.own hM.s (by omega) ?_; intro v' W3 hown hb)
  have hn : padN (feeds h0 xs).u = 1 + (119 - xs.length % 64) % 64 := by
    rw [feeds_mod xs h0 (by decide)]
    simp [padN, h0]
  have hpl : padL (feeds h0 xs).u (BitVec.ofNat 64 (8 * xs.length)) = docTo (padN (feeds h0 xs).u) (BitVec.ofNat 64 (8 * xs.length)) (padN (feeds h0 xs).u + 8) := rfl
  have hdg : shaOf xs = outB (feeds h0 (xs ++ padL (feeds h0 xs).u (BitVec.ofNat 64 (8 * xs.length)))).s := by rw [feeds_append]; rfl
  rw [hpl] at hdg
  generalize padN (feeds h0 xs).u = n at *
  generalize hL : BitVec.ofNat 64 (8 * xs.length) = L at *
  have HDG := Lib.hid hdg
  have HL := Lib.hid hL
  clear hdg hpl hL
  have hM1 : SumM w B (xs ++ docTo n L 1) v' W3 := by
    have e : docTo n L 1 = [128#8] := by
      simp only [docTo, List.range_one, List.map_cons, List.map_nil, padF]
      rw [if_neg (by omega)]
      simp
    rw [e]
    exact hM.push hb hown
  clear hM hown hb hA
  have HN := Lib.hid hn; clear hn
  refine wp_world (SumM w B (xs ++ docTo n L 1) v') hM1 ?_
  clear hM1 W3
  generalize W2.heap.size = g2
  clear W2
  rintro W3 hM1
  go_loopw [3] (fun v wr => ∃ t : Nat, 1 ≤ t ∧ t ≤ n ∧ SumM w B (xs ++ docTo n L t) v wr) (fun v _ => match v with | .slice _ len _ => xs.length + 65 - len | _ => 0)
  case atStart => exact ⟨1, by omega, by have := HN.out; omega, hM1⟩
  clear hM1
  case round =>
    obtain ⟨t, ht1, htn, hM⟩ := hrel
    obtain ⟨Av, cv, rfl, hcv⟩ := ownsRow_form hM.own
    by_cases hlt : t < n
    · have hm : (xs ++ docTo n L t).length % 64 ≠ 56 := by
        have := HN.out
        simp; omega
      have hle : (xs ++ docTo n L t).length ≤ 140737488352000 := by
        have := HN.out
        simp; omega
      have hle2 : (xs ++ docTo n L t).length < xs.length + 65 := by
        have := HN.out
        simp; omega
      have hzero : padF n L 8 t = 0#8 := by
        unfold padF
        rw [if_neg (by omega), if_neg (by omega)]
      have hsn : (xs ++ docTo n L t) ++ [0#8] = xs ++ docTo n L (t + 1) := by rw [docTo_succ, hzero, List.append_assoc]
      generalize xs ++ docTo n L t = ys at *
      have HSN := Lib.hid hsn; clear hsn hzero
      have htm : Int.tmod (ys.length : Int) 64 = ((ys.length % 64 : Nat) : Int) := by rw [Int.tmod_eq_emod_of_nonneg (by omega)]; omega
      generalize hr : ys.length % 64 = r at *
      have hrb : ((r : Int) != 56) = true := by simp; omega
      clear hr hm
      go_wp2_with (at_builtin; refine push_own rfl _ _ rfl wr (B + 1) (.slice Av ys.length cv) ys 0#8 rfl rfl hM.own hM.s (by omega) ?_; intro v' W4 hown hb)
      have hM4 := hM.push hb hown
      rw [HSN.out] at hM4
      clear hM hown hb
      go_wp2_with fail
      go_roundw
      case rel => exact ⟨t + 1, by omega, by omega, hM4⟩
      case measure =>
        obtain ⟨Av2, cv2, rfl, _⟩ := ownsRow_form hM4.own
        rw [← HSN.out]
        simp
        omega
    · have htn2 : t = n := by omega
      have hys : xs ++ docTo n L t = xs ++ docTo n L n := by rw [htn2]
      have hmb : (xs ++ docTo n L t).length % 64 = 56 := by
        have := HN.out
        simp; omega
      have htm : Int.tmod ((xs ++ docTo n L t).length : Int) 64 = 56 := by rw [Int.tmod_eq_emod_of_nonneg (by omega)]; omega
      generalize xs ++ docTo n L t = ys at *
      have HYS := Lib.hid hys
      clear htn2 ht1 htn hlt hmb hys hcv
      have hLn : (xs.length : Int) * 8 = (L.toNat : Int) := by
        rw [← HL.out, BitVec.toNat_ofNat]
        omega
      have hLw : (L.toNat : Int) % 18446744073709551616 = (L.toNat : Int) := by
        have := L.isLt
        omega
      go_upto_region 5 with (fail)
      go_wp2_with fail
      go_loopw [3, 5] (fun v i wr => ∃ (k : Nat) (z : Int) (zs : List (BitVec 8)), k ≤ 8 ∧ i = .int .i64 z ∧ z = 7 - (k : Int) ∧ zs = xs ++ docTo n L (n + k) ∧ SumM w B zs v wr) (fun _ i _ => (intOf i + 1).toNat)
      case atStart => exact ⟨0, 7, ys, by omega, rfl, rfl, HYS.out, hM⟩
      clear hM hLw hLn
      case round =>
        obtain ⟨k, z, zs, hk, rfl, hz, hzs, hM⟩ := hrel
        obtain ⟨Av2, cv2, rfl, hcv2⟩ := ownsRow_form hM.own
        have hle2 : zs.length ≤ 140737488352000 := by
          have := HN.out
          rw [hzs]
          simp; omega
        by_cases hlt : k < 8
        · have hze : z = ((7 - k : Nat) : Int) := by omega
          have hpf : padF n L 8 (n + k) = (L >>> (8 * (7 - k))).setWidth 8 := by
            unfold padF
            rw [if_pos (by omega), show 56 - 8 * (n + k - n) = 8 * (7 - k) by omega]
          have hsn : zs ++ [(L >>> (8 * (7 - k))).setWidth 8] = xs ++ docTo n L (n + (k + 1)) := by rw [hzs, ← Nat.add_assoc, docTo_succ, hpf, List.append_assoc]
          have he8 : 7 - k < 8 := by omega
          have hek : (7 : Int) - (k + 1 : Nat) = ((7 - k : Nat) : Int) - 1 := by omega
          generalize 7 - k = e at *
          subst hze
          have HSN := Lib.hid hsn
          have HZS := Lib.hid hzs
          have HEK := Lib.hid hek
          clear hsn hzs hek hz hpf hcv2
          have e0 : (0 : Int) ≤ (e : Int) := by omega
          have e1 : (8 : Int) * (e : Int) = ((8 * e : Nat) : Int) := by omega
          have hby := n8_byte L (8 * e)
          have hs0 : 8 * e < 64 := by omega
          generalize 8 * e = s at *
          go_upto_region 8 with (fail)
          refine wp_region_list ?_
          iterate 21 go_step
          simp only [hby]
          go_wp2_with (at_builtin; refine push_own rfl _ _ rfl wr (B + 1) (.slice Av2 zs.length cv2) zs ((L >>> s).setWidth 8) rfl rfl hM.own hM.s hle2 ?_; intro v4 W4 hown hb)
          have hM4 := hM.push hb hown
          clear hM hown hb hby
          go_wp2_with fail
          go_roundw
          case rel => exact ⟨k + 1, (e : Int) - 1, _, by omega, by go_num, HEK.out.symm, HSN.out, hM4⟩
          case measure => simp [intOf]
        · have hk8 : k = 8 := by omega
          have hz1 : z = -1 := by omega
          have hzs2 : zs = xs ++ docTo n L (n + 8) := by rw [hzs, hk8]
          subst hz1
          clear hz hzs hlt hk hk8
          have hmod : zs.length % 64 = 0 := by
            have := HN.out
            rw [hzs2]
            simp; omega
          have hn2 : 0 < zs.length := by
            rw [hzs2]
            simp; omega
          have HN2 := Lib.hid hn2; clear hn2
          have hdg := HDG.out
          rw [← hzs2] at hdg
          have HDZ := Lib.hid hdg
          clear hdg hzs2 HDG HYS HL HN
          go_upto_region 9 with (fail)
          refine wp_region_list ?_
          refine wpList_build rfl 75 _ rfl #[(0, .int .u32 1779033703), (1, .int .u32 3144134277), (2, .int .u32 1013904242), (3, .int .u32 2773480762), (4, .int .u32 1359893119), (5, .int .u32 2600822924), (6, .int .u32 528734635), (7, .int .u32 1541459225)] (by kernel_rfl) (.agg (arr32 8 iv)) (fun _ => by kernel_rfl) ?_
          refine wpList_alloc_z rfl 75 rfl (Array.replicate 8 (.int .u32 0)) (fun _ => by kernel_rfl) ?_
          refine wpList_store_row rfl 75 _ _ rfl _ (arr32 8 iv) rfl rfl _ _ (heap_alloc_new _ _) (by kernel_rfl) (by simp) (arr32_one _ _) ?_
          rw [alloc_setRow]
          refine wpList_nil ?_
          simp only [Act.put, List.setIfInBounds_toArray, List.set_cons_zero, List.set_cons_succ]
          have hpos := HN2.out
          obtain ⟨g, o, rfl, hgl, hgc⟩ := SlRead.of_own hM.own (by simpa using hpos)
          have hcv3 := hcv2 hpos
          go_upto_region 10 with (fail)
          generalize hH : wr.heap.size = H at *
          refine wp_world (SumH w B H g o zs (feeds h0 (zs.take 0)).s) ?_ ?_
          · refine ⟨hM.b.alloc (by have := hM.s; omega) _, hM.r.alloc _, ?_, fun i u e => ?_, hgl, by have := hM.s; omega⟩
            · exact rowIs_new wr (arr32 8 iv) 75 H 8 _ hH.symm (arr32_size 8 iv) (fun i hi => arr32_get 8 iv i hi)
            · rw [World.cell?_alloc_lt _ _ _ (by rw [hH]; exact hgl)]
              refine hgc i _ ?_
              rw [bys_ints]
              simp [e]
          clear hM hgl hgc hcv2 hH
          rintro W3 hS
          go_wp2_with fail
          go_loopw [7] (fun i wr => ∃ p k : Nat, p = 64 * k ∧ p ≤ zs.length ∧ i = .int .i64 p ∧ SumH w B H g o zs (feeds h0 (zs.take p)).s wr) (fun i _ => zs.length + 64 - (intOf i).toNat)
          case atStart => exact ⟨0, 0, rfl, by omega, rfl, hS⟩
          clear hS
          case round =>
            obtain ⟨p, k, hp, hpl, rfl, hS⟩ := hrel
            by_cases hlt3 : p < zs.length
            · have hp64 : p + 64 ≤ zs.length := by omega
              obtain ⟨m, hm, hst⟩ := feeds_block zs p (by omega) hp64
              have hsl := slice_sl_lh (P := Tryd.prog) Tryd.underlying24 (show (Tryd.prog.info? 5).map (·.size) = some 1 by kernel_rfl) g o zs.length cv2 p 64 hp64 hcv3 hlt3
              have hgH := hS.l.1
              have hHs := hS.h.lt
              have hrd := round_any (feeds h0 (zs.take p)).s g (o + p) m (cv2 - p) wr.drew (fun i hi => by rw [Nat.add_assoc]; exact hS.c (p + i) _ (hm i hi)) (Nat.lt_trans hgH hHs)
              rw [← hst] at hrd
              have hh : wr.drew.heap[H]? = some (.cells (arr32 8 (feeds h0 (zs.take p)).s) 75 (0, 0)) := rowIs_heap32 hS.h
              have hSd : ∀ w', Below wr.heap.size wr.drew w' → SumH w B H g o zs (feeds h0 (zs.take p)).s w' := fun w' hb => hS.below ((Below.refl _ _).drew.trans hb)
              clear hS hm hst
              generalize feeds h0 (zs.take p) = F at *
              generalize hF2 : feeds h0 (zs.take (p + 64)) = F2 at *
              have HF2 := Lib.hid hF2; clear hF2
              have HP := Lib.hid hp; clear hp
              go_upto_region 13 with (fail)
              refine wp_region_still_tail 6 (by kernel_rfl) (by kernel_rfl) ?_
              simp only [List.take_succ_cons, List.take_zero, List.drop_succ_cons, List.drop_zero]
              refine wpStill_load_row rfl 75 _ rfl _ rfl _ _ _ _ hh Tryd.underlying75 rfl (by kernel_rfl) ?_
              repeat still_step
              refine wpStill_slice rfl 24 5 Tryd.underlying24 _ _ _ rfl (.slice (some ⟨g, o, none⟩) zs.length cv2) (.int .i64 (p : Int)) (.int .i64 ((p : Int) + 64)) _ (by rfl) (by rfl) (by show Value.int .i64 (IntKind.i64.wrap ((p : Int) + 64)) = _; rw [IntWalk.i64_in _ (by omega)]) (hsl _) ?_
              refine wpStill_nil ?_
              change wpList _ _ _ _ _ wr.drew
              go_wp2_with fail
              refine hrd.mono ?_
              rintro e W5 ⟨rfl, hb5⟩
              have hS5 := hSd W5 hb5
              have hh5 := rowIs_heap32 hS5.h
              have hS6 := hS5.set F2.s
              rw [HF2.out.symm] at hS6
              clear hh hS5 hrd hSd hb5 hsl
              go_wp2_with (refine wpList_store_row rfl 75 _ _ rfl _ (arr32 8 F2.s) rfl rfl _ _ hh5 (by kernel_rfl) (by simp) (arr32_one _ _) ?_)
              go_roundw
              case rel => exact ⟨p + 64, k + 1, by have := HP.out; omega, by omega, by go_num, by rw [HF2.out.symm]; exact hS6⟩
              case measure => simp [intOf]; omega
            · have hpz : zs.take p = zs := List.take_of_length_le (by omega)
              rw [hpz] at hS
              have hdk : decide ((p : Int) < (zs.length : Int)) = false := by simp; omega
              clear hpz hp
              have hdz := HDZ.out
              generalize (feeds h0 zs).s = S at *
              have HDG := Lib.hid hdz
              clear hdz HDZ HN2 hmod hcv3 hle2
              have hHs := hS.h.lt
              go_upto_region 15 with (refine wpList_alloc_z rfl 26 rfl (Array.replicate 32 (.int .u8 0)) (fun _ => by kernel_rfl) ?_)
              generalize hD : wr.heap.size = D at *
              refine wp_world (fun W => Below B w W ∧ W.rowIs B 26 32 (fun _ => .int .u8 0) ∧ W.rowIs H 75 8 (fun i => v32 (S i)) ∧ W.rowIs D 26 32 (fun i => v8 (outUp S 0 i))) ?_ ?_
              · have hl := hS.l
                refine ⟨hS.b.alloc (by omega) _, hS.r.alloc _, hS.h.alloc _, ?_⟩
                exact rowIs_new wr (Array.replicate 32 (.int .u8 0)) 26 D 32 _ hD.symm (by simp) (fun i hi => by simp [hi, outUp, n32])
              have hBH := hS.l.2
              clear hS hD
              rintro W6 ⟨hb, hr0, hrh, hrd⟩
              go_wp2_with fail
              go_loopw [9] (fun i wr => ∃ k : Nat, k ≤ 32 ∧ i = .int .i64 k ∧ Below B w wr ∧ wr.rowIs B 26 32 (fun _ => .int .u8 0) ∧ wr.rowIs H 75 8 (fun i => v32 (S i)) ∧ wr.rowIs D 26 32 (fun i => v8 (outUp S k i))) (fun i _ => 32 - (intOf i).toNat)
              case atStart => exact ⟨0, by omega, rfl, hb, hr0, hrh, hrd⟩
              clear hb hr0 hrh hrd
              case round =>
                obtain ⟨k, hk, rfl, hb, hr0, hrh, hrd⟩ := hrel
                by_cases hlt4 : k < 32
                · have htd : Int.tdiv (k : Int) 4 = ((k / 4 : Nat) : Int) := by rw [Int.tdiv_eq_ediv_of_nonneg (by omega)]; omega
                  have htm : Int.tmod (k : Int) 4 = ((k % 4 : Nat) : Int) := by rw [Int.tmod_eq_emod_of_nonneg (by omega)]; omega
                  have hout : outB S k = (S (k / 4) >>> (24 - 8 * (k % 4))).setWidth 8 := rfl
                  have h8 : (8 : Int) * ((k % 4 : Nat) : Int) = ((8 * (k % 4) : Nat) : Int) := by omega
                  have h24 : (24 : Int) - ((8 * (k % 4) : Nat) : Int) = ((24 - 8 * (k % 4) : Nat) : Int) := by omega
                  have hq8 : k / 4 < 8 := by omega
                  have hs24 : 24 - 8 * (k % 4) < 32 := by omega
                  generalize 24 - 8 * (k % 4) = s at *
                  generalize 8 * (k % 4) = r8 at *
                  generalize hr4 : k % 4 = r4 at *
                  have hr44 : r4 < 4 := by omega
                  clear hr4
                  generalize k / 4 = q at *
                  have HO := Lib.hid hout; clear hout
                  have cq := hrh.cell (i := q) hq8
                  have fz := hrd.frozen k
                  have cz := hrd.cell (i := k) hlt4
                  have hq0 : (q : Int) < 8 := by omega
                  have hk0 : (k : Int) < 32 := by omega
                  have hby : n32 (S q) / 2 ^ s % 256 = n8 ((S q >>> s).setWidth 8) := by
                    have := n32_byte (S q) s
                    simpa using this
                  go_wp2_with fail
                  go_roundw
                  case rel =>
                    refine ⟨k + 1, by omega, by go_num, hb.setCell (by simp only; omega) _, hr0.setOther (by simp only; omega) _, hrh.setOther (by simp only; omega) _, ?_⟩
                    refine (hrd.set k _).congr fun j hj => ?_
                    unfold outUp
                    by_cases e : j = k
                    · rw [if_pos e, e, if_pos (by omega), HO.out]
                    · rw [if_neg e]
                      by_cases e2 : j < k
                      · rw [if_pos e2, if_pos (by omega)]
                      · rw [if_neg e2, if_neg (by omega)]
                  case measure => simp [intOf]; omega
                · have hk32 : k = 32 := by omega
                  have hdk : decide ((k : Int) < 32) = false := by simp; omega
                  have hrd2 := hrd.congr (g := fun i => v8 (outB S i)) fun i hi => by unfold outUp; rw [if_pos (by omega)]
                  have hhD := rowIs_heap8 hrd2
                  obtain ⟨old, hro1, hro2, _⟩ := hr0
                  have hbb := below_setRow (g := B) hb (by omega) (arr8 32 (outB S))
                  have hres : (wr.setRow B (arr8 32 (outB S))).heap[B]? = some (.cells (arr8 32 (outB S)) 26 (0, 0)) := setRow_heap _ _ _ _ _ _ hro1
                  clear hk32 hrd hrd2 hrh hb
                  go_wp2_with (first | (refine wpList_load_row rfl 26 _ rfl _ rfl _ _ _ _ hhD Tryd.underlying26 rfl (by kernel_rfl) ?_) | (refine wpList_store_row rfl 26 _ _ rfl _ _ rfl rfl _ _ hro1 (by kernel_rfl) (by simpa using hro2) (arr8_one _ _) ?_))
                  refine bodyPost_ret (results_cell_row rfl _ _ _ _ _ _ _ rfl hres Tryd.underlying26 rfl (by kernel_rfl)) rfl ?_
                  rw [HDG.out, HB.out]
                  exact ⟨rfl, hbb⟩
end Go.Proofs.YtegijahkiopncaaDoor
