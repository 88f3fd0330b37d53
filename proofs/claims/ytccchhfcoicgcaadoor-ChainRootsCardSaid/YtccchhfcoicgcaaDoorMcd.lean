import Derived.Test.YtccchhfcoicgcaaDoorDer
import Derived.Test.YtccchhfcoicgcaaDoorRsm
import Derived.Maps.AppendAt
namespace Go.Proofs.YtccchhfcoicgcaaDoor
open Go.RowKit

/-- two rows of one's own lie apart -/
def Apart (v u : Value) : Prop := v.ownBlock = none ∨ u.ownBlock = none ∨ v.ownBlock ≠ u.ownBlock
theorem Apart.symm {v u : Value} (h : Apart v u) : Apart u v := by
  rcases h with h | h | h
  · exact .inr (.inl h)
  · exact .inl h
  · exact .inr (.inr h.symm)

theorem run_append_none0 {P : Program} (w : World) (base : Nat) (t ty e : TypeId) (i : TypeInfo) (size : Nat) (ht : P.underlying t = some (.slice e)) (hi : P.info? e = some i)
    (v : Value) (n : Nat) (xs : List Value) (hown : w.ownsRow base e size v n xs) (c : Nat) : (Builtin.append_ #[t, t] ty #[v, .slice none 0 c]).run P w = .ok v w := by
  rcases hown.2 with ⟨rfl, rfl⟩ | ⟨g, cap, cur, rfl, _, _, hnc, _⟩
  · simp [Builtin.append_, run_underlying ht, sizeOf, typeInfo, hi, Builtin.lenOf, Builtin.firstCells]
  · simp [Builtin.append_, run_underlying ht, sizeOf, typeInfo, hi, Builtin.lenOf, Builtin.firstCells, hnc, storeCells]

/-- bytes appended to a row of one's own: where the new row lies, too -/
theorem push_many {ops : Array Oper} {rest : List Oper} {o : Oper} {a : Act} {Q : Exit → Act → World → Prop} (hgd : o.guard = none) (s x : Operand)
    (ho : o.op = .call { callee := .builtin .append, args := #[s, x], argTypes := #[33, 33] }) (W : World) (base : Nat) (v : Value) (xs : List (BitVec 8)) (B : Option Addr) (ys : List (BitVec 8)) (cb : Nat)
    (hs : a.eval s = v) (hx : a.eval x = .slice B ys.length cb) (hown : W.ownsRow base 5 1 v xs.length (ints .u8 (bys xs))) (hB : SlRead W B (ints .u8 (bys ys))) (hbase : base ≤ W.heap.size) (hl : xs.length + ys.length ≤ 140737488352000)
    (h : ∀ v' w', w'.ownsRow base 5 1 v' (xs ++ ys).length (ints .u8 (bys (xs ++ ys))) → Below base W w' → W.grownBy w' v.ownBlock → (v'.ownBlock = v.ownBlock ∨ ∃ g, v'.ownBlock = some g ∧ W.heap.size ≤ g) → wpList Tryd.prog ops Q rest (a.put o.dst v') w') :
    wpList Tryd.prog ops Q (o :: rest) a W := by
  obtain ⟨i0, hi, hz0, hz1, hz2⟩ := info_parts Tryd.info5
  have e : ints .u8 (bys xs) ++ ints .u8 (bys ys) = ints .u8 (bys (xs ++ ys)) := by simp [ints, bys]
  cases B with
  | none =>
    have hy : ys = [] := by
      rcases ys with _ | ⟨y, r⟩
      · rfl
      · obtain ⟨b, o', e1, _⟩ := hB (by simp)
        cases e1
    subst hy
    refine wpList_plain hgd fun K hK => ?_
    have hr := run_append_none0 W base 33 o.type 5 i0 1 Tryd.underlying33 hi v _ _ hown cb
    unfold Oper.wp execOp
    simp only [List.length_nil] at hx
    simp only [ho, resolve, invoke, builtin, Sem.run_bind, Sem.run_pure, Result.andThen_ok, List.map_toArray, List.map_cons, List.map_nil, hs, hx, hr]
    exact hK _ _ (h v W (by simpa using hown) (Below.refl _ _) ⟨rfl, rfl, rfl, Nat.le_refl _, fun _ _ _ => rfl⟩ (.inl rfl))
  | some ad =>
    refine wpList_append_own_at _ hgd s x 33 ho base 5 i0 (.int .u8 0) 1 1 Tryd.underlying33 hi hz0 hz1 hz2 rfl (by decide) v _ _ hs hown ad ys.length cb (ints .u8 (bys ys)) hx (by simp) ?_ (ints_one .u8 _) ?_ ?_ hbase ?_
    · intro j u hu
      have hn : 0 < (ints .u8 (bys ys)).length := by
        have := (List.getElem?_eq_some_iff.1 hu).1
        omega
      obtain ⟨b', o', e1, _, hc⟩ := hB hn
      obtain rfl : ad = ⟨b', o', none⟩ := by simpa using e1
      rw [add_eq]
      exact hc j u hu
    · unfold maxLen; omega
    · omega
    · intro v' w2 hown2 hgrow2 _ hat
      rw [e] at hown2
      refine h v' w2 (by simpa using hown2) ((Below.refl _ _).grown hgrow2 hbase (fun j hj => (hown.lt j hj).1)) hgrow2 ?_
      rcases hat with h1 | h1
      · exact .inl h1
      · exact .inr ⟨_, h1, Nat.le_refl _⟩

/-- one byte -/
theorem push_one {ops : Array Oper} {rest : List Oper} {o : Oper} {a : Act} {Q : Exit → Act → World → Prop} (hgd : o.guard = none) (s x : Operand)
    (ho : o.op = .call { callee := .builtin .append, args := #[s, x], argTypes := #[33, 33] }) (W : World) (base : Nat) (v : Value) (xs : List (BitVec 8)) (y : BitVec 8)
    (hs : a.eval s = v) (hx : a.eval x = .slice (some ⟨W.heap.size, 0, none⟩) 1 1) (hown : W.ownsRow base 5 1 v xs.length (ints .u8 (bys xs))) (hbase : base ≤ W.heap.size) (hl : xs.length ≤ 140737488351900)
    (h : ∀ v' w', w'.ownsRow base 5 1 v' (xs ++ [y]).length (ints .u8 (bys (xs ++ [y]))) → Below base W w' → W.grownBy w' v.ownBlock → (v'.ownBlock = v.ownBlock ∨ ∃ g, v'.ownBlock = some g ∧ W.heap.size ≤ g) → wpList Tryd.prog ops Q rest (a.put o.dst v') w') :
    wpList Tryd.prog ops Q (o :: rest) a (W.alloc (.cells #[.int .u8 (n8 y)] 5)) := by
  refine push_many hgd s x ho _ base v xs (some ⟨W.heap.size, 0, none⟩) [y] 1 hs hx (hown.alloc _) (SlRead.one_new _ _) (by simp; omega) (by simp; omega) ?_
  intro v' w' h1 h2 h3 h4
  refine h v' w' h1 (((Below.refl _ _).alloc hbase _).trans h2) ((World.grownBy_alloc W _ v.ownBlock).trans h3) ?_
  rcases h4 with h4 | ⟨g, h4, h5⟩
  · exact .inl h4
  · exact .inr ⟨g, h4, by simp at h5; omega⟩

/-- two lists that grow side by side -/
structure TwoOwn (base : Nat) (v : Value) (xs : List (BitVec 8)) (u : Value) (ys : List (BitVec 8)) (W : World) : Prop where
  x : W.ownsRow base 5 1 v xs.length (ints .u8 (bys xs))
  y : W.ownsRow base 5 1 u ys.length (ints .u8 (bys ys))
  a : Apart v u
theorem TwoOwn.swap {base : Nat} {v u : Value} {xs ys : List (BitVec 8)} {W : World} (h : TwoOwn base v xs u ys W) : TwoOwn base u ys v xs W := ⟨h.y, h.x, h.a.symm⟩
theorem TwoOwn.grow {base : Nat} {v v' u : Value} {xs xs' ys : List (BitVec 8)} {W W' : World} (h : TwoOwn base v xs u ys W) (h1 : W'.ownsRow base 5 1 v' xs'.length (ints .u8 (bys xs'))) (hg : W.grownBy W' v.ownBlock)
    (hat : v'.ownBlock = v.ownBlock ∨ ∃ g, v'.ownBlock = some g ∧ W.heap.size ≤ g) : TwoOwn base v' xs' u ys W' := by
  refine ⟨h1, h.y.kept hg ?_, ?_⟩
  · rcases h.a with h2 | h2 | h2
    · cases hu : u.ownBlock with
      | none => exact .inl rfl
      | some g => right; rw [h2]; simp
    · exact .inl h2
    · exact .inr h2.symm
  · rcases hat with h2 | ⟨g, h2, h3⟩
    · unfold Apart; rw [h2]; exact h.a
    · cases hu : u.ownBlock with
      | none => exact .inr (.inl hu)
      | some j =>
        right; right
        rw [h2, hu]
        have := (h.y.lt j hu).2
        simp; omega
theorem ownsRow_base {w : World} {base base' : Nat} {e : TypeId} {size : Nat} {v : Value} {n : Nat} {xs : List Value} (h : w.ownsRow base' e size v n xs) (hb : base ≤ base') : w.ownsRow base e size v n xs := by
  obtain ⟨h1, h2⟩ := h
  refine ⟨h1, ?_⟩
  rcases h2 with h2 | ⟨g, cap, cur, e1, e2, e3⟩
  · exact .inl h2
  · exact .inr ⟨g, cap, cur, e1, Nat.le_trans hb e2, e3⟩
theorem lst_snoc (n : Nat) (f : Nat → BitVec 8) : lst (n + 1) f = lst n f ++ [f n] := by simp [lst, List.range_succ]
def kd (ks : List (BitVec 8)) (i : Nat) : BitVec 8 := (keyOf ks).getD i 0#8

/-- the document's Mac: the key's list, and all else -/
structure MacM (w : World) (B0 : Nat) (kk : List (BitVec 8)) (v : Value) (W : World) : Prop where
  own : W.ownsRow (B0 + 1) 5 1 v kk.length (ints .u8 (bys kk))
  b : Below B0 w W
  r : W.rowIs B0 31 32 (fun _ => .int .u8 0)
  s : B0 + 1 ≤ W.heap.size

set_option maxRecDepth 100000 in
set_option maxHeartbeats 3200000 in
theorem dmac_any (A : Option Addr) (ks : List (BitVec 8)) (ca : Nat) (B : Option Addr) (ys : List (BitVec 8)) (cb : Nat) (w : World) (hA : SlRead w A (ints .u8 (bys ks))) (hlk : ks.length ≤ 140737488351232)
    (hB : SlRead w B (ints .u8 (bys ys))) (hly : ys.length ≤ 140737488351000) :
    Calls Tryd.prog 13 #[.slice A ks.length ca, .slice B ys.length cb] w fun e w' => e = .returned (.agg (arr8 32 (macOf ks ys))) ∧ Below w.heap.size w w' := by
  go_enter Tryd.func13, Tryd.ntmps13
  go_upto_region 1 with (fail)
  refine wp_world (fun W => Below w.heap.size w W ∧ W.heap.size = w.heap.size + 1 ∧ W.rowIs w.heap.size 31 32 (fun _ => .int .u8 0)) ?_ ?_
  · refine ⟨by go_grown, by simp, ?_⟩
    exact rowIs_new w (Array.replicate 32 (.int .u8 0)) 31 w.heap.size 32 (fun _ => .int .u8 0) rfl (by simp) (fun i hi => by simp [hi])
  rintro W1 ⟨hb1, hs1, hr1⟩
  have hby := bytes_any A (bys ks) ca W1 (hA.below hb1) (by simpa using hlk)
  rw [bys_length] at hby

  have HS := Lib.hid hs1; clear hs1
  go_wp2_with fail
  refine hby.mono ?_
  rintro e W2 ⟨v, rfl, hown, hb2⟩
  have hs1 := HS.out

  rw [hs1] at hown hb2
  have hM : MacM w w.heap.size ks v W2 := ⟨hown, hb1.trans (hb2.mono (by omega)), hr1.of_block (hb2.block _ (by omega)), by rw [← hs1]; exact hb2.size⟩
  clear hby hown hb1 hr1 hb2 HS hs1 W1 hA
  generalize hB0 : w.heap.size = B0 at *
  have HB := Lib.hid hB0; clear hB0
  obtain ⟨Ak, ck, rfl, hck⟩ := ownsRow_form hM.own
  have hkl := keyOf_len ks
  have hmo : macOf ks ys = shaOf (lst 64 (outP ks) ++ lst 32 (shaOf (lst 64 (inP ks) ++ ys))) := rfl
  have HMO := Lib.hid hmo; clear hmo
  have hin : ∀ j, inP ks j = kd ks j ^^^ 54#8 := fun _ => rfl
  have hout : ∀ j, outP ks j = kd ks j ^^^ 92#8 := fun _ => rfl
  have HIN := Lib.hid hin; have HOUT := Lib.hid hout; clear hin hout
  by_cases h64 : 64 < ks.length
  · have hb64 : decide ((64 : Int) < (ks.length : Int)) = true := by simp; omega
    have hke : keyOf ks = lst 32 (shaOf ks) := by unfold keyOf; rw [if_pos h64]
    go_wp2_with fail
    refine (dsum_any Ak ks ck W2 (SlRead.of_own hM.own) (by omega)).mono ?_
    rintro e W3 ⟨rfl, hb3⟩
    have hMb := hM.b.trans (hb3.mono (by have := hM.s; omega))
    have hMr := hM.r.of_block (hb3.block _ hM.r.lt)
    have hMs := Nat.le_trans hM.s hb3.size
    clear hM hb3
    go_upto_region 4 with (first | (refine wpList_store_row rfl 31 _ _ rfl _ _ rfl rfl _ _ (heap_alloc_new _ _) (by kernel_rfl) (by simp) (arr8_one _ _) ?_; rw [alloc_setRow]))
    generalize hG : W3.heap.size = G at *
    have hg4 : (W3.alloc (.cells (arr8 32 (shaOf ks)) 31)).rowIs G 31 32 (fun i => v8 (shaOf ks i)) := rowIs_new _ _ _ _ _ _ hG.symm (by simp) (fun i hi => arr8_get 32 _ i hi)
    have hb4 : Below W3.heap.size W3 (W3.alloc (.cells (arr8 32 (shaOf ks)) 31)) := (Below.refl _ _).alloc (Nat.le_refl _) _
    generalize W3.alloc (.cells (arr8 32 (shaOf ks)) 31) = W4 at *
    have hMb4 := hMb.trans (hb4.mono (by omega))
    have hMr4 := hMr.of_block (hb4.block _ (by omega))
    have hMs4 : B0 + 1 ≤ W4.heap.size := by have := hb4.size; omega
    have hslG := fun w' => sliceAt_arr (P := Tryd.prog) 32 Tryd.underlying31 (show (Tryd.prog.info? 5).map (·.size) = some 1 by kernel_rfl) G (by omega) w'
    have hby := bytes_any (some ⟨G, 0, none⟩) (bys (lst 32 (shaOf ks))) 32 W4 (slread_row hg4) (by simp)
    rw [bys_length, lst_length] at hby
    clear hMb hMr hMs hb4 hG hg4
    go_wp2_with fail
    refine hby.mono ?_
    rintro e W5 ⟨v, rfl, hown, hb5⟩
    have hM : MacM w B0 (keyOf ks) v W5 := by
      rw [hke]
      exact ⟨ownsRow_base (by simpa using hown) hMs4, hMb4.trans (hb5.mono (by omega)), hMr4.of_block (hb5.block _ (by omega)), Nat.le_trans hMs4 hb5.size⟩
    clear hby hown hb5 hMb4 hMr4 hMs4 hslG hck hke hb64 h64
    generalize W5 = W2 at *
    go_wp2_with fail
    go_loopw [5] (fun v wr => ∃ t : Nat, (keyOf ks).length + t ≤ 64 ∧ MacM w B0 (keyOf ks ++ List.replicate t 0#8) v wr) (fun v _ => match v with | .slice _ len _ => 64 - len | _ => 0)
    case atStart => exact ⟨0, by omega, by simpa using hM⟩
    clear hM
    case round =>
      obtain ⟨t, ht, hM⟩ := hrel
      obtain ⟨Av, cv, rfl, hcv⟩ := ownsRow_form hM.own
      have hll : (keyOf ks ++ List.replicate t 0#8).length = (keyOf ks).length + t := by simp
      by_cases hlt : (keyOf ks).length + t < 64
      · have hsn : (keyOf ks ++ List.replicate t 0#8) ++ [0#8] = keyOf ks ++ List.replicate (t + 1) 0#8 := by rw [List.append_assoc, ← List.replicate_succ']
        generalize keyOf ks ++ List.replicate t 0#8 = kk at *
        have HSN := Lib.hid hsn; clear hsn
        have hlt2 : decide ((kk.length : Int) < 64) = true := by simp; omega
        have hk63 : kk.length < 64 := by omega
        clear hll
        go_wp2_with (at_builtin; refine push_one rfl _ _ rfl wr (B0 + 1) (.slice Av kk.length cv) kk 0#8 rfl rfl hM.own hM.s (by omega) ?_; intro v' W4 hown hb hg hat)
        have hM4 : MacM w B0 (kk ++ [0#8]) v' W4 := ⟨hown, hM.b.trans (hb.mono (by omega)), hM.r.of_block (hb.block _ (by omega)), Nat.le_trans hM.s hb.size⟩
        clear hM hown hb hg hat
        go_wp2_with fail
        go_roundw
        case rel => exact ⟨t + 1, by omega, by rw [← HSN.out]; exact hM4⟩
        case measure =>
          obtain ⟨Av2, cv2, rfl, _⟩ := ownsRow_form hM4.own
          simp only [List.length_append, List.length_singleton]
          omega
      · have hk64 : (keyOf ks ++ List.replicate t 0#8).length = 64 := by omega
        have hkget : ∀ j, j < 64 → (keyOf ks ++ List.replicate t 0#8)[j]? = some (kd ks j) := by
          intro j hj
          unfold kd
          rw [List.getD_eq_getElem?_getD]
          by_cases hjl : j < (keyOf ks).length
          · rw [List.getElem?_append_left hjl, List.getElem?_eq_getElem hjl]; rfl
          · rw [List.getElem?_append_right (by omega), List.getElem?_eq_none (l := keyOf ks) (by omega), List.getElem?_replicate, if_pos (by omega)]; rfl
        generalize keyOf ks ++ List.replicate t 0#8 = kk at *
        obtain ⟨b, o, e, hbl, hc⟩ := SlRead.of_own hM.own (by simp; omega)
        subst e
        have hcc : ∀ j, j < 64 → wr.cell? ⟨b, o + j, none⟩ = some (v8 (kd ks j)) := fun j hj => hc j _ (by rw [bys_ints]; simp [hkget j hj])
        have hlt2 : decide ((kk.length : Int) < 64) = false := by simp; omega
        have HK := Lib.hid hk64
        clear hc hkget hll hlt ht hk64
        have hMb := hM.b
        have hMr := hM.r
        have hMs := hM.s
        clear hM
        generalize wr = W7 at *
        generalize hBB : W7.heap.size = BB at *
        have HBB := Lib.hid hBB; clear hBB
        go_wp2_with fail
        go_loopw [7, 8, 9] (fun vi vo i wx => ∃ j : Nat, j ≤ 64 ∧ i = .int .i64 j ∧ TwoOwn BB vi (lst j (inP ks)) vo (lst j (outP ks)) wx ∧ Below BB W7 wx) (fun _ _ i _ => 64 - (intOf i).toNat)
        case atStart => exact ⟨0, by omega, rfl, ⟨World.ownsRow_nil _ _ _ _, World.ownsRow_nil _ _ _ _, .inl rfl⟩, Below.refl _ _⟩
        case round =>
          obtain ⟨j, hj, rfl, hT, hb⟩ := hrel
          obtain ⟨Ai, ci, rfl, hci⟩ := ownsRow_form hT.x
          obtain ⟨Ao, co, rfl, hco⟩ := ownsRow_form hT.y
          have hBx : BB ≤ wr.heap.size := by have := hb.size; have := HBB.out; omega
          have hl1 := lst_length j (inP ks)
          have hl2 := lst_length j (outP ks)
          by_cases hlt3 : j < 64
          · have c1 : wr.cell? ⟨b, o + j, none⟩ = some (v8 (kd ks j)) := (World.cell?_of_block (hb.block b hbl)).trans (hcc j hlt3)
            have e1 : bits .xor .u8 (n8 (kd ks j)) 54 = n8 (inP ks j) := by rw [HIN.out]; exact n8_xor _ 54#8
            have e2 : bits .xor .u8 (n8 (kd ks j)) 92 = n8 (outP ks j) := by rw [HOUT.out]; exact n8_xor _ 92#8
            have s1 := lst_snoc j (inP ks)
            have s2 := lst_snoc j (outP ks)
            generalize lst j (inP ks) = Li at *
            generalize lst j (outP ks) = Lo at *
            have HL1 := Lib.hid hl1; have HL2 := Lib.hid hl2; have HS1 := Lib.hid s1; have HS2 := Lib.hid s2
            clear hl1 hl2 s1 s2
            have hj0 : (j : Int) < (kk.length : Int) := by have := HK.out; omega
            go_upto_region 12 with (at_builtin; refine push_one rfl _ _ rfl wr BB (.slice Ai Li.length ci) Li (inP ks j) rfl rfl hT.x hBx (by have := HL1.out; omega) ?_; intro v1 W8 hown hbb hg hat)
            have hT8 := hT.grow hown hg hat
            have hb8 := hb.trans hbb
            have c2 : W8.cell? ⟨b, o + j, none⟩ = some (v8 (kd ks j)) := (World.cell?_of_block (hb8.block b hbl)).trans (hcc j hlt3)
            have hBx8 : BB ≤ W8.heap.size := Nat.le_trans hBx hbb.size
            clear hT hown hg hat hbb hb c1 hBx
            go_wp2_with (at_builtin; refine push_one rfl _ _ rfl W8 BB (.slice Ao Lo.length co) Lo (outP ks j) rfl rfl hT8.y hBx8 (by have := HL2.out; omega) ?_; intro v2 W9 hown hbb hg hat)
            have hT9 := (hT8.swap.grow hown hg hat).swap
            have hb9 := hb8.trans hbb
            clear hT8 hown hg hat hbb hb8 c2 hBx8
            go_wp2_with fail
            go_roundw
            case rel => exact ⟨j + 1, by omega, by go_num, by rw [HS1.out, HS2.out]; exact hT9, hb9⟩
            case measure => simp [intOf]; omega
          · have hj64 : j = 64 := by omega
            have hdk : decide ((j : Int) < 64) = false := by simp; omega
            have hmo := HMO.out
            have hx1 : lst j (inP ks) = lst 64 (inP ks) := by rw [hj64]
            have hx2 : lst j (outP ks) = lst 64 (outP ks) := by rw [hj64]
            rw [← hx1, ← hx2] at hmo
            clear hx1 hx2 hlt3
            generalize lst j (inP ks) = Li at *
            generalize lst j (outP ks) = Lo at *
            generalize hF1 : shaOf (Li ++ ys) = F1 at *
            generalize hF2 : shaOf (Lo ++ lst 32 F1) = F2 at *
            have HF1 := Lib.hid hF1; have HF2 := Lib.hid hF2; have HM := Lib.hid hmo; have HL1 := Lib.hid hl1; have HL2 := Lib.hid hl2
            clear hF1 hF2 hmo hl1 hl2 hcc
            have hBr : SlRead wr B (ints .u8 (bys ys)) := hB.below (by rw [HB.out]; exact hMb.trans (hb.mono (by omega)))
            go_upto_region 14 with (first | (at_builtin; refine push_many rfl _ _ rfl wr BB (.slice Ai Li.length ci) Li B ys cb rfl rfl hT.x hBr hBx (by have := HL1.out; omega) ?_; intro v1 W8 hown hbb hg hat))
            have hT8 := hT.grow hown hg hat
            have hb8 := hb.trans hbb
            have hBx8 : BB ≤ W8.heap.size := Nat.le_trans hBx hbb.size
            obtain ⟨A8, c8, rfl, _⟩ := ownsRow_form hown
            have hds := dsum_any A8 (Li ++ ys) c8 W8 (SlRead.of_own hown) (by have := HL1.out; simp; omega)
            rw [HF1.out] at hds
            clear hT hown hg hat hbb hb hBx hBr
            refine hds.mono ?_
            rintro e W9 ⟨rfl, hb9⟩
            have hb9' := hb8.trans (hb9.mono hBx8)
            have ho9 := ownsRow_via hT8.y (fun g _ hl => hb9.block g hl)
            have hBx9 : BB ≤ W9.heap.size := Nat.le_trans hBx8 hb9.size
            clear hds hb9 hb8 hT8 hBx8
            go_upto_region 14 with (first | (refine wpList_store_row rfl 31 _ _ rfl _ _ rfl rfl _ _ (heap_alloc_new _ _) (by kernel_rfl) (by simp) (arr8_one _ _) ?_; rw [alloc_setRow]))
            generalize hG2 : W9.heap.size = G2 at *
            have hg10 : (W9.alloc (.cells (arr8 32 F1) 31)).rowIs G2 31 32 (fun i => v8 (F1 i)) := rowIs_new _ _ _ _ _ _ hG2.symm (by simp) (fun i hi => arr8_get 32 _ i hi)
            have ho10 := ho9.alloc (.cells (arr8 32 F1) 31)
            have hb10 := hb9'.alloc (by rw [hG2]; exact hBx9) (.cells (arr8 32 F1) 31)
            generalize W9.alloc (.cells (arr8 32 F1) 31) = W10 at *
            have hBx10 : BB ≤ W10.heap.size := Nat.le_trans hBx9 (Nat.le_of_lt hg10.lt)
            have hslG2 := fun w' => sliceAt_arr (P := Tryd.prog) 32 Tryd.underlying31 (show (Tryd.prog.info? 5).map (·.size) = some 1 by kernel_rfl) G2 (by omega) w'
            have hS10 := slread_row hg10
            clear hb9' ho9 hG2 hg10 hBx9
            go_wp2_with (first | (at_builtin; refine push_many rfl _ _ rfl W10 BB (.slice Ao Lo.length co) Lo (some ⟨G2, 0, none⟩) (lst 32 F1) 32 rfl rfl ho10 hS10 hBx10 (by have := HL2.out; simp; omega) ?_; intro v3 W11 hown hbb hg hat))
            obtain ⟨A11, c11, rfl, _⟩ := ownsRow_form hown
            have hds := dsum_any A11 (Lo ++ lst 32 F1) c11 W11 (SlRead.of_own hown) (by have := HL2.out; simp; omega)
            rw [HF2.out] at hds
            have hb11 := hb10.trans hbb
            have hBx11 : BB ≤ W11.heap.size := Nat.le_trans hBx10 hbb.size
            clear hown hbb hg hat hb10 ho10 hS10 hBx10 hslG2
            refine hds.mono ?_
            rintro e W12 ⟨rfl, hb12⟩
            have hb12' := hb11.trans (hb12.mono hBx11)
            obtain ⟨old, hro1, hro2, _⟩ := hMr.of_block (hb12'.block B0 (by omega))
            have hbw := hMb.trans (hb12'.mono (by omega))
            have hbb := below_setRow (g := B0) hbw (Nat.le_refl _) (arr8 32 F2)
            have hres : (W12.setRow B0 (arr8 32 F2)).heap[B0]? = some (.cells (arr8 32 F2) 31 (0, 0)) := setRow_heap _ _ _ _ _ _ hro1
            clear hds hb11 hb12 hb12' hbw hBx11
            go_wp2_with (first | (refine wpList_store_row rfl 31 _ _ rfl _ _ rfl rfl _ _ hro1 (by kernel_rfl) (by simpa using hro2) (arr8_one _ _) ?_))
            refine bodyPost_ret (results_cell_row rfl _ _ _ _ _ _ _ rfl hres Tryd.underlying31 rfl (by kernel_rfl)) rfl ?_
            rw [HM.out, HB.out]
            exact ⟨rfl, hbb⟩
  · have hb64 : decide ((64 : Int) < (ks.length : Int)) = false := by simp; omega
    have hke : keyOf ks = ks := by unfold keyOf; rw [if_neg h64]
    have hM : MacM w B0 (keyOf ks) (.slice Ak ks.length ck) W2 := by rw [hke]; exact hM
    go_wp2_with fail
    go_loopw [5] (fun v wr => ∃ t : Nat, (keyOf ks).length + t ≤ 64 ∧ MacM w B0 (keyOf ks ++ List.replicate t 0#8) v wr) (fun v _ => match v with | .slice _ len _ => 64 - len | _ => 0)
    case atStart => exact ⟨0, by omega, by simpa using hM⟩
    clear hM
    case round =>
      obtain ⟨t, ht, hM⟩ := hrel
      obtain ⟨Av, cv, rfl, hcv⟩ := ownsRow_form hM.own
      have hll : (keyOf ks ++ List.replicate t 0#8).length = (keyOf ks).length + t := by simp
      by_cases hlt : (keyOf ks).length + t < 64
      · have hsn : (keyOf ks ++ List.replicate t 0#8) ++ [0#8] = keyOf ks ++ List.replicate (t + 1) 0#8 := by rw [List.append_assoc, ← List.replicate_succ']
        generalize keyOf ks ++ List.replicate t 0#8 = kk at *
        have HSN := Lib.hid hsn; clear hsn
        have hlt2 : decide ((kk.length : Int) < 64) = true := by simp; omega
        have hk63 : kk.length < 64 := by omega
        clear hll
        go_wp2_with (at_builtin; refine push_one rfl _ _ rfl wr (B0 + 1) (.slice Av kk.length cv) kk 0#8 rfl rfl hM.own hM.s (by omega) ?_; intro v' W4 hown hb hg hat)
        have hM4 : MacM w B0 (kk ++ [0#8]) v' W4 := ⟨hown, hM.b.trans (hb.mono (by omega)), hM.r.of_block (hb.block _ (by omega)), Nat.le_trans hM.s hb.size⟩
        clear hM hown hb hg hat
        go_wp2_with fail
        go_roundw
        case rel => exact ⟨t + 1, by omega, by rw [← HSN.out]; exact hM4⟩
        case measure =>
          obtain ⟨Av2, cv2, rfl, _⟩ := ownsRow_form hM4.own
          simp only [List.length_append, List.length_singleton]
          omega
      · have hk64 : (keyOf ks ++ List.replicate t 0#8).length = 64 := by omega
        have hkget : ∀ j, j < 64 → (keyOf ks ++ List.replicate t 0#8)[j]? = some (kd ks j) := by
          intro j hj
          unfold kd
          rw [List.getD_eq_getElem?_getD]
          by_cases hjl : j < (keyOf ks).length
          · rw [List.getElem?_append_left hjl, List.getElem?_eq_getElem hjl]; rfl
          · rw [List.getElem?_append_right (by omega), List.getElem?_eq_none (l := keyOf ks) (by omega), List.getElem?_replicate, if_pos (by omega)]; rfl
        generalize keyOf ks ++ List.replicate t 0#8 = kk at *
        obtain ⟨b, o, e, hbl, hc⟩ := SlRead.of_own hM.own (by simp; omega)
        subst e
        have hcc : ∀ j, j < 64 → wr.cell? ⟨b, o + j, none⟩ = some (v8 (kd ks j)) := fun j hj => hc j _ (by rw [bys_ints]; simp [hkget j hj])
        have hlt2 : decide ((kk.length : Int) < 64) = false := by simp; omega
        have HK := Lib.hid hk64
        clear hc hkget hll hlt ht hk64
        have hMb := hM.b
        have hMr := hM.r
        have hMs := hM.s
        clear hM
        generalize wr = W7 at *
        generalize hBB : W7.heap.size = BB at *
        have HBB := Lib.hid hBB; clear hBB
        go_wp2_with fail
        go_loopw [7, 8, 9] (fun vi vo i wx => ∃ j : Nat, j ≤ 64 ∧ i = .int .i64 j ∧ TwoOwn BB vi (lst j (inP ks)) vo (lst j (outP ks)) wx ∧ Below BB W7 wx) (fun _ _ i _ => 64 - (intOf i).toNat)
        case atStart => exact ⟨0, by omega, rfl, ⟨World.ownsRow_nil _ _ _ _, World.ownsRow_nil _ _ _ _, .inl rfl⟩, Below.refl _ _⟩
        case round =>
          obtain ⟨j, hj, rfl, hT, hb⟩ := hrel
          obtain ⟨Ai, ci, rfl, hci⟩ := ownsRow_form hT.x
          obtain ⟨Ao, co, rfl, hco⟩ := ownsRow_form hT.y
          have hBx : BB ≤ wr.heap.size := by have := hb.size; have := HBB.out; omega
          have hl1 := lst_length j (inP ks)
          have hl2 := lst_length j (outP ks)
          by_cases hlt3 : j < 64
          · have c1 : wr.cell? ⟨b, o + j, none⟩ = some (v8 (kd ks j)) := (World.cell?_of_block (hb.block b hbl)).trans (hcc j hlt3)
            have e1 : bits .xor .u8 (n8 (kd ks j)) 54 = n8 (inP ks j) := by rw [HIN.out]; exact n8_xor _ 54#8
            have e2 : bits .xor .u8 (n8 (kd ks j)) 92 = n8 (outP ks j) := by rw [HOUT.out]; exact n8_xor _ 92#8
            have s1 := lst_snoc j (inP ks)
            have s2 := lst_snoc j (outP ks)
            generalize lst j (inP ks) = Li at *
            generalize lst j (outP ks) = Lo at *
            have HL1 := Lib.hid hl1; have HL2 := Lib.hid hl2; have HS1 := Lib.hid s1; have HS2 := Lib.hid s2
            clear hl1 hl2 s1 s2
            have hj0 : (j : Int) < (kk.length : Int) := by have := HK.out; omega
            go_upto_region 12 with (at_builtin; refine push_one rfl _ _ rfl wr BB (.slice Ai Li.length ci) Li (inP ks j) rfl rfl hT.x hBx (by have := HL1.out; omega) ?_; intro v1 W8 hown hbb hg hat)
            have hT8 := hT.grow hown hg hat
            have hb8 := hb.trans hbb
            have c2 : W8.cell? ⟨b, o + j, none⟩ = some (v8 (kd ks j)) := (World.cell?_of_block (hb8.block b hbl)).trans (hcc j hlt3)
            have hBx8 : BB ≤ W8.heap.size := Nat.le_trans hBx hbb.size
            clear hT hown hg hat hbb hb c1 hBx
            go_wp2_with (at_builtin; refine push_one rfl _ _ rfl W8 BB (.slice Ao Lo.length co) Lo (outP ks j) rfl rfl hT8.y hBx8 (by have := HL2.out; omega) ?_; intro v2 W9 hown hbb hg hat)
            have hT9 := (hT8.swap.grow hown hg hat).swap
            have hb9 := hb8.trans hbb
            clear hT8 hown hg hat hbb hb8 c2 hBx8
            go_wp2_with fail
            go_roundw
            case rel => exact ⟨j + 1, by omega, by go_num, by rw [HS1.out, HS2.out]; exact hT9, hb9⟩
            case measure => simp [intOf]; omega
          · have hj64 : j = 64 := by omega
            have hdk : decide ((j : Int) < 64) = false := by simp; omega
            have hmo := HMO.out
            have hx1 : lst j (inP ks) = lst 64 (inP ks) := by rw [hj64]
            have hx2 : lst j (outP ks) = lst 64 (outP ks) := by rw [hj64]
            rw [← hx1, ← hx2] at hmo
            clear hx1 hx2 hlt3
            generalize lst j (inP ks) = Li at *
            generalize lst j (outP ks) = Lo at *
            generalize hF1 : shaOf (Li ++ ys) = F1 at *
            generalize hF2 : shaOf (Lo ++ lst 32 F1) = F2 at *
            have HF1 := Lib.hid hF1; have HF2 := Lib.hid hF2; have HM := Lib.hid hmo; have HL1 := Lib.hid hl1; have HL2 := Lib.hid hl2
            clear hF1 hF2 hmo hl1 hl2 hcc
            have hBr : SlRead wr B (ints .u8 (bys ys)) := hB.below (by rw [HB.out]; exact hMb.trans (hb.mono (by omega)))
            go_upto_region 14 with (first | (at_builtin; refine push_many rfl _ _ rfl wr BB (.slice Ai Li.length ci) Li B ys cb rfl rfl hT.x hBr hBx (by have := HL1.out; omega) ?_; intro v1 W8 hown hbb hg hat))
            have hT8 := hT.grow hown hg hat
            have hb8 := hb.trans hbb
            have hBx8 : BB ≤ W8.heap.size := Nat.le_trans hBx hbb.size
            obtain ⟨A8, c8, rfl, _⟩ := ownsRow_form hown
            have hds := dsum_any A8 (Li ++ ys) c8 W8 (SlRead.of_own hown) (by have := HL1.out; simp; omega)
            rw [HF1.out] at hds
            clear hT hown hg hat hbb hb hBx hBr
            refine hds.mono ?_
            rintro e W9 ⟨rfl, hb9⟩
            have hb9' := hb8.trans (hb9.mono hBx8)
            have ho9 := ownsRow_via hT8.y (fun g _ hl => hb9.block g hl)
            have hBx9 : BB ≤ W9.heap.size := Nat.le_trans hBx8 hb9.size
            clear hds hb9 hb8 hT8 hBx8
            go_upto_region 14 with (first | (refine wpList_store_row rfl 31 _ _ rfl _ _ rfl rfl _ _ (heap_alloc_new _ _) (by kernel_rfl) (by simp) (arr8_one _ _) ?_; rw [alloc_setRow]))
            generalize hG2 : W9.heap.size = G2 at *
            have hg10 : (W9.alloc (.cells (arr8 32 F1) 31)).rowIs G2 31 32 (fun i => v8 (F1 i)) := rowIs_new _ _ _ _ _ _ hG2.symm (by simp) (fun i hi => arr8_get 32 _ i hi)
            have ho10 := ho9.alloc (.cells (arr8 32 F1) 31)
            have hb10 := hb9'.alloc (by rw [hG2]; exact hBx9) (.cells (arr8 32 F1) 31)
            generalize W9.alloc (.cells (arr8 32 F1) 31) = W10 at *
            have hBx10 : BB ≤ W10.heap.size := Nat.le_trans hBx9 (Nat.le_of_lt hg10.lt)
            have hslG2 := fun w' => sliceAt_arr (P := Tryd.prog) 32 Tryd.underlying31 (show (Tryd.prog.info? 5).map (·.size) = some 1 by kernel_rfl) G2 (by omega) w'
            have hS10 := slread_row hg10
            clear hb9' ho9 hG2 hg10 hBx9
            go_wp2_with (first | (at_builtin; refine push_many rfl _ _ rfl W10 BB (.slice Ao Lo.length co) Lo (some ⟨G2, 0, none⟩) (lst 32 F1) 32 rfl rfl ho10 hS10 hBx10 (by have := HL2.out; simp; omega) ?_; intro v3 W11 hown hbb hg hat))
            obtain ⟨A11, c11, rfl, _⟩ := ownsRow_form hown
            have hds := dsum_any A11 (Lo ++ lst 32 F1) c11 W11 (SlRead.of_own hown) (by have := HL2.out; simp; omega)
            rw [HF2.out] at hds
            have hb11 := hb10.trans hbb
            have hBx11 : BB ≤ W11.heap.size := Nat.le_trans hBx10 hbb.size
            clear hown hbb hg hat hb10 ho10 hS10 hBx10 hslG2
            refine hds.mono ?_
            rintro e W12 ⟨rfl, hb12⟩
            have hb12' := hb11.trans (hb12.mono hBx11)
            obtain ⟨old, hro1, hro2, _⟩ := hMr.of_block (hb12'.block B0 (by omega))
            have hbw := hMb.trans (hb12'.mono (by omega))
            have hbb := below_setRow (g := B0) hbw (Nat.le_refl _) (arr8 32 F2)
            have hres : (W12.setRow B0 (arr8 32 F2)).heap[B0]? = some (.cells (arr8 32 F2) 31 (0, 0)) := setRow_heap _ _ _ _ _ _ hro1
            clear hds hb11 hb12 hb12' hbw hBx11
            go_wp2_with (first | (refine wpList_store_row rfl 31 _ _ rfl _ _ rfl rfl _ _ hro1 (by kernel_rfl) (by simpa using hro2) (arr8_one _ _) ?_))
            refine bodyPost_ret (results_cell_row rfl _ _ _ _ _ _ _ rfl hres Tryd.underlying31 rfl (by kernel_rfl)) rfl ?_
            rw [HM.out, HB.out]
            exact ⟨rfl, hbb⟩
end Go.Proofs.YtccchhfcoicgcaaDoor
