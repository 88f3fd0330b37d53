import Derived.Test.YtmbfjnbanlhjpaaDoorFst
import Derived.Test.YtmbfjnbanlhjpaaDoorSl
import Derived.Test.YtmbfjnbanlhjpaaDoorRsm
namespace Go.Proofs.YtmbfjnbanlhjpaaDoor
open Go.RowKit

theorem SlRead.takeS {w : World} {A : Option Addr} {xs : List Int} {k : IntKind} (h : SlRead w A (ints k xs)) (c : Nat) : SlRead w A (ints k (xs.take c)) := by
  intro hn
  obtain ⟨b, o, rfl, hlt, hcell⟩ := h (by simp at hn ⊢; omega)
  refine ⟨b, o, rfl, hlt, fun j u hu => ?_⟩
  refine hcell j u ?_
  rw [← hu]
  have hj : j < c := by
    have := (List.getElem?_eq_some_iff.1 hu).1
    simp at this; omega
  simp [ints, hj]
theorem bys_takeS (ys : List (BitVec 8)) (n : Nat) : (bys ys).take n = bys (ys.take n) := by simp [bys, List.map_take]
theorem SlRead.onlyS {g : Nat} {w w' : World} {A : Option Addr} {xs : List Value} (h : SlRead w A xs) (ho : 0 < xs.length → OffB A g) (hb : Only g w w') : SlRead w' A xs := fun hn => h.only (ho hn) hb hn
theorem Only.thenB {g : Nat} {w0 w w' : World} (h : Only g w0 w) (hb : Below w0.heap.size w w') : Only g w0 w' :=
  ⟨hb.os.trans h.os, hb.tape.trans h.tape, hb.output.trans h.output, Nat.le_trans h.size hb.size, fun k hk hne => (hb.block k hk).trans (h.block k hk hne)⟩

theorem slice_cut {P : Program} {t e : TypeId} (hu : P.underlying t = some (.slice e)) (hs : (P.info? e).map (·.size) = some 1) (A : Option Addr) (n cap l m : Nat) (hm : l + m ≤ n) (hc : n ≤ cap) (w : World) :
    (Instr.slice t (.slice A n cap) (some (.int .i64 (l : Int))) (some (.int .i64 ((l : Int) + m))) none).run P w = .ok (.slice (cutA A l cap) m (cap - l)) w := by
  have e2 : P.elem t = e := by simp [Program.elem, hu]
  rw [run_slice_lh (P := P) w t A n cap (by rw [e2]; exact hu) .i64 .i64 (l : Int) ((l : Int) + m) (by omega) (by omega) (by omega), e2]
  obtain ⟨i, hi, hz⟩ := Option.map_eq_some_iff.1 hs
  have h1 : ((l : Int) + m).toNat = l + m := by omega
  have h3 : l + m - l = m := by omega
  simp [sizeOf, typeInfo, hi, hz, Result.andThen, sliced, h1, h3, cutA]

/-- a slice of bytes that holds a part of ys, wherever ys lies -/
def Piece (A : Option Addr) (ys : List (BitVec 8)) (a : BSl) : Prop := ∀ W, SlRead W A (ints .u8 (bys ys)) → SlOk W a
theorem piece_cut (A : Option Addr) (ys : List (BitVec 8)) (cap l m : Nat) (hm : l + m ≤ ys.length) (hc : ys.length ≤ cap) (hl : ys.length ≤ 4611686018427387904) : Piece A ys (cutA A l cap, (ys.drop l).take m, cap - l) := by
  intro W h
  refine ⟨?_, by simp; omega, by simp; omega⟩
  simp only
  rw [← bys_takeS, ← bys_drop]
  refine SlRead.takeS (h.cut l _ ?_) m
  intro hlt b o e
  subst e
  exact cutA_some (by simpa using hlt) hc

section
variable {P : Program} {md : Region.Mode} {ops : Array Oper} {Q : Exit → Act → World → Prop} {S : World → Prop} {fuel : Nat} {listed : Array Bool} {a : Act} {w : World}
theorem held_neq (i : Nat) (t : TypeId) (x y : Operand) (r : TypeId) (dst : Option Tmp) (cx cy : Array Value) (b : Bool) (hi : ops[i]?.map (fun o => (o.op, o.dst, Region.wanted o (yielded ops a.tmps))) = some (.binOp .neq t x y r, dst, true))
    (hx : a.eval x = .agg cx) (hy : a.eval y = .agg cy) (hgd : P.eqGuardType P.depth t = false) (he : ∀ w, (Op.equalIn 10000 t (.agg cx) (.agg cy)).run P w = .ok b w)
    (hs : Region.noSelect ops = true) (hf : Region.free md ops listed i = true) (hr : (Region.ready md ops listed).contains i = true)
    (hQ : ∀ c a v d w, Q (.panic c) (a.put d v) w → Q (.panic c) a w) (hw : S w)
    (h : wpAnyH P md ops Q S fuel (listed.setIfInBounds i true) (a.put dst (.bool (!b))) w) : wpAnyH P md ops Q S (fuel + 1) listed a w :=
  held_any i _ dst _ hi hs hf hr hQ hw (fun oo ho w hw => by
    unfold execOp
    simp [ho, hx, hy, eqGuard, hgd, run_neq_struct, he, Result.andThen]) h
end

/-- while the pieces are written: the list of pieces, the digest, all else as it was in W0 -/
structure SaysAt (W0 : World) (A : Option Addr) (ys : List (BitVec 8)) (C1 : Nat) (l : Value) (at_ k : Nat) (wr : World) : Prop where
  own : ∃ sl : List BSl, wr.ownsRow W0.heap.size 22 1 l k (sl.map slv) ∧ sl.length = k ∧ flat sl = ys.take at_ ∧ (∀ x ∈ sl, Piece A ys x)
  h : HashX wr C1 (ys.take at_)
  o : Only C1 W0 wr

/-- in a drawn region: the same, and what lies still -/
structure SaysH (W0 : World) (A : Option Addr) (ys : List (BitVec 8)) (C1 : Nat) (l : Value) (q n : Nat) (sl : List BSl) (W : World) : Prop where
  own : W.ownsRow W0.heap.size 22 1 l n (sl.map slv)
  h : HashX W C1 (ys.take q)
  o : Only C1 W0 W
  k : KAt W
  r : SlRead W A (ints .u8 (bys ys))
theorem SaysH.below {W0 : World} {A : Option Addr} {ys : List (BitVec 8)} {C1 : Nat} {l : Value} {q n : Nat} {sl : List BSl} {W W' : World} (x : SaysH W0 A ys C1 l q n sl W) (hb : Below W.heap.size W W') : SaysH W0 A ys C1 l q n sl W' :=
  ⟨ownsRow_via x.own (fun g _ hl => hb.block g hl), x.h.below hb, x.o.thenB (hb.mono x.o.size), x.k.below hb, x.r.below hb⟩
/-- in the last region -/
structure SaysF (w : World) (A : Option Addr) (ys : List (BitVec 8)) (C1 GA : Nat) (Al : Option Addr) (sl : List BSl) (F : Nat → BitVec 8) (W : World) : Prop where
  g : W.rangeAt GA 0 (arr8 32 F).toList
  lt : GA < W.heap.size
  h : HashX W C1 ys
  k : KAt W
  r : SlRead W A (ints .u8 (bys ys))
  l : SlRead W Al (sl.map slv)
  b : Below w.heap.size w W
theorem SaysF.below {w : World} {A : Option Addr} {ys : List (BitVec 8)} {C1 GA : Nat} {Al : Option Addr} {sl : List BSl} {F : Nat → BitVec 8} {W W' : World} (x : SaysF w A ys C1 GA Al sl F W) (hb : Below W.heap.size W W') : SaysF w A ys C1 GA Al sl F W' :=
  ⟨rangeAt_below x.g hb x.lt, Nat.lt_of_lt_of_le x.lt hb.size, x.h.below hb, x.k.below hb, x.r.below hb, x.l.below hb, x.b.trans (hb.mono x.b.size)⟩
theorem OffB.cut {W : World} {xs : List Value} {A : Option Addr} {C l cap : Nat} (hr : SlRead W A xs) (hn : 0 < xs.length) (h : OffB A C) : OffB (cutA A l cap) C := by
  obtain ⟨b', o', rfl, _, _⟩ := hr hn
  intro b o e
  unfold cutA at e
  split at e
  · exact h b o e
  · simp [Addr.add] at e
    split at e
    · simp at e; rw [← e.1]; exact h b' o' rfl
    · simp at e; rw [← e.1]; exact h b' o' rfl

set_option maxRecDepth 100000 in
set_option maxHeartbeats 1600000 in
theorem says_walk (A : Option Addr) (ys : List (BitVec 8)) (cap : Nat) (D : Option Addr) (zs : List Int) (capz : Nat) (w : World) (hA : SlRead w A (ints .u8 (bys ys))) (hcap : ys.length ≤ cap) (hmax : ys.length ≤ 9223372036854775807)
    (hD : SlRead w D (ints .i64 zs)) (hk : KAt w) :
    Calls Tryd.prog 3 #[.slice A ys.length cap, .slice D zs.length capz] w fun e w' => e = .returned (.bool true) ∧ Below w.heap.size w w' := by
  go_enter Tryd.func3, Tryd.ntmps3
  go_wp2_with fail
  refine (first_any _ hk).mono ?_
  rintro e W ⟨rfl, hb⟩
  by_cases h500 : 500 < ys.length
  · have hb0 : decide ((500 : Int) < (ys.length : Int)) = true := by simp; omega
    go_wp2_with fail
    go_ret
    exact ⟨rfl, hb⟩
  have hb0 : decide ((500 : Int) < (ys.length : Int)) = false := by simp; omega
  by_cases h20 : 20 < zs.length
  · have hb2 : decide ((20 : Int) < (zs.length : Int)) = true := by simp; omega
    go_wp2_with fail
    go_ret
    exact ⟨rfl, hb⟩
  have hb2 : decide ((20 : Int) < (zs.length : Int)) = false := by simp; omega
  have hAW := hA.below hb
  have hDW := hD.below hb
  have hkW := hk.below hb
  go_wp2_with fail
  refine (dsum_any A ys cap W hAW (by omega)).mono ?_
  rintro e W1 ⟨rfl, hb1⟩
  have hA1 := hAW.below hb1
  have hD1 := hDW.below hb1
  have hk1 := hkW.below hb1
  have hB1 := hb.trans (hb1.mono hb.size)
  clear hAW hDW hkW hb hb1 hA hD hk
  go_upto_region 7 with (first | (refine wpList_store_row rfl 26 _ _ rfl _ _ rfl rfl _ _ (heap_alloc_new _ _) (by kernel_rfl) (by simp) (arr8_one _ _) ?_; rw [alloc_setRow]))
  generalize hGA : W1.heap.size = GA at *
  have hb2' : Below W1.heap.size W1 (W1.alloc (.cells (arr8 32 (shaOf ys)) 26)) := (Below.refl _ _).alloc (Nat.le_refl _) _
  have hg2 : (W1.alloc (.cells (arr8 32 (shaOf ys)) 26)).rowIs GA 26 32 (fun i => v8 (shaOf ys i)) := rowIs_new _ _ _ _ _ _ hGA.symm (by simp) (fun i hi => arr8_get 32 _ i hi)
  generalize W1.alloc (.cells (arr8 32 (shaOf ys)) 26) = W2 at *
  have hA2 := hA1.below hb2'
  have hD2 := hD1.below hb2'
  have hk2 := hk1.below hb2'
  have hB2 := hB1.trans (hb2'.mono hB1.size)
  clear hA1 hD1 hk1 hB1 hb2' hGA
  go_wp2_with fail
  refine (new_any _).mono ?_
  rintro e W0 ⟨C1, rfl, hC1, hx0, hb3⟩
  have hA0 := hA2.below hb3
  have hD0 := hD2.below hb3
  have hk0 := hk2.below hb3
  have hg0 := hg2.of_block (hb3.block _ hg2.lt)
  have hB0 := hB2.trans (hb3.mono hB2.size)
  have offA : 0 < (ints .u8 (bys ys)).length → OffB A C1 := fun h => hA2.offB h hC1
  have offD : 0 < (ints .i64 zs).length → OffB D C1 := fun h => hD2.offB h hC1
  have hkC : C1 ≠ 0 := by have := hk2.lt; omega
  have hGC : GA < C1 := Nat.lt_of_lt_of_le hg2.lt hC1
  have hwC : w.heap.size ≤ C1 := Nat.le_trans hB2.size hC1
  have hCs : C1 < W0.heap.size := hx0.lt
  clear hA2 hD2 hk2 hg2 hB2 hb3 hC1
  go_wp2_with fail
  go_loopw [8, 9, 10] (fun l z i wr => ∃ k at_ : Nat, k ≤ zs.length ∧ at_ ≤ ys.length ∧ i = .int .i64 k ∧ z = .int .i64 at_ ∧ SaysAt W0 A ys C1 l at_ k wr) (fun _ _ i _ => zs.length - (intOf i).toNat)
  case atStart => exact ⟨0, 0, by omega, by omega, rfl, rfl, ⟨[], World.ownsRow_nil _ _ _ _, rfl, rfl, by simp⟩, by simpa using hx0, Only.refl _ _⟩
  clear hx0
  case round =>
    obtain ⟨k, p, hkl, hpl, rfl, rfl, ⟨sl, hown, hsl, hfl, hpc⟩, hx, hon⟩ := hrel
    by_cases hlt : k < zs.length
    · obtain ⟨bz, oz, z, rfl, hzc, hzk⟩ := (hD0.onlyS offD hon).at_ hlt
      have HZ := Lib.hid hzk; clear hzk
      obtain ⟨m, hm1, hm2⟩ := exists_mod z ((ys.length : Int) - p + 1) (by omega)
      go_wp2_with fail
      refine (number_nat z _ m wr (by omega) hm1).mono ?_
      rintro e Wn ⟨rfl, mn, rfl⟩
      have hpm : p + m ≤ ys.length := by omega
      have hpc2 := piece_cut A ys cap p m hpm hcap (by omega)
      have hPl : ((ys.drop p).take m).length = m := by simp; omega
      have hnew : ys.take p ++ (ys.drop p).take m = ys.take (p + m) := List.take_add.symm
      have hslc : ∀ w, (Instr.slice 22 (.slice A ys.length cap) (some (.int .i64 (p : Int))) (some (.int .i64 ((p : Int) + m))) none).run Tryd.prog w = .ok (.slice (cutA A p cap) ((ys.drop p).take m).length (cap - p)) w := by
        rw [hPl]
        exact slice_cut Tryd.underlying22 (show (Tryd.prog.info? 5).map (·.size) = some 1 by kernel_rfl) A ys.length cap p m hpm hcap
      generalize (ys.drop p).take m = P at *
      have HP := Lib.hid hPl; clear hPl
      have hownN := ownsRow_via hown (w' := wr.drewN mn) (fun g _ _ => rfl)
      have hxN : HashX (wr.drewN mn) C1 (ys.take p) := hx.of_block rfl
      have honN := hon.trans (Only.drewN mn)
      generalize wr.drewN mn = wn at *
      clear hown hx hon hzc
      have HM1 := Lib.hid hm1; have HM2 := Lib.hid hm2; clear hm1 hm2
      obtain ⟨i1, hi1, hy0, hy1, hy2⟩ := info_parts Tryd.info22
      go_wp2_with (at_builtin; refine wpList_append_own _ rfl _ _ 30 rfl W0.heap.size 22 i1 (.slice none 0 0) 1 24 Tryd.underlying30 hi1 hy0 hy1 hy2 rfl (by decide) _ _ _ rfl (hownN.alloc _) ⟨wn.heap.size, 0, none⟩ 1 1 [.slice (cutA A p cap) P.length (cap - p)] rfl rfl ?c1 ?c2 ?c3 ?c4 ?c5 ?_)
      case c1 => exact cell_one_new _ _ _
      case c2 => intro u hu; simp at hu; subst hu; rfl
      case c3 => unfold maxLen; omega
      case c4 => omega
      case c5 => have := honN.size; simp; omega
      intro v' w2 hown2 hgrow2 _
      have hb2 : Below W0.heap.size wn w2 := ((Below.refl _ _).alloc honN.size _).grown hgrow2 (by have := honN.size; simp; omega) (fun j hj => (hownN.lt j hj).1)
      have honA := honN.thenB hb2
      have hxA : HashX w2 C1 (ys.take p) := hxN.of_block (hb2.block C1 hCs)
      have hkA := honA.kat hk0 hkC
      have hAA := hA0.onlyS offA honA
      have hPA := hpc2 w2 hAA
      have hsl3 : (sl ++ [(cutA A p cap, P, cap - p)]).map slv = sl.map slv ++ [.slice (cutA A p cap) P.length (cap - p)] := by simp
      rw [← hsl3] at hown2
      clear hownN hxN honN hgrow2 hb2 hsl3
      go_wp2_with fail
      refine (write_x C1 (ys.take p) P (cutA A p cap) (cap - p) w2 hxA hkA hkC hPA.r (fun h => OffB.cut hAA (by simp; have := HP.out; omega) (offA (by simp; have := HP.out; omega))) hPA.c hPA.l).mono ?_
      rintro e W3 ⟨rfl, hx3, hon3⟩
      rw [hnew] at hx3
      have own3 := ownsRow_via hown2 (fun g hg hl => hon3.block g hl (by omega))
      have honC := honA.trans hon3
      clear hown2 hxA hkA hAA hPA hon3 honA hslc
      go_upto_region 19 with (fail)
      rw [show (p : Int) + (m : Int) = ((p + m : Nat) : Int) by omega]
      have hfl2 : flat (sl ++ [(cutA A p cap, P, cap - p)]) = ys.take (p + m) := by rw [← hnew, ← hfl]; simp [flat]
      have hpc3 : ∀ x ∈ sl ++ [(cutA A p cap, P, cap - p)], Piece A ys x := by
        intro x hx
        rcases List.mem_append.1 hx with h | h
        · exact hpc x h
        · simp at h; subst h; exact hpc2
      have hsl4 : (sl ++ [(cutA A p cap, P, cap - p)]).length = k + 1 := by simp [hsl]
      generalize sl ++ [(cutA A p cap, P, cap - p)] = sl2 at *
      have HSL4 := Lib.hid hsl4
      clear hfl hpc hsl hnew hpc2 hsl4
      generalize hq : p + m = q at *
      have hql : (ys.take q).length = q := by simp; omega
      clear hq
      have hk3 := honC.kat hk0 hkC
      have hA3 := hA0.onlyS offA honC
      refine wp_region_noPanic ?_
      refine wp_region_held_drew (S := SaysH W0 A ys C1 v' q (k + 1) sl2) (by kernel_rfl) ⟨ownsRow_via own3 (fun g _ _ => rfl), hx3.of_block rfl, honC.trans (Only.drewN 1), hk3.of_block rfl, hA3.below (Below.drewNr 1)⟩ (fun hHeld => ?_)
      clear own3 hx3 honC hk3 hA3
      refine held_move 0 (.tmp 7) (some 65) (.pointer (some ⟨C1, 0, none⟩)) (by kernel_rfl) (by kernel_rfl) (by kernel_rfl) (by kernel_rfl) (by kernel_rfl) (fun _ _ _ _ _ h => h) hHeld ?_
      refine held_move 2 (.tmp 0) (some 67) (.slice A ys.length cap) (by kernel_rfl) (by kernel_rfl) (by kernel_rfl) (by kernel_rfl) (by kernel_rfl) (fun _ _ _ _ _ h => h) hHeld ?_
      refine held_move 3 (.tmp 9) (some 68) (.int .i64 (q : Int)) (by kernel_rfl) (by kernel_rfl) (by kernel_rfl) (by kernel_rfl) (by kernel_rfl) (fun _ _ _ _ _ h => h) hHeld ?_
      refine held_slice 4 22 (.tmp 67) none (some (.tmp 68)) none (some 69) (.slice A ys.length cap) none (some (.int .i64 (q : Int))) none (.slice A q cap) (by kernel_rfl) (by kernel_rfl) (sliceAt_h Tryd.underlying22 (show (Tryd.prog.info? 5).map (·.size) = some 1 by kernel_rfl) A ys.length cap q (by omega)) (by kernel_rfl) (by kernel_rfl) (by kernel_rfl) (fun _ _ _ _ _ h => h) hHeld ?_
      refine held_call 1 12 #[.tmp 65] #[28] (some 66) #[.pointer (some ⟨C1, 0, none⟩)] _ (by kernel_rfl) (by kernel_rfl) (by kernel_rfl) (by kernel_rfl) (sum_x C1 _ _ hHeld.h hHeld.k) ?_
      rintro e W4 ⟨rfl, hb4⟩
      refine ⟨_, rfl, hHeld.below hb4, fun hHeld => ?_⟩
      have hds := dsum_any A (ys.take q) cap W4 (by rw [← bys_takeS]; exact hHeld.r.takeS q) (by rw [hql]; omega)
      rw [hql] at hds
      refine held_call 5 8 #[.tmp 69] #[22] (some 70) #[.slice A q cap] _ (by kernel_rfl) (by kernel_rfl) (by kernel_rfl) (by kernel_rfl) (hds) ?_
      rintro e W5 ⟨rfl, hb5⟩
      refine ⟨_, rfl, hHeld.below hb5, fun hHeld => ?_⟩
      refine held_neq 6 26 (.tmp 66) (.tmp 70) 26 (some 71) (arr8 32 (shaOf (ys.take q))) (arr8 32 (shaOf (ys.take q))) true (by kernel_rfl) (by kernel_rfl) (by kernel_rfl) (by kernel_rfl) (equal32 _) (by kernel_rfl) (by kernel_rfl) (by kernel_rfl) (fun _ _ _ _ _ h => h) hHeld ?_
      refine wpAnyH_done (by kernel_rfl) ?_ _
      refine NoPanic.normal ?_
      simp only [Act.put, List.setIfInBounds_toArray, List.set_cons_zero, List.set_cons_succ]
      go_wp2_with fail
      go_roundw
      case rel => exact ⟨k + 1, q, by omega, by omega, by go_num, rfl, ⟨sl2, hHeld.own, HSL4.out, hfl2, hpc3⟩, hHeld.h, hHeld.o⟩
      case measure => simp [intOf]; omega
    · have hdk : decide ((k : Int) < (zs.length : Int)) = false := by simp; omega
      have hpm : p + (ys.length - p) ≤ ys.length := by omega
      have hpc2 := piece_cut A ys cap p (ys.length - p) hpm hcap (by omega)
      have hPl : ((ys.drop p).take (ys.length - p)).length = ys.length - p := by simp
      have hnew : ys.take p ++ (ys.drop p).take (ys.length - p) = ys := by rw [List.take_of_length_le (l := ys.drop p) (by simp), List.take_append_drop]
      have hslc : ∀ w, (Instr.slice 22 (.slice A ys.length cap) (some (.int .i64 (p : Int))) none none).run Tryd.prog w = .ok (.slice (cutA A p cap) ((ys.drop p).take (ys.length - p)).length (cap - p)) w := by
        rw [hPl]
        exact slice_sl_l Tryd.underlying22 (show (Tryd.prog.info? 5).map (·.size) = some 1 by kernel_rfl) A ys.length cap p p rfl hpl
      generalize (ys.drop p).take (ys.length - p) = P at *
      have HP := Lib.hid hPl; clear hPl
      obtain ⟨i1, hi1, hy0, hy1, hy2⟩ := info_parts Tryd.info22
      go_wp2_with (at_builtin; refine wpList_append_own _ rfl _ _ 30 rfl W0.heap.size 22 i1 (.slice none 0 0) 1 24 Tryd.underlying30 hi1 hy0 hy1 hy2 rfl (by decide) _ _ _ rfl (hown.alloc _) ⟨wr.heap.size, 0, none⟩ 1 1 [.slice (cutA A p cap) P.length (cap - p)] rfl rfl ?c1 ?c2 ?c3 ?c4 ?c5 ?_)
      case c1 => exact cell_one_new _ _ _
      case c2 => intro u hu; simp at hu; subst hu; rfl
      case c3 => unfold maxLen; omega
      case c4 => omega
      case c5 => have := hon.size; simp; omega
      intro v' w2 hown2 hgrow2 _
      have hb2 : Below W0.heap.size wr w2 := ((Below.refl _ _).alloc hon.size _).grown hgrow2 (by have := hon.size; simp; omega) (fun j hj => (hown.lt j hj).1)
      have honA := hon.thenB hb2
      have hxA : HashX w2 C1 (ys.take p) := hx.of_block (hb2.block C1 hCs)
      have hkA := honA.kat hk0 hkC
      have hAA := hA0.onlyS offA honA
      have hPA := hpc2 w2 hAA
      have hsl3 : (sl ++ [(cutA A p cap, P, cap - p)]).map slv = sl.map slv ++ [.slice (cutA A p cap) P.length (cap - p)] := by simp
      rw [← hsl3] at hown2
      clear hown hx hon hgrow2 hb2 hsl3
      go_wp2_with fail
      refine (write_x C1 (ys.take p) P (cutA A p cap) (cap - p) w2 hxA hkA hkC hPA.r (fun h => OffB.cut hAA (by simp; have := HP.out; omega) (offA (by simp; have := HP.out; omega))) hPA.c hPA.l).mono ?_
      rintro e W3 ⟨rfl, hx3, hon3⟩
      rw [hnew] at hx3
      have own3 := ownsRow_via hown2 (fun g hg hl => hon3.block g hl (by omega))
      have honC := honA.trans hon3
      clear hown2 hxA hkA hAA hPA hon3 honA hslc
      go_upto_region 23 with (fail)
      have hfl2 : flat (sl ++ [(cutA A p cap, P, cap - p)]) = ys := by rw [← hnew, ← hfl]; simp [flat]
      have hpc3 : ∀ x ∈ sl ++ [(cutA A p cap, P, cap - p)], Piece A ys x := by
        intro x hx
        rcases List.mem_append.1 hx with h | h
        · exact hpc x h
        · simp at h; subst h; exact hpc2
      have hsl4 : (sl ++ [(cutA A p cap, P, cap - p)]).length = k + 1 := by simp [hsl]
      generalize sl ++ [(cutA A p cap, P, cap - p)] = sl2 at *
      have HSL4 := Lib.hid hsl4
      clear hfl hpc hsl hnew hpc2 hsl4
      have hk3 := honC.kat hk0 hkC
      have hA3 := hA0.onlyS offA honC
      have hg3 := hg0.of_block (honC.block GA hg0.lt (by omega))
      have hb3 := hB0.trans (honC.below hwC (Nat.le_trans hwC (Nat.le_of_lt hCs)))
      obtain ⟨Al, cl, rfl, _⟩ := ownsRow_form own3
      have hl3 := SlRead.of_own own3
      have iH : (Tryd.prog.info? 26).map (·.size) = some (arr8 32 (shaOf ys)).toList.length := by simp only [Array.length_toList, arr8_size]; kernel_rfl
      generalize hF : shaOf ys = F at *
      have HF := Lib.hid hF; clear hF
      have alc : ∀ (W : World) (o : Obj), Below W.heap.size W (W.alloc o) := fun W o => (Below.refl _ _).alloc (Nat.le_refl _) _
      clear own3 honC
      generalize W3 = W5 at *
      refine wp_region_noPanic ?_
      refine wp_region_held_drew (S := SaysF w A ys C1 GA Al sl2 F) (by kernel_rfl) ⟨rangeAt_row hg3, hg3.lt, hx3.of_block rfl, hk3.of_block rfl, hA3.below (Below.drewNr 1), hl3.below (Below.drewNr 1), hb3.drew⟩ (fun hHeld => ?_)
      clear hg3 hx3 hk3 hA3 hl3 hb3
      refine held_move 0 (.tmp 5) (some 83) (.bool true) (by kernel_rfl) (by kernel_rfl) (by kernel_rfl) (by kernel_rfl) (by kernel_rfl) (fun _ _ _ _ _ h => h) hHeld ?_
      refine held_move 1 (.tmp 83) (some 84) (.bool true) (by kernel_rfl) (by kernel_rfl) (by kernel_rfl) (by kernel_rfl) (by kernel_rfl) (fun _ _ _ _ _ h => h) hHeld ?_
      refine held_move 2 (.tmp 0) (some 85) (.slice A ys.length cap) (by kernel_rfl) (by kernel_rfl) (by kernel_rfl) (by kernel_rfl) (by kernel_rfl) (fun _ _ _ _ _ h => h) hHeld ?_
      refine held_load 5 26 (.tmp 6) (some 88) GA 0 (arr8 32 F).toList _ (by kernel_rfl) (by kernel_rfl) (fun w h => h.g) Tryd.underlying26 rfl iH (by kernel_rfl) (by kernel_rfl) (by kernel_rfl) (fun _ _ _ _ _ h => h) hHeld ?_
      refine held_ready [3] (by kernel_rfl) (by simp) (rdy_bsl 3 30 22 (.tmp 85) (some 86) (.slice A ys.length cap) (by kernel_rfl) (by kernel_rfl) (bsl_sl _ _ _ _) (hHeld.below (alc _ _)) ?_ AllReadyH.nil)
      intro hHeld
      have hs1 := suml_sing (W5.drew.heap.size) (A, ys, cap) _ (SlRead.one_new (W := W5.drew) (.slice A ys.length cap) 22) ⟨hHeld.r, hcap, by simp; omega⟩ hHeld.k
      simp only at hs1
      rw [HF.out] at hs1
      refine held_call 4 13 #[.tmp 86] #[30] (some 87) #[.slice (some ⟨W5.drew.heap.size, 0, none⟩) 1 1] _ (by kernel_rfl) (by kernel_rfl) (by kernel_rfl) (by kernel_rfl) (hs1) ?_
      rintro e W6 ⟨rfl, hb6⟩
      refine ⟨_, rfl, hHeld.below hb6, fun hHeld => ?_⟩
      refine held_eql 6 26 (.tmp 87) (.tmp 88) 26 (some 89) (arr8 32 F) (arr8 32 F) true (by kernel_rfl) (by kernel_rfl) (by kernel_rfl) (by kernel_rfl) (equal32 _) (by kernel_rfl) (by kernel_rfl) (by kernel_rfl) (fun _ _ _ _ _ h => h) hHeld ?_
      refine held_pick 7 (.tmp 84) (.tmp 89) (.const (.bool false)) (some 90) true (.bool true) (by kernel_rfl) (by kernel_rfl) (by kernel_rfl) (by kernel_rfl) (by kernel_rfl) (by kernel_rfl) (fun _ _ _ _ _ h => h) hHeld ?_
      refine held_move 8 (.tmp 90) (some 91) (.bool true) (by kernel_rfl) (by kernel_rfl) (by kernel_rfl) (by kernel_rfl) (by kernel_rfl) (fun _ _ _ _ _ h => h) hHeld ?_
      refine held_move 9 (.tmp 8) (some 92) (.slice Al (k + 1) cl) (by kernel_rfl) (by kernel_rfl) (by kernel_rfl) (by kernel_rfl) (by kernel_rfl) (fun _ _ _ _ _ h => h) hHeld ?_
      refine held_load 11 26 (.tmp 6) (some 94) GA 0 (arr8 32 F).toList _ (by kernel_rfl) (by kernel_rfl) (fun w h => h.g) Tryd.underlying26 rfl iH (by kernel_rfl) (by kernel_rfl) (by kernel_rfl) (fun _ _ _ _ _ h => h) hHeld ?_
      have hs2 := suml_any Al sl2 cl _ hHeld.l (fun a ha => hpc3 a ha _ hHeld.r) (by have := HSL4.out; omega) hHeld.k
      rw [HSL4.out, hfl2, HF.out] at hs2
      refine held_call 10 13 #[.tmp 92] #[30] (some 93) #[.slice Al (k + 1) cl] _ (by kernel_rfl) (by kernel_rfl) (by kernel_rfl) (by kernel_rfl) (hs2) ?_
      rintro e W7 ⟨rfl, hb7⟩
      refine ⟨_, rfl, hHeld.below hb7, fun hHeld => ?_⟩
      refine held_eql 12 26 (.tmp 93) (.tmp 94) 26 (some 95) (arr8 32 F) (arr8 32 F) true (by kernel_rfl) (by kernel_rfl) (by kernel_rfl) (by kernel_rfl) (equal32 _) (by kernel_rfl) (by kernel_rfl) (by kernel_rfl) (fun _ _ _ _ _ h => h) hHeld ?_
      refine held_pick 13 (.tmp 91) (.tmp 95) (.const (.bool false)) (some 96) true (.bool true) (by kernel_rfl) (by kernel_rfl) (by kernel_rfl) (by kernel_rfl) (by kernel_rfl) (by kernel_rfl) (fun _ _ _ _ _ h => h) hHeld ?_
      refine held_move 14 (.tmp 96) (some 97) (.bool true) (by kernel_rfl) (by kernel_rfl) (by kernel_rfl) (by kernel_rfl) (by kernel_rfl) (fun _ _ _ _ _ h => h) hHeld ?_
      refine held_move 15 (.tmp 7) (some 98) (.pointer (some ⟨C1, 0, none⟩)) (by kernel_rfl) (by kernel_rfl) (by kernel_rfl) (by kernel_rfl) (by kernel_rfl) (fun _ _ _ _ _ h => h) hHeld ?_
      refine held_load 17 26 (.tmp 6) (some 100) GA 0 (arr8 32 F).toList _ (by kernel_rfl) (by kernel_rfl) (fun w h => h.g) Tryd.underlying26 rfl iH (by kernel_rfl) (by kernel_rfl) (by kernel_rfl) (fun _ _ _ _ _ h => h) hHeld ?_
      have hs3 := sum_x C1 ys _ hHeld.h hHeld.k
      rw [HF.out] at hs3
      refine held_call 16 12 #[.tmp 98] #[28] (some 99) #[.pointer (some ⟨C1, 0, none⟩)] _ (by kernel_rfl) (by kernel_rfl) (by kernel_rfl) (by kernel_rfl) (hs3) ?_
      rintro e W8 ⟨rfl, hb8⟩
      refine ⟨_, rfl, hHeld.below hb8, fun hHeld => ?_⟩
      refine held_eql 18 26 (.tmp 99) (.tmp 100) 26 (some 101) (arr8 32 F) (arr8 32 F) true (by kernel_rfl) (by kernel_rfl) (by kernel_rfl) (by kernel_rfl) (equal32 _) (by kernel_rfl) (by kernel_rfl) (by kernel_rfl) (fun _ _ _ _ _ h => h) hHeld ?_
      refine held_pick 19 (.tmp 97) (.tmp 101) (.const (.bool false)) (some 102) true (.bool true) (by kernel_rfl) (by kernel_rfl) (by kernel_rfl) (by kernel_rfl) (by kernel_rfl) (by kernel_rfl) (fun _ _ _ _ _ h => h) hHeld ?_
      refine held_move 20 (.tmp 102) (some 103) (.bool true) (by kernel_rfl) (by kernel_rfl) (by kernel_rfl) (by kernel_rfl) (by kernel_rfl) (fun _ _ _ _ _ h => h) hHeld ?_
      refine held_move 21 (.tmp 7) (some 104) (.pointer (some ⟨C1, 0, none⟩)) (by kernel_rfl) (by kernel_rfl) (by kernel_rfl) (by kernel_rfl) (by kernel_rfl) (fun _ _ _ _ _ h => h) hHeld ?_
      refine held_load 23 26 (.tmp 6) (some 106) GA 0 (arr8 32 F).toList _ (by kernel_rfl) (by kernel_rfl) (fun w h => h.g) Tryd.underlying26 rfl iH (by kernel_rfl) (by kernel_rfl) (by kernel_rfl) (fun _ _ _ _ _ h => h) hHeld ?_
      have hs4 := sum_x C1 ys _ hHeld.h hHeld.k
      rw [HF.out] at hs4
      refine held_call 22 12 #[.tmp 104] #[28] (some 105) #[.pointer (some ⟨C1, 0, none⟩)] _ (by kernel_rfl) (by kernel_rfl) (by kernel_rfl) (by kernel_rfl) (hs4) ?_
      rintro e W9 ⟨rfl, hb9⟩
      refine ⟨_, rfl, hHeld.below hb9, fun hHeld => ?_⟩
      refine held_eql 24 26 (.tmp 105) (.tmp 106) 26 (some 107) (arr8 32 F) (arr8 32 F) true (by kernel_rfl) (by kernel_rfl) (by kernel_rfl) (by kernel_rfl) (equal32 _) (by kernel_rfl) (by kernel_rfl) (by kernel_rfl) (fun _ _ _ _ _ h => h) hHeld ?_
      refine held_pick 25 (.tmp 103) (.tmp 107) (.const (.bool false)) (some 108) true (.bool true) (by kernel_rfl) (by kernel_rfl) (by kernel_rfl) (by kernel_rfl) (by kernel_rfl) (by kernel_rfl) (fun _ _ _ _ _ h => h) hHeld ?_
      refine held_assign 26 (.tmp 108) (some 4) (.bool true) (by kernel_rfl) (by kernel_rfl) (by kernel_rfl) (by kernel_rfl) (by kernel_rfl) (fun _ _ _ _ _ h => h) hHeld ?_
      refine wpAnyH_done (by kernel_rfl) ?_ _
      refine NoPanic.normal ?_
      simp only [Act.put, List.setIfInBounds_toArray, List.set_cons_zero, List.set_cons_succ]
      go_wp2_with fail
      go_ret
      exact ⟨rfl, hHeld.b⟩
end Go.Proofs.YtmbfjnbanlhjpaaDoor
