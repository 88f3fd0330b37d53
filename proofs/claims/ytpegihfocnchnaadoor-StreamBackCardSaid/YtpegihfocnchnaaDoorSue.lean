import Derived.Test.YtpegihfocnchnaaDoorSud
import Derived.Test.YtpegihfocnchnaaDoorSub
import Derived.Maps.AppendAt
/-
  courierref16.All; SamePackets.
-/
namespace Go.Proofs.YtpegihfocnchnaaDoor
open Go.RowKit

theorem SlRead.via {w w' : World} {A : Option Addr} {xs : List Value} (h : SlRead w A xs) (hs : w.heap.size ≤ w'.heap.size) (hb : ∀ b o, A = some ⟨b, o, none⟩ → w'.heap[b]? = w.heap[b]?) : SlRead w' A xs := by
  intro hn
  obtain ⟨b, o, rfl, hlt, hc⟩ := h hn
  exact ⟨b, o, rfl, Nat.lt_of_lt_of_le hlt hs, fun j u hu => (World.cell?_of_block (hb b o rfl)).trans (hc j u hu)⟩
section
variable {P : Program} {md : Region.Mode} {ops : Array Oper} {Q : Exit → Act → World → Prop} {S : World → Prop} {fuel : Nat} {listed : Array Bool} {a : Act} {w : World}
theorem held_cvt (i : Nat) (t u : TypeId) (x : Operand) (dst : Option Tmp) (vx v : Value) (ho : ops[i]?.map (fun o => (o.op, o.dst, Region.wanted o (yielded ops a.tmps))) = some (.convert t u x, dst, true))
    (hx : a.eval x = vx) (he : ∀ w, (convert t u vx).run P w = .ok v w)
    (hs : Region.noSelect ops = true) (hf : Region.free md ops listed i = true) (hr : (Region.ready md ops listed).contains i = true)
    (hQ : ∀ c a v d w, Q (.panic c) (a.put d v) w → Q (.panic c) a w) (hw : S w)
    (h : wpAnyH P md ops Q S fuel (listed.setIfInBounds i true) (a.put dst v) w) : wpAnyH P md ops Q S (fuel + 1) listed a w :=
  held_any i _ dst _ ho hs hf hr hQ hw (fun oo ho w hw => by
    unfold execOp
    simp only [ho, hx, Sem.run_bind, he w]
    rfl) h
theorem rdy_app {rs : List Nat} (i : Nat) (s x : Operand) (t tn ty : TypeId) (dst : Option Tmp) (vs vx v' : Value) (w' : World)
    (hi : ops[i]?.map (fun o => (o.op, o.dst, Region.wanted o (yielded ops a.tmps))) = some (.call { callee := .builtin .append, args := #[s, x], argTypes := #[t, tn] }, dst, true)) (hty : ops[i]?.map (·.type) = some ty)
    (hx : (a.eval s, a.eval x) = (vs, vx)) (hrun : (Builtin.append_ #[t, tn] ty #[vs, vx]).run P w = .ok v' w') (hS : S w')
    (h : S w' → wpAnyH P md ops Q S fuel (listed.setIfInBounds i true) (a.put dst v') w') (rest : AllReadyH P md ops Q S fuel listed a w rs) : AllReadyH P md ops Q S fuel listed a w (i :: rs) := by
  obtain ⟨oi, ho, he⟩ := Option.map_eq_some_iff.1 hi
  obtain ⟨oj, hoj, htj⟩ := Option.map_eq_some_iff.1 hty
  obtain rfl := Option.some.inj (ho.symm.trans hoj)
  simp only [Prod.mk.injEq] at he hx
  refine AllReadyH.cons ho (fun K hK => ?_) rest
  rw [if_pos he.2.2]
  unfold Oper.wp
  simp only [execOp, he.1, resolve, invoke, builtin, Sem.run_bind, Sem.run_pure, Result.andThen_ok, List.map_toArray, List.map_cons, List.map_nil, hx.1, hx.2, htj, hrun]
  rw [Oper.upon_value, he.2.1]
  exact hK.out _ _ hS h
end
/-- one value more on a row of one's own -/
theorem run_push1 (t e ty : TypeId) (z : Value) (bytes : Nat) (hu : Tryd.prog.underlying t = some (.slice e)) (hinfo : (Tryd.prog.info? e).map (fun i => (i.zero, i.size, i.bytes)) = some (some z, 1, bytes)) (hz : z.cells.size = 1) (hby : bytes ≤ 64)
    (W : World) (base : Nat) (v : Value) (xs : List Value) (y : Value) (hown : W.ownsRow base e 1 v xs.length xs) (hb : base ≤ W.heap.size) (hl : xs.length ≤ 100000) (hy : y.oneCell' = true) :
    ∃ v' w', (Builtin.append_ #[t, t] ty #[v, .slice (some ⟨W.heap.size, 0, none⟩) 1 1]).run Tryd.prog (W.alloc (.cells #[y] e)) = .ok v' w' ∧ w'.ownsRow base e 1 v' (xs.length + 1) (xs ++ [y]) ∧ (W.alloc (.cells #[y] e)).grownBy w' v.ownBlock ∧ (v'.ownBlock = v.ownBlock ∨ v'.ownBlock = some (W.heap.size + 1)) := by
  obtain ⟨i0, hi, hz0, hz1, hz2⟩ := info_parts hinfo
  obtain ⟨v', w', hr, h2, h3, _, h5⟩ := run_append_own_at (P := Tryd.prog) (W.alloc (.cells #[y] e)) base t ty e i0 z 1 bytes hu hi hz0 hz1 hz2 hz (by decide) v _ _ (hown.alloc _) ⟨W.heap.size, 0, none⟩ 1 1 [y] (by simp) (by
    intro j u hu
    rw [add_eq, Nat.zero_add, World.cell?_alloc_new]
    simpa using hu) (by
    intro u hu
    simp at hu
    rw [hu]; exact hy) (by unfold maxLen; omega) (by
      have : (xs.length + 1) * bytes ≤ 100001 * 64 := Nat.mul_le_mul (by omega) hby
      omega) (by simp; omega)
  refine ⟨v', w', hr, h2, h3, ?_⟩
  rcases h5 with h5 | h5
  · exact .inl h5
  · refine .inr ?_
    rw [h5]; simp
/-- slices of bytes as values -/
def pkv (L : Nat → List (BitVec 8)) (As : Nat → Option Addr) (cs : Nat → Nat) (k : Nat) : List Value := (List.range k).map fun i => .slice (As i) (L i).length (cs i)
theorem pkv_length {L : Nat → List (BitVec 8)} {As : Nat → Option Addr} {cs : Nat → Nat} {k : Nat} : (pkv L As cs k).length = k := by simp [pkv]
theorem pkv_snoc (L : Nat → List (BitVec 8)) (As : Nat → Option Addr) (cs : Nat → Nat) (k : Nat) (A : Option Addr) (c : Nat) : pkv L As cs k ++ [.slice A (L k).length c] = pkv L (fun i => if i = k then A else As i) (fun i => if i = k then c else cs i) (k + 1) := by
  unfold pkv
  rw [List.range_succ, List.map_append]
  congr 1
  · apply List.map_congr_left
    intro i hi
    have : i ≠ k := by have := List.mem_range.1 hi; omega
    simp [this]
  · simp
theorem pkv_get {L : Nat → List (BitVec 8)} {As : Nat → Option Addr} {cs : Nat → Nat} {k i : Nat} (h : i < k) : (pkv L As cs k)[i]? = some (.slice (As i) (L i).length (cs i)) := by simp [pkv, h]
/-- slices of bytes, all of which can be read -/
structure PkRd (A : Option Addr) (n : Nat) (L : Nat → List (BitVec 8)) (As : Nat → Option Addr) (cs : Nat → Nat) (W : World) : Prop where
  rd : SlRead W A (pkv L As cs n)
  el : ∀ i, i < n → SlRead W (As i) (ints .u8 (bys (L i))) ∧ (L i).length ≤ cs i
theorem PkRd.below {A : Option Addr} {n : Nat} {L : Nat → List (BitVec 8)} {As : Nat → Option Addr} {cs : Nat → Nat} {W W' : World} (h : PkRd A n L As cs W) (hb : Below W.heap.size W W') : PkRd A n L As cs W' :=
  ⟨h.rd.below hb, fun i hi => ⟨(h.el i hi).1.below hb, (h.el i hi).2⟩⟩
theorem PkAt.rds {G n : Nat} {L : Nat → List (BitVec 8)} {As : Nat → Option Addr} {cs : Nat → Nat} {W : World} (h : PkAt G n n L As cs W) : PkRd (some ⟨G, 0, none⟩) n L As cs W := by
  refine ⟨fun _ => ⟨G, 0, rfl, h.row.lt, fun j u hu => ?_⟩, fun i hi => ⟨(h.rd i hi).1, (h.rd i hi).2.1⟩⟩
  have hj : j < n := by
    have := (List.getElem?_eq_some_iff.1 hu).1
    rwa [pkv_length] at this
  rw [pkv_get hj] at hu
  obtain rfl := Option.some.inj hu
  have := h.row.cell hj
  rw [if_pos hj] at this
  rw [Nat.zero_add]
  exact this
/-- some of them, in a row of one's own -/
structure PkO (B k : Nat) (L : Nat → List (BitVec 8)) (As : Nat → Option Addr) (cs : Nat → Nat) (v : Value) (W : World) : Prop where
  own : W.ownsRow B 24 1 v k (pkv L As cs k)
  rd : ∀ i, i < k → SlRead W (As i) (ints .u8 (bys (L i))) ∧ (L i).length ≤ cs i ∧ ∀ b o, As i = some ⟨b, o, none⟩ → b < W.heap.size ∧ v.ownBlock ≠ some b
theorem PkO.rds {B k : Nat} {L : Nat → List (BitVec 8)} {As : Nat → Option Addr} {cs : Nat → Nat} {A : Option Addr} {n c : Nat} {W : World} (h : PkO B k L As cs (.slice A n c) W) (hn : n = k) : PkRd A k L As cs W := by
  subst hn
  exact ⟨SlRead.of_own h.own, fun i hi => ⟨(h.rd i hi).1, (h.rd i hi).2.1⟩⟩

set_option maxRecDepth 100000 in
set_option maxHeartbeats 3200000 in
theorem dall_any (key : Nat → BitVec 8) (A : Option Addr) (file : List (BitVec 8)) (ca : Nat) (ch : Int) (w : World) (hA : SlRead w A (ints .u8 (bys file))) (hca : file.length ≤ ca) (hl : file.length ≤ 1000) (hch : ch ≤ 100000) :
    Calls Tryd.prog 9 #[.agg (arr8 32 key), .slice A file.length ca, .int .i64 ch] w fun e w' => ∃ O c As cs, e = .returned (.slice O (countN file.length ch) c) ∧ PkRd O (countN file.length ch) (sealC key file ch) As cs w' ∧ Below w.heap.size w w' := by
  have hcN := fun W => dcount_any file.length ch W (by omega)
  have hcb : countN file.length ch ≤ 1001 := by
    unfold countN
    split
    · omega
    · have := Nat.div_le_self (((file.length : Nat) : Int).toNat - 1) (oneN ch)
      simp at this ⊢
      omega
  go_enter Tryd.func9, Tryd.ntmps9
  have hsC : ∀ k, sealC key file ch k = sealB key (nonB (BitVec.ofNat 32 k) ((k : Int) == ((countN file.length ch : Int) - 1))) [] (pieceL file ch (k : Int)) := fun k => rfl
  obtain ⟨N, hN⟩ : ∃ N, N = countN file.length ch := ⟨_, rfl⟩
  rw [← hN] at hcN hcb hsC ⊢
  have HSC := Lib.hid hsC
  clear hsC hN
  generalize sealC key file ch = L at HSC ⊢
  have HCN := Lib.hid hcN
  clear hcN
  go_upto_region 1 with (fail)
  refine wp_world (fun W => W.rowIs w.heap.size 23 32 (fun i => v8 (key i)) ∧ Below w.heap.size w W) ⟨rowIs_new _ _ _ _ _ _ rfl (by simp) (fun i hi => arr8_get 32 key i hi), by go_grown⟩ ?_
  rintro W0 ⟨hk, h2⟩
  generalize hB : w.heap.size = B at hk h2 ⊢
  have HB := Lib.hid hB; clear hB
  go_wp2_with fail
  refine (HCN.out W0).mono ?_
  rintro e W1 ⟨rfl, hb1⟩
  have hk1 := hk.of_block (hb1.block _ hk.lt)
  have hbw := h2.trans (hb1.mono (Nat.le_of_lt hk.lt))
  clear hk h2 hb1 HCN
  go_wp2_with fail
  have hp0 : PkO (B + 1) 0 L (fun _ => none) (fun _ => 0) (.slice none 0 0) W1 := ⟨World.ownsRow_nil W1 _ _ _, fun i hi => by omega⟩
  go_loopw [7, 9] (fun v i wr => ∃ k : Nat, k ≤ N ∧ i = .int .i64 k ∧ ∃ As cs, wr.rowIs B 23 32 (fun i => v8 (key i)) ∧ PkO (B + 1) k L As cs v wr ∧ Below B w wr) (fun _ i _ => N - (intOf i).toNat)
  case atStart => exact ⟨0, by omega, rfl, _, _, hk1, hp0, hbw⟩
  clear hk1 hp0 hbw
  case round =>
    obtain ⟨k, hkN, rfl, As, cs, hk, hp, hb⟩ := hrel
    by_cases hlt : k < N
    · obtain ⟨S, hS⟩ : ∃ S, S = L k := ⟨_, rfl⟩
      obtain ⟨P, hP⟩ : ∃ P, P = pieceL file ch (k : Int) := ⟨_, rfl⟩
      have hPl : P.length ≤ 1000 := by rw [hP]; exact Nat.le_trans (pieceL_len _ _ _) hl
      have hSP : S = sealB key (nonB (BitVec.ofNat 32 k) ((k : Int) == ((N : Int) - 1))) [] P := by rw [hS, HSC.out, hP]
      have hAr : SlRead wr A (ints .u8 (bys file)) := hA.below (by rw [HB.out]; exact hb)
      have hBr : B < wr.heap.size := hk.lt
      obtain ⟨V, hV⟩ : ∃ V, V = wr.drew := ⟨_, rfl⟩
      have hdV : Below wr.heap.size wr V := by rw [hV]; exact Below.drewNr 1
      have hVs : V.heap.size = wr.heap.size := by rw [hV]; rfl
      have hkV : V.rowIs B 23 32 (fun i => v8 (key i)) := hk.of_block (hdV.block _ hBr)
      have hBV : B + 1 ≤ V.heap.size := by omega
      have HP : ∀ w', Below V.heap.size V w' → Calls Tryd.prog 14 #[.slice A file.length ca, .int .i64 ch, .int .i64 ((k : Nat) : Int)] w' fun e w'' => ∃ r, e = .returned r ∧ Below w'.heap.size w' w'' ∧ SlIsA P r w'' := fun w' hb' => by
        rw [hP]
        exact dpiece_any A file ca ch (k : Int) w' ((hAr.below hdV).below hb') hca hl (by omega) hch
      have hSpos : 0 < (ints .u8 (bys S)).length := by rw [show (ints .u8 (bys S)).length = S.length by simp, hSP, sealB_length]; omega
      have HS : ∀ w', Below V.heap.size V w' → ∀ X cx, SlRead w' X (ints .u8 (bys P)) → Calls Tryd.prog 17 #[.agg (arr8 32 key), v32 (BitVec.ofNat 32 k), .bool ((k : Int) == ((N : Int) - 1)), .slice X P.length cx] w' fun e w'' => ∃ r, e = .returned r ∧ Below w'.heap.size w' w'' ∧ SlFr V.heap.size S r w'' := fun w' hb' X cx hX => by
        refine (dsseal_any key (BitVec.ofNat 32 k) ((k : Int) == ((N : Int) - 1)) X P cx w' hX hPl).mono ?_
        rintro e w'' ⟨v, rfl, h⟩
        rw [← hSP] at h
        exact ⟨v, rfl, h.b, h.fr hb'.size⟩
      obtain ⟨n, hn⟩ : ∃ n, n = file.length := ⟨_, rfl⟩
      rw [← hn] at HP ⊢
      have HSS := Lib.hid hS
      have HNN := Lib.hid hn
      clear hS hP hSP hAr hn hPl
      go_upto_region 6 with (fail)
      refine wp_region_noPanic ?_
      refine wp_region_held_drew (S := fun W' => Below (B + 1) wr.drew W') (by kernel_rfl) (Below.refl _ _) (fun hHeld => ?_)
      rw [← hV] at hHeld ⊢
      refine held_move 0 (.tmp 7) (some 19) (u7) (by kernel_rfl) (by kernel_rfl) (by kernel_rfl) (by kernel_rfl) (by kernel_rfl) (fun _ _ _ _ _ h => h) hHeld ?_
      refine held_move 2 (.tmp 9) (some 21) (.int .i64 ((k : Nat) : Int)) (by kernel_rfl) (by kernel_rfl) (by kernel_rfl) (by kernel_rfl) (by kernel_rfl) (fun _ _ _ _ _ h => h) hHeld ?_
      refine held_move 4 (.tmp 9) (some 23) (.int .i64 ((k : Nat) : Int)) (by kernel_rfl) (by kernel_rfl) (by kernel_rfl) (by kernel_rfl) (by kernel_rfl) (fun _ _ _ _ _ h => h) hHeld ?_
      refine held_move 5 (.tmp 8) (some 24) (.int .i64 (N : Int)) (by kernel_rfl) (by kernel_rfl) (by kernel_rfl) (by kernel_rfl) (by kernel_rfl) (fun _ _ _ _ _ h => h) hHeld ?_
      refine held_move 8 (.tmp 1) (some 27) (.slice A n ca) (by kernel_rfl) (by kernel_rfl) (by kernel_rfl) (by kernel_rfl) (by kernel_rfl) (fun _ _ _ _ _ h => h) hHeld ?_
      refine held_move 9 (.tmp 2) (some 28) (.int .i64 ch) (by kernel_rfl) (by kernel_rfl) (by kernel_rfl) (by kernel_rfl) (by kernel_rfl) (fun _ _ _ _ _ h => h) hHeld ?_
      refine held_move 10 (.tmp 9) (some 29) (.int .i64 ((k : Nat) : Int)) (by kernel_rfl) (by kernel_rfl) (by kernel_rfl) (by kernel_rfl) (by kernel_rfl) (fun _ _ _ _ _ h => h) hHeld ?_
      refine held_load 1 23 (.tmp 3) (some 20) B 0 (arr8 32 key).toList _ (by kernel_rfl) (by kernel_rfl) (fun w h => rangeAt_row (hkV.of_block (h.block _ (by omega)))) Tryd.underlying23 rfl (by simp only [Array.length_toList, arr8_size]; kernel_rfl) (by kernel_rfl) (by kernel_rfl) (by kernel_rfl) (fun _ _ _ _ _ h => h) hHeld ?_
      refine held_cvt 3 3 25 (.tmp 21) (some 22) (.int .i64 ((k : Nat) : Int)) (v32 (BitVec.ofNat 32 k)) (by kernel_rfl) (by kernel_rfl) (cvt_u32 k) (by kernel_rfl) (by kernel_rfl) (by kernel_rfl) (fun _ _ _ _ _ h => h) hHeld ?_
      refine held_bin 6 .sub 3 (.tmp 24) (.const (.int .i64 1)) 3 (some 25) (.int .i64 (N : Int)) (.int .i64 1) (.int .i64 ((N : Int) - 1)) (by kernel_rfl) (by kernel_rfl) (sub_i64A _ _ _ _ _ _ rfl (by omega) (by omega)) (by kernel_rfl) (by kernel_rfl) (by kernel_rfl) (fun _ _ _ _ _ h => h) hHeld ?_
      refine held_bin 7 .eql 3 (.tmp 23) (.tmp 25) 3 (some 26) (.int .i64 ((k : Nat) : Int)) (.int .i64 ((N : Int) - 1)) (.bool ((k : Int) == ((N : Int) - 1))) (by kernel_rfl) (by kernel_rfl) (eq_i64 _ _ _ _ _) (by kernel_rfl) (by kernel_rfl) (by kernel_rfl) (fun _ _ _ _ _ h => h) hHeld ?_
      refine held_call 11 14 (#[Go.Operand.tmp 27, Go.Operand.tmp 28, Go.Operand.tmp 29]) (#[24, 3, 3]) (some 30) #[.slice A n ca, .int .i64 ch, .int .i64 ((k : Nat) : Int)] _ (by kernel_rfl) (by kernel_rfl) (by kernel_rfl) (by kernel_rfl) (HP V (Below.refl _ _)) ?_
      rintro e Y1 ⟨r1, rfl, hb1, A1, c1, rfl, l1, q1⟩
      refine ⟨_, rfl, hHeld.trans (hb1.mono hBV), fun hHeld => ?_⟩
      refine held_call 12 17 (#[Go.Operand.tmp 20, Go.Operand.tmp 22, Go.Operand.tmp 26, Go.Operand.tmp 30]) (#[23, 25, 4, 24]) (some 31) #[.agg (arr8 32 key), v32 (BitVec.ofNat 32 k), .bool ((k : Int) == ((N : Int) - 1)), .slice A1 P.length c1] _ (by kernel_rfl) (by kernel_rfl) (by kernel_rfl) (by kernel_rfl) (HS Y1 hb1 A1 c1 q1) ?_
      rintro e Y2 ⟨r2, rfl, hb2, A2, c2, rfl, l2, q2, f2⟩
      refine ⟨_, rfl, hHeld.trans (hb2.mono (Nat.le_trans hBV hb1.size)), fun hHeld => ?_⟩
      have hVY := hb1.trans (hb2.mono hb1.size)
      have hBY : B + 1 ≤ Y2.heap.size := Nat.le_trans hBV hVY.size
      refine held_ready [13] (by kernel_rfl) (by simp) (rdy_bsl 13 28 24 (.tmp 31) (some 32) (.slice A2 S.length c2) (by kernel_rfl) (by kernel_rfl) (by kernel_rfl) (hHeld.alloc hBY _) ?_ AllReadyH.nil)
      intro hHeld
      have hown2 := ownsRow_via hp.own (fun g _ hlt => ((hdV.trans (hVY.mono (Nat.le_of_eq hVs.symm))).block g hlt))
      obtain ⟨v', w', hrun, hown', hg, hat⟩ := run_push1 28 24 28 (.slice none 0 0) 24 Tryd.underlying28 infoSl rfl (by decide) Y2 (B + 1) u7 (pkv L As cs k) (.slice A2 S.length c2) (by rw [pkv_length]; exact hown2) hBY (by rw [pkv_length]; omega) rfl
      refine held_ready [14] (by kernel_rfl) (by simp) (rdy_app 14 (.tmp 19) (.tmp 32) 28 28 28 (some 33) u7 (.slice (some ⟨Y2.heap.size, 0, none⟩) 1 1) v' w' (by kernel_rfl) (by kernel_rfl) (by kernel_rfl) hrun (hHeld.grown hg (by simp; omega) (fun j hj => (hown2.lt j hj).1)) ?_ AllReadyH.nil)
      intro hHeld
      refine held_assign 15 (.tmp 33) (some 7) (v') (by kernel_rfl) (by kernel_rfl) (by kernel_rfl) (by kernel_rfl) (by kernel_rfl) (fun _ _ _ _ _ h => h) hHeld ?_
      refine wpAnyH_done (by kernel_rfl) ?_ _
      refine NoPanic.normal ?_
      simp only [Act.put, List.setIfInBounds_toArray, List.set_cons_zero, List.set_cons_succ]
      rw [HSS.out] at hown' q2 l2
      rw [pkv_length, pkv_snoc] at hown'
      have hgY : ∀ j, j < Y2.heap.size → u7.ownBlock ≠ some j → w'.heap[j]? = Y2.heap[j]? := fun j hj hne => (hg.block j (by simp; omega) (fun e => hne e.symm)).trans (((Below.refl Y2.heap.size Y2).alloc (Nat.le_refl _) _).block j hj)
      have hsz : Y2.heap.size + 1 ≤ w'.heap.size := by have := hg.size; simpa using this
      have hwV := hVY.size
      have hvlt : ∀ j, u7.ownBlock = some j → j < wr.heap.size := fun j hj => (hp.own.lt j hj).2
      have hnew : ∀ b, b < Y2.heap.size → u7.ownBlock ≠ some b → v'.ownBlock ≠ some b := fun b hb hne e => by
        rcases hat with h | h
        · rw [h] at e; exact hne e
        · rw [h] at e; injection e with e; omega
      have hp' : PkO (B + 1) (k + 1) L (fun i => if i = k then A2 else As i) (fun i => if i = k then c2 else cs i) v' w' := by
        refine ⟨hown', fun i hi => ?_⟩
        by_cases e : i = k
        · subst e
          simp only [if_pos]
          have hne : ∀ b o, A2 = some ⟨b, o, none⟩ → b < Y2.heap.size ∧ u7.ownBlock ≠ some b := fun b o e => by
            have h1 := f2 b o e
            obtain ⟨b', o', e', hlt', _⟩ := q2 (by rw [← HSS.out]; exact hSpos)
            rw [e] at e'
            injection e' with e'
            injection e' with e1 e2
            refine ⟨by rw [e1]; exact hlt', fun e3 => ?_⟩
            have := hvlt _ e3
            omega
          exact ⟨q2.via (by omega) (fun b o e => hgY b (hne b o e).1 (hne b o e).2), l2, fun b o e => ⟨by have := (hne b o e).1; omega, hnew b (hne b o e).1 (hne b o e).2⟩⟩
        · simp only [if_neg e]
          obtain ⟨h1, h2, h3⟩ := hp.rd i (by omega)
          exact ⟨(((h1.below hdV).below hVY).via (by omega) (fun b o e => hgY b (by have := (h3 b o e).1; omega) (h3 b o e).2)), h2, fun b o e => ⟨by have := (h3 b o e).1; omega, hnew b (by have := (h3 b o e).1; omega) (h3 b o e).2⟩⟩
      have hbb := hb.trans ((hdV.mono (Nat.le_of_lt hBr)).trans (hHeld.mono (Nat.le_succ B)))
      have hk' := hkV.of_block (hHeld.block _ (Nat.lt_succ_self B))
      clear hHeld hg hrun hown2 hat hVY hb1 hb2 q1 q2 f2 hk hp hb hkV hdV HP HS hgY hnew hvlt
      rw [← HNN.out] at *
      go_wp2_with fail
      go_roundw
      case rel => exact ⟨k + 1, by omega, by go_num, _, _, hk', hp', hbb⟩
      case measure => simp [intOf]; omega
    · obtain rfl : k = N := by omega
      obtain ⟨O, c, rfl, hc⟩ := ownsRow_form hp.own
      have hrd := hp.rds rfl
      clear hlt hkN hp hc
      go_wp2_with fail
      go_ret
      rw [HB.out]
      exact ⟨O, c, As, cs, rfl, hrd, hb⟩

set_option maxRecDepth 100000 in
theorem samepk_any (A Bb : Option Addr) (N cA cB : Nat) (L : Nat → List (BitVec 8)) (As Bs : Nat → Option Addr) (cs ds : Nat → Nat) (w : World) (hA : PkRd A N L As cs w) (hB : PkRd Bb N L Bs ds w) (hN : N ≤ 100000) (hL : ∀ i, i < N → (L i).length ≤ 100000) :
    Calls Tryd.prog 15 #[.slice A N cA, .slice Bb N cB] w fun e w' => e = .returned (.bool true) ∧ Below w.heap.size w w' := by
  go_enter Tryd.func15, Tryd.ntmps15
  go_wp2_with fail
  go_loopw [5] (fun i wr => ∃ k : Nat, k ≤ N ∧ i = .int .i64 k ∧ Below w.heap.size w wr) (fun i _ => N - (intOf i).toNat)
  case atStart => exact ⟨0, by omega, rfl, Below.refl _ _⟩
  case round =>
    obtain ⟨k, hkN, rfl, hb⟩ := hrel
    by_cases hlt : k < N
    · have hA' := hA.below hb
      have hB' := hB.below hb
      obtain ⟨ga, oa, rfl, hga, hcA⟩ := hA'.rd (by rw [pkv_length]; omega)
      obtain ⟨gb, ob, rfl, hgb, hcB⟩ := hB'.rd (by rw [pkv_length]; omega)
      have hca := hcA k _ (pkv_get hlt)
      have hcb := hcB k _ (pkv_get hlt)
      have HQ : ∀ w', Below wr.heap.size wr w' → Calls Tryd.prog 12 #[.slice (As k) (L k).length (cs k), .slice (Bs k) (L k).length (ds k)] w' fun e w'' => e = .returned (.bool true) ∧ Below w'.heap.size w' w'' := fun w' hb' =>
        quietB (same_true (As k) (Bs k) (L k) (cs k) (ds k) w' ((hA'.el k hlt).1.below hb') ((hB'.el k hlt).1.below hb') (hL k hlt))
      clear hA' hB' hcA hcB
      go_upto_region 6 with (fail)
      refine wp_region_spec_tail 9 [Sp.k 0 (some 18) [] (.slice (some ⟨ga, oa, none⟩) N cA),
        Sp.k 1 (some 19) [] (.int .i64 ((k : Nat) : Int)),
        Sp.k 2 (some 20) [0, 1] (.pointer (some ⟨ga, oa + k, none⟩)),
        Sp.k 3 (some 21) [0, 1, 2] (.slice (As k) (L k).length (cs k)),
        Sp.k 4 (some 22) [] (.slice (some ⟨gb, ob, none⟩) N cB),
        Sp.k 5 (some 23) [] (.int .i64 ((k : Nat) : Int)),
        Sp.k 6 (some 24) [4, 5] (.pointer (some ⟨gb, ob + k, none⟩)),
        Sp.k 7 (some 25) [4, 5, 6] (.slice (Bs k) (L k).length (ds k)),
        Sp.k 8 (some 26) [0, 1, 2, 3, 4, 5, 6, 7] (.bool true)] (by kernel_rfl) (by kernel_rfl)
        ⟨owes_move 0 (some 18) [] (.slice (some ⟨ga, oa, none⟩) N cA) (Go.Operand.tmp 0) (fun v => by kernel_rfl) (fun v => by kernel_rfl),
        owes_move 1 (some 19) [] (.int .i64 ((k : Nat) : Int)) (Go.Operand.tmp 5) (fun v => by kernel_rfl) (fun v => by kernel_rfl),
        owes_index 2 (some 20) [0, 1] (.pointer (some ⟨ga, oa + k, none⟩)) 28 (Go.Operand.tmp 18) (Go.Operand.tmp 19) (.slice (some ⟨ga, oa, none⟩) N cA) (.int .i64 ((k : Nat) : Int)) (fun v => by kernel_rfl) (fun v => by kernel_rfl) (idx_sl (P := Tryd.prog) Tryd.underlying28 (show (Tryd.prog.info? 24).map (·.size) = some 1 by kernel_rfl) ga oa N cA k hlt),
        owes_load 3 (some 21) [0, 1, 2] (.slice (As k) (L k).length (cs k)) 24 (Go.Operand.tmp 20) (.pointer (some ⟨ga, oa + k, none⟩)) (fun v => by kernel_rfl) (fun v => by kernel_rfl) (fun w' hb => slc_load _ _ _ w' ((hb.cell (p := ⟨ga, oa + k, none⟩) hga).trans hca)),
        owes_move 4 (some 22) [] (.slice (some ⟨gb, ob, none⟩) N cB) (Go.Operand.tmp 1) (fun v => by kernel_rfl) (fun v => by kernel_rfl),
        owes_move 5 (some 23) [] (.int .i64 ((k : Nat) : Int)) (Go.Operand.tmp 5) (fun v => by kernel_rfl) (fun v => by kernel_rfl),
        owes_index 6 (some 24) [4, 5] (.pointer (some ⟨gb, ob + k, none⟩)) 28 (Go.Operand.tmp 22) (Go.Operand.tmp 23) (.slice (some ⟨gb, ob, none⟩) N cB) (.int .i64 ((k : Nat) : Int)) (fun v => by kernel_rfl) (fun v => by kernel_rfl) (idx_sl (P := Tryd.prog) Tryd.underlying28 (show (Tryd.prog.info? 24).map (·.size) = some 1 by kernel_rfl) gb ob N cB k hlt),
        owes_load 7 (some 25) [4, 5, 6] (.slice (Bs k) (L k).length (ds k)) 24 (Go.Operand.tmp 24) (.pointer (some ⟨gb, ob + k, none⟩)) (fun v => by kernel_rfl) (fun v => by kernel_rfl) (fun w' hb => slc_load _ _ _ w' ((hb.cell (p := ⟨gb, ob + k, none⟩) hgb).trans hcb)),
        owes_call 8 (some 26) [0, 1, 2, 3, 4, 5, 6, 7] (.bool true) 12 #[Go.Operand.tmp 21, Go.Operand.tmp 25] #[24, 24] (fun v => by kernel_rfl) (fun _ _ => by kernel_rfl) (fun v w' hb ho => by
            exact ⟨#[.slice (As k) (L k).length (cs k), .slice (Bs k) (L k).length (ds k)], by kernel_rfl, (HQ w' (drB hb)).mono (fun _ _ h => h)⟩), trivial⟩ ?_
      intro v w1 hb1 hall
      clear hall HQ hca hcb hga hgb
      have hbb := hb.trans ((drB hb1).mono hb.size)
      clear hb hb1
      simp only [putsL_k, putsL_nil, List.set_cons_zero, List.set_cons_succ]
      go_wp2_with fail
      go_roundw
      case rel => exact ⟨k + 1, by omega, by go_num, hbb⟩
      case measure => simp [intOf]; omega
    · obtain rfl : k = N := by omega
      go_wp2_with fail
      go_ret
      exact ⟨rfl, hb⟩
end Go.Proofs.YtpegihfocnchnaaDoor
