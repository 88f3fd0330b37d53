import Derived.Test.YtccchhfcoicgcaaDoorMsum
namespace Go.Proofs.YtccchhfcoicgcaaDoor
open Go.RowKit

def saltOf (s : List (BitVec 8)) : List (BitVec 8) := if s.length = 0 then lst 32 (fun _ => 0#8) else s
theorem saltOf_len (s : List (BitVec 8)) : (saltOf s).length = if s.length = 0 then 32 else s.length := by unfold saltOf; split <;> simp
/-- the derived blocks, one by one -/
def hkT (sec info : List (BitVec 8)) : Nat → List (BitVec 8)
  | 0 => []
  | k + 1 => lst 32 (macOf sec (hkT sec info k ++ (info ++ [BitVec.ofNat 8 (k + 1)])))
def hkOut (sec info : List (BitVec 8)) : Nat → List (BitVec 8)
  | 0 => []
  | k + 1 => hkOut sec info k ++ hkT sec info (k + 1)
theorem hkT_len (sec info : List (BitVec 8)) (k : Nat) : (hkT sec info (k + 1)).length = 32 := by simp [hkT]
theorem hkOut_len (sec info : List (BitVec 8)) (k : Nat) : (hkOut sec info k).length = 32 * k := by
  induction k with
  | zero => rfl
  | succ k ih => simp only [hkOut, List.length_append, ih, hkT_len]; omega
def secOf (salt key : List (BitVec 8)) : List (BitVec 8) := lst 32 (macOf (saltOf salt) key)
/-- n derived bytes -/
def hkdf (salt key info : List (BitVec 8)) (n : Nat) : List (BitVec 8) := (hkOut (secOf salt key) info ((n + 31) / 32)).take n
theorem hkdf_len (salt key info : List (BitVec 8)) (n : Nat) : (hkdf salt key info n).length = n := by
  unfold hkdf
  rw [List.length_take, hkOut_len]
  omega
theorem hkOut_more (sec info : List (BitVec 8)) (k j : Nat) : ∃ r, hkOut sec info (k + j) = hkOut sec info k ++ r := by
  induction j with
  | zero => exact ⟨[], by simp⟩
  | succ j ih =>
    obtain ⟨r, hr⟩ := ih
    exact ⟨r ++ hkT sec info (k + j + 1), by rw [← Nat.add_assoc]; simp only [hkOut, hr, List.append_assoc]⟩
theorem hkdf_less (salt key info : List (BitVec 8)) (n m : Nat) (h : n ≤ m) : (hkdf salt key info m).take n = hkdf salt key info n := by
  unfold hkdf
  obtain ⟨r, hr⟩ := hkOut_more (secOf salt key) info ((n + 31) / 32) ((m + 31) / 32 - (n + 31) / 32)
  rw [show (n + 31) / 32 + ((m + 31) / 32 - (n + 31) / 32) = (m + 31) / 32 by omega] at hr
  rw [hr, List.take_take, Nat.min_eq_left h, List.take_append_of_le_length (by rw [hkOut_len]; omega)]

theorem slice_hm {P : Program} {t e : TypeId} (hu : P.underlying t = some (.slice e)) (hs : (P.info? e).map (·.size) = some 1) (A : Option Addr) (len cap n : Nat) (hn : n ≤ cap) (w : World) :
    (Instr.slice t (.slice A len cap) none (some (.int .i64 (n : Int))) (some (.int .i64 (n : Int)))).run P w = .ok (.slice A n n) w := by
  have e2 : P.elem t = e := by simp [Program.elem, hu]
  rw [run_slice_hm (P := P) w t A len cap (by rw [e2]; exact hu) .i64 .i64 (n : Int) (n : Int) (by omega) (by omega) (by omega), e2]
  obtain ⟨i, hi, hz⟩ := Option.map_eq_some_iff.1 hs
  simp [sizeOf, typeInfo, hi, hz, Result.andThen, sliced]
  intro _
  cases A with
  | none => rfl
  | some a => obtain ⟨b, o, r⟩ := a; cases r <;> simp [Addr.add]

theorem byte_of (k : Nat) : ((k : Int) + 1) % 256 = n8 (BitVec.ofNat 8 (k + 1)) := by
  rw [n8_nat, BitVec.toNat_ofNat]
  omega

theorem bsl_three (A B C : Option Addr) (n c n' c' n'' c'' : Nat) (w : World) : (Instr.buildSlice 46 3 #[(0, .slice A n c), (1, .slice B n' c'), (2, .slice C n'' c'')]).run Tryd.prog w = .ok (.slice (some ⟨w.heap.size, 0, none⟩) 3 3) (w.alloc (.cells #[.slice A n c, .slice B n' c', .slice C n'' c''] 33)) := by kernel_rfl
theorem SlRead.three_new {W : World} (v v' v'' : Value) (t : TypeId) : SlRead (W.alloc (.cells #[v, v', v''] t)) (some ⟨W.heap.size, 0, none⟩) [v, v', v''] := by
  intro _
  refine ⟨W.heap.size, 0, rfl, by simp, fun j u hj => ?_⟩
  rw [Nat.zero_add, World.cell?_alloc_new]
  simpa using hj

theorem ownsRow_off {w : World} {base : Nat} {e : TypeId} {size : Nat} {v : Value} {n : Nat} {xs : List Value} {D m : Nat} {t : TypeId} {f : Nat → Value} (h : w.ownsRow base e size v n xs) (hr : w.rowIs D t m f) (hne : e ≠ t) : some D ≠ v.ownBlock := by
  intro ed
  rcases h.2 with ⟨rfl, _⟩ | ⟨g, cap, cur, rfl, _, e3, _⟩
  · simp [Value.ownBlock] at ed
  · simp [Value.ownBlock] at ed
    subst ed
    obtain ⟨c, hc, _⟩ := hr
    rw [hc] at e3
    simp at e3
    exact hne e3.2.symm

theorem SlRead.take {w : World} {A : Option Addr} {xs : List Int} {k : IntKind} (h : SlRead w A (ints k xs)) (c : Nat) : SlRead w A (ints k (xs.take c)) := by
  intro hn
  obtain ⟨b, o, rfl, hlt, hcell⟩ := h (by simp at hn ⊢; omega)
  refine ⟨b, o, rfl, hlt, fun j u hu => ?_⟩
  refine hcell j u ?_
  rw [← hu]
  have hj : j < c := by
    have := (List.getElem?_eq_some_iff.1 hu).1
    simp at this; omega
  simp [ints, hj]
theorem bys_take (ys : List (BitVec 8)) (n : Nat) : (bys ys).take n = bys (ys.take n) := by simp [bys, List.map_take]

/-- mac.Sum of one slice -/
theorem msum_one (A : Option Addr) (ks : List (BitVec 8)) (ca : Nat) (B : Option Addr) (ys : List (BitVec 8)) (cb : Nat) (w : World) (hA : SlRead w A (ints .u8 (bys ks))) (hca : ks.length ≤ ca) (hla : ks.length ≤ 4611686018427387904)
    (hB : SlRead w B (ints .u8 (bys ys))) (hcb : ys.length ≤ cb) (hlb : ys.length ≤ 4611686018427387904) (hk : KAt w) :
    Calls Tryd.prog 16 #[.slice A ks.length ca, .slice (some ⟨w.heap.size, 0, none⟩) 1 1] (w.alloc (.cells #[.slice B ys.length cb] 33)) fun e w' => e = .returned (.agg (arr8 32 (macOf ks ys))) ∧ Below w.heap.size w w' := by
  have hb : Below w.heap.size w (w.alloc (.cells #[.slice B ys.length cb] 33)) := (Below.refl _ _).alloc (Nat.le_refl _) _
  have := msum_any A ks ca (some ⟨w.heap.size, 0, none⟩) [(B, ys, cb)] 1 (w.alloc (.cells #[.slice B ys.length cb] 33)) (hA.below hb) hca hla (SlRead.one_new _ _) (by
    intro a ha
    simp at ha
    subst ha
    exact ⟨hB.below hb, hcb, hlb⟩) (by simp) (hk.below hb)
  refine this.mono ?_
  rintro e w' ⟨rfl, hb2⟩
  exact ⟨by simp [flat], hb.trans (hb2.mono hb.size)⟩

set_option maxRecDepth 100000 in
set_option maxHeartbeats 3200000 in
theorem derive_far (A : Option Addr) (salt : List (BitVec 8)) (ca : Nat) (B : Option Addr) (key : List (BitVec 8)) (cb : Nat) (C : Option Addr) (info : List (BitVec 8)) (cc n : Nat) (w : World)
    (hA : SlRead w A (ints .u8 (bys salt))) (hca : salt.length ≤ ca) (hla : salt.length ≤ 4611686018427387904) (hB : SlRead w B (ints .u8 (bys key))) (hcb : key.length ≤ cb) (hlb : key.length ≤ 4611686018427387904)
    (hC : SlRead w C (ints .u8 (bys info))) (hcc : info.length ≤ cc) (hlc : info.length ≤ 4611686018427387904) (hn : n ≤ 8160) (hk : KAt w) :
    Calls Tryd.prog 15 #[.slice A salt.length ca, .slice B key.length cb, .slice C info.length cc, .int .i64 n] w fun e w' => ∃ O, e = .returned (.tuple #[.slice O n n, Value.nilIface]) ∧ SlRead w' O (ints .u8 (bys (hkdf salt key info n))) ∧ Below w.heap.size w w' ∧ ∀ b o, O = some ⟨b, o, none⟩ → w.heap.size ≤ b := by
  obtain ⟨i0, hi, hz0, hz1, hz2⟩ := info_parts Tryd.info5
  have hn0 : decide ((n : Int) < 0) = false := by simp
  have hn1 : decide ((8160 : Int) < (n : Int)) = false := by simp; omega
  go_enter Tryd.func15, Tryd.ntmps15
  by_cases hs : salt.length = 0
  · have hsb : ((salt.length : Int) == 0) = true := by simp [hs]
    go_upto_region 5 with (at_make; refine wpList_make_row _ rfl _ _ 33 rfl 5 i0 (.int .u8 0) Tryd.underlying33 hi hz0 hz1 rfl .i64 .i64 32 rfl rfl (by rw [hz2]; omega) (by omega) ?_)
    generalize hO : w.heap.size = O at *
    refine wp_world (fun W => Below O w W ∧ SlRead W (some ⟨O, 0, none⟩) (ints .u8 (bys (lst 32 (fun _ => 0#8))))) ?_ ?_
    · refine ⟨by rw [← hO]; exact (Below.refl _ _).alloc (Nat.le_refl _) _, slread_row (t := 5) ?_⟩
      have := (World.rowIs_made w (.int .u8 0) 32 5).congr (g := fun _ => v8 0#8) (fun i hi => rfl)
      rw [hO] at this
      exact this
    rintro W0 ⟨hb, hS0⟩
    rw [← hO] at hb
    have hms := msum_one (some ⟨O, 0, none⟩) (lst 32 (fun _ => 0#8)) 32 B key cb W0 hS0 (by simp) (by simp) (hB.below hb) hcb hlb (hk.below hb)
    rw [lst_length, show lst 32 (fun _ => 0#8) = saltOf salt by unfold saltOf; rw [if_pos hs]] at hms
    clear hS0
    have hb0 : Below w.heap.size w W0 := hO ▸ hb
    refine wp_world (fun W => Below w.heap.size w W ∧ Calls Tryd.prog 16 #[.slice (some ⟨O, 0, none⟩) 32 32, .slice (some ⟨W.heap.size, 0, none⟩) 1 1] (W.alloc (.cells #[.slice B key.length cb] 33)) fun e w' => e = .returned (.agg (arr8 32 (macOf (saltOf salt) key))) ∧ Below W.heap.size W w') ⟨hb0, hms⟩ ?_
    clear hb hb0 hms W0
    rintro W0 ⟨hb, hms⟩
    go_wp2_with fail
    refine hms.mono ?_
    rintro e W1 ⟨rfl, hb1⟩
    clear hms
    have hB1 := hb.trans (hb1.mono hb.size)
    clear hb hb1
    have hsec : secOf salt key = lst 32 (macOf (saltOf salt) key) := rfl
    have HSEC := Lib.hid hsec; clear hsec
    generalize macOf (saltOf salt) key = mm at *
    go_upto_region 6 with (refine wpList_store_row rfl 31 _ _ rfl _ _ rfl rfl _ _ (heap_alloc_new _ _) (by kernel_rfl) (by simp) (arr8_one _ _) ?_; rw [alloc_setRow])
    generalize hG : W1.heap.size = G at *
    have hg2 : (W1.alloc (.cells (arr8 32 mm) 31)).rowIs G 31 32 (fun i => v8 (mm i)) := rowIs_new _ _ _ _ _ _ hG.symm (by simp) (fun i hi => arr8_get 32 _ i hi)
    have hB2 := hB1.alloc hB1.size (.cells (arr8 32 mm) 31)
    generalize W1.alloc (.cells (arr8 32 mm) 31) = W2 at *
    clear hB1 hG
    generalize hBB : W2.heap.size = BB at *
    have HBB := Lib.hid hBB
    have hGB : G < BB := by rw [← hBB]; exact hg2.lt
    have hwB : w.heap.size ≤ BB := by rw [← hBB]; exact hB2.size
    clear hBB
    go_wp2_with (at_make; refine wpList_make_own _ rfl _ _ 33 rfl BB 5 i0 (.int .u8 0) 1 Tryd.underlying33 hi hz0 hz1 _ _ _ (n + 32) rfl rfl rfl ?c1 ?c2 ?c3 ?_)
    case c1 => rw [hz2]; omega
    case c2 => unfold maxLen; omega
    case c3 => have := HBB.out; omega
    intro W3 hown hgrow
    have hB3 : Below w.heap.size w W3 := hB2.grown hgrow hB2.size (by intro j hj; cases hj)
    have hg3 := hg2.of_block (hgrow.block _ hg2.lt (by simp))
    have hBB3 : BB ≤ W3.heap.size := by rw [← HBB.out]; exact hgrow.size
    clear hg2 hB2 hgrow
    have hslG := fun w' => sliceAt_arr (P := Tryd.prog) 32 Tryd.underlying31 (show (Tryd.prog.info? 5).map (·.size) = some 1 by kernel_rfl) G (by omega) w'
    go_wp2_with fail
    go_loopw [11, 12, 13] (fun v l i wr => ∃ (k : Nat) (Al : Option Addr) (cl : Nat), 32 * k < n + 32 ∧ i = .int .i64 ((k : Int) + 1) ∧ wr.ownsRow BB 5 1 v (32 * k) (ints .u8 (bys (hkOut (lst 32 mm) info k))) ∧ l = .slice Al (hkT (lst 32 mm) info k).length cl ∧ (hkT (lst 32 mm) info k).length ≤ cl ∧ SlRead wr Al (ints .u8 (bys (hkT (lst 32 mm) info k))) ∧ Below w.heap.size w wr ∧ wr.rowIs G 31 32 (fun i => v8 (mm i)) ∧ BB ≤ wr.heap.size) (fun v _ _ _ => match v with | .slice _ len _ => n + 32 - len | _ => 0)
    case atStart => exact ⟨0, none, 0, by omega, rfl, hown, rfl, by simp [hkT], SlRead.nil_, hB3, hg3, hBB3⟩
    clear hown hB3 hg3 hBB3
    case round =>
      obtain ⟨k, Al, cl, hk1, rfl, hown, rfl, hcl, hsl, hb, hg, hBs⟩ := hrel
      obtain ⟨Av, cv, rfl, hcv⟩ := ownsRow_form hown
      by_cases hlt : 32 * k < n
      · have hlt0 : decide (((32 * k : Nat) : Int) < (n : Int)) = true := by simp; omega
        have hbo : (k : Int) + 1 = n8 (BitVec.ofNat 8 (k + 1)) := by
          rw [← byte_of]
          omega
        have HBO := Lib.hid hbo; clear hbo
        have hTk : hkT (lst 32 mm) info (k + 1) = lst 32 (macOf (lst 32 mm) (hkT (lst 32 mm) info k ++ (info ++ [BitVec.ofNat 8 (k + 1)]))) := rfl
        have hOk : hkOut (lst 32 mm) info (k + 1) = hkOut (lst 32 mm) info k ++ hkT (lst 32 mm) info (k + 1) := rfl
        have HTK := Lib.hid hTk
        have HOK := Lib.hid hOk
        clear hTk hOk
        have hTl : (hkT (lst 32 mm) info k).length ≤ 32 := by cases k with | zero => simp [hkT] | succ k => rw [hkT_len]; omega
        generalize hkT (lst 32 mm) info k = Tk at *
        generalize BitVec.ofNat 8 (k + 1) = bt at *
        go_upto_region 12 with (fail)
        have hbc : Below wr.heap.size wr ((wr.alloc (.cells #[.int .u8 ((k : Int) + 1)] 5)).alloc (.cells #[.slice Al Tk.length cl, .slice C info.length cc, .slice (some ⟨wr.heap.size, 0, none⟩) 1 1] 33)) :=
          ((Below.refl _ _).alloc (Nat.le_refl _) _).alloc (by simp) _
        have h1 : SlRead (wr.alloc (.cells #[.int .u8 ((k : Int) + 1)] 5)) (some ⟨wr.heap.size, 0, none⟩) (ints .u8 (bys [bt])) := by
          have := SlRead.one_new (W := wr) (.int .u8 ((k : Int) + 1)) 5
          rw [HBO.out] at this ⊢
          exact this
        have h3 := SlRead.three_new (W := wr.alloc (.cells #[.int .u8 ((k : Int) + 1)] 5)) (.slice Al Tk.length cl) (.slice C info.length cc) (.slice (some ⟨wr.heap.size, 0, none⟩) 1 1) 33
        rw [show (wr.alloc (.cells #[.int .u8 ((k : Int) + 1)] 5)).heap.size = wr.heap.size + 1 by simp] at h3
        have hkc := (hk.below hb).below hbc
        have hm := msum_any (some ⟨G, 0, none⟩) (lst 32 mm) 32 (some ⟨wr.heap.size + 1, 0, none⟩) [(Al, Tk, cl), (C, info, cc), (some ⟨wr.heap.size, 0, none⟩, [bt], 1)] 3 _ (slread_row (hg.of_block (hbc.block _ hg.lt))) (by simp) (by simp) h3 (by
          intro a ha
          simp at ha
          rcases ha with rfl | rfl | rfl
          · exact ⟨hsl.below hbc, hcl, by simp only; omega⟩
          · exact ⟨(hC.below hb).below hbc, hcc, hlc⟩
          · exact ⟨h1.below ((Below.refl _ _).alloc (Nat.le_refl _) _), by simp, by simp⟩) (by simp) hkc
        rw [lst_length, show flat [(Al, Tk, cl), (C, info, cc), (some ⟨wr.heap.size, 0, none⟩, [bt], 1)] = Tk ++ (info ++ [bt]) by simp [flat]] at hm
        refine hm.mono ?_
        rintro e W4 ⟨rfl, hb4⟩
        have hbW := hbc.trans (hb4.mono hbc.size)
        have own4 := ownsRow_via hown (fun g _ hl => hbW.block g hl)
        have hg4 := hg.of_block (hbW.block _ hg.lt)
        have hB4 := hb.trans (hbW.mono hb.size)
        have hBs4 : BB ≤ W4.heap.size := Nat.le_trans hBs hbW.size
        clear hm hbc h1 h3 hkc hown hsl hb hg hBs hb4 hbW
        generalize hF : macOf (lst 32 mm) (Tk ++ (info ++ [bt])) = F at *
        have HF := Lib.hid hF; clear hF
        go_upto_region 12 with (refine wpList_store_row rfl 31 _ _ rfl _ _ rfl rfl _ _ (heap_alloc_new _ _) (by kernel_rfl) (by simp) (arr8_one _ _) ?_; rw [alloc_setRow])
        generalize hD : W4.heap.size = D at *
        have hd5 : (W4.alloc (.cells (arr8 32 F) 31)).rowIs D 31 32 (fun i => v8 (F i)) := rowIs_new _ _ _ _ _ _ hD.symm (by simp) (fun i hi => arr8_get 32 _ i hi)
        have own5 := own4.alloc (.cells (arr8 32 F) 31)
        have hg5 := hg4.alloc (.cells (arr8 32 F) 31)
        have hB5 := hB4.alloc hB4.size (.cells (arr8 32 F) 31)
        generalize W4.alloc (.cells (arr8 32 F) 31) = W5 at *
        have hBs5 : BB ≤ W5.heap.size := Nat.le_trans hBs4 (Nat.le_of_lt hd5.lt)
        have hwD : w.heap.size ≤ D := by rw [← hD]; exact hB4.size
        clear own4 hg4 hB4 hBs4 hD
        have hoff := ownsRow_off own5 hd5 (by decide)
        have hslD := fun w' => sliceAt_arr (P := Tryd.prog) 32 Tryd.underlying31 (show (Tryd.prog.info? 5).map (·.size) = some 1 by kernel_rfl) D (by omega) w'
        go_wp2_with (at_builtin; refine wpList_append_own _ rfl _ _ 33 rfl BB 5 i0 (.int .u8 0) 1 1 Tryd.underlying33 hi hz0 hz1 hz2 rfl (by decide) _ _ _ rfl own5 ⟨D, 0, none⟩ 32 32 (ints .u8 (bys (lst 32 F))) rfl (by simp) ?c1 ?c2 ?c3 ?c4 ?c5 ?_)
        case c1 =>
          intro j u hj
          obtain ⟨b', o', e, _, hc⟩ := slread_row hd5 (by simp)
          obtain ⟨rfl, rfl⟩ : D = b' ∧ 0 = o' := by simpa using e
          rw [add_eq]
          exact hc j u hj
        case c2 => exact ints_one .u8 _
        case c3 => unfold maxLen; omega
        case c4 => omega
        case c5 => exact hBs5
        intro v' W6 hown6 hgrow6 _
        have hd6 := hd5.of_block (hgrow6.block D hd5.lt hoff)
        have hg6 := hg5.of_block (hgrow6.block G hg5.lt (fun e => by have := (own5.lt G e.symm).1; omega))
        have hB6 : Below w.heap.size w W6 := hB5.grown hgrow6 hB5.size (fun j hj => by have := (own5.lt j hj).1; omega)
        have hBs6 : BB ≤ W6.heap.size := Nat.le_trans hBs5 hgrow6.size
        rw [ints_append, show bys (hkOut (lst 32 mm) info k) ++ bys (lst 32 F) = bys (hkOut (lst 32 mm) info (k + 1)) by rw [HOK.out, HTK.out]; simp [bys]] at hown6
        have hs6 : SlRead W6 (some ⟨D, 0, none⟩) (ints .u8 (bys (hkT (lst 32 mm) info (k + 1)))) := by rw [HTK.out]; exact slread_row hd6
        have hTl6 := hkT_len (lst 32 mm) info k
        have HT6 := Lib.hid hTl6
        clear own5 hd5 hg5 hB5 hBs5 hoff hgrow6 hd6 hTl6
        go_wp2_with fail
        go_roundw
        case rel => exact ⟨k + 1, some ⟨D, 0, none⟩, 32, by omega, by go_num, hown6, by rw [HT6.out], by rw [HT6.out]; omega, hs6, hB6, hg6, hBs6⟩
        case measure =>
          obtain ⟨Av2, cv2, rfl, _⟩ := ownsRow_form hown6
          simp only
          omega
      · have hlt0 : decide (((32 * k : Nat) : Int) < (n : Int)) = false := by simp; omega
        have hslm := slice_hm (P := Tryd.prog) Tryd.underlying33 (show (Tryd.prog.info? 5).map (·.size) = some 1 by kernel_rfl) Av (32 * k) cv n (by
          by_cases h0 : 32 * k = 0
          · omega
          · have := hcv (by omega); omega)
        have hk2 : (n + 31) / 32 = k := by omega
        have hfin : SlRead wr Av (ints .u8 (bys (hkdf salt key info n))) := by
          unfold hkdf
          rw [hk2, HSEC.out, ← bys_take]
          exact (SlRead.of_own hown).take n
        have hfar : ∀ b o, Av = some ⟨b, o, none⟩ → w.heap.size ≤ b := fun b o e => by
          subst e
          have := (hown.lt b rfl).1
          omega
        have HFAR := Lib.hid hfar; clear hfar
        clear hown hsl hg hcl hk2
        go_wp2_with fail
        refine bodyPost_ret (results_tmp2 rfl _ _ _) rfl ?_
        exact ⟨Av, rfl, hfin, hb, HFAR.out⟩
  · have hsb : ((salt.length : Int) == 0) = false := by simpa using hs
    go_upto_region 5 with (fail)
    have hms := msum_one A salt ca B key cb w hA hca hla hB hcb hlb hk
    have hso : macOf (saltOf salt) key = macOf salt key := by unfold saltOf; rw [if_neg hs]
    rw [← hso] at hms
    refine wp_world (fun W => Below w.heap.size w W ∧ Calls Tryd.prog 16 #[.slice A salt.length ca, .slice (some ⟨W.heap.size, 0, none⟩) 1 1] (W.alloc (.cells #[.slice B key.length cb] 33)) fun e w' => e = .returned (.agg (arr8 32 (macOf (saltOf salt) key))) ∧ Below W.heap.size W w') ⟨Below.refl _ _, hms⟩ ?_
    clear hso hms
    rintro W0 ⟨hb, hms⟩
    go_wp2_with fail
    refine hms.mono ?_
    rintro e W1 ⟨rfl, hb1⟩
    clear hms
    have hB1 := hb.trans (hb1.mono hb.size)
    clear hb hb1
    have hsec : secOf salt key = lst 32 (macOf (saltOf salt) key) := rfl
    have HSEC := Lib.hid hsec; clear hsec
    generalize macOf (saltOf salt) key = mm at *
    go_upto_region 6 with (refine wpList_store_row rfl 31 _ _ rfl _ _ rfl rfl _ _ (heap_alloc_new _ _) (by kernel_rfl) (by simp) (arr8_one _ _) ?_; rw [alloc_setRow])
    generalize hG : W1.heap.size = G at *
    have hg2 : (W1.alloc (.cells (arr8 32 mm) 31)).rowIs G 31 32 (fun i => v8 (mm i)) := rowIs_new _ _ _ _ _ _ hG.symm (by simp) (fun i hi => arr8_get 32 _ i hi)
    have hB2 := hB1.alloc hB1.size (.cells (arr8 32 mm) 31)
    generalize W1.alloc (.cells (arr8 32 mm) 31) = W2 at *
    clear hB1 hG
    generalize hBB : W2.heap.size = BB at *
    have HBB := Lib.hid hBB
    have hGB : G < BB := by rw [← hBB]; exact hg2.lt
    have hwB : w.heap.size ≤ BB := by rw [← hBB]; exact hB2.size
    clear hBB
    go_wp2_with (at_make; refine wpList_make_own _ rfl _ _ 33 rfl BB 5 i0 (.int .u8 0) 1 Tryd.underlying33 hi hz0 hz1 _ _ _ (n + 32) rfl rfl rfl ?c1 ?c2 ?c3 ?_)
    case c1 => rw [hz2]; omega
    case c2 => unfold maxLen; omega
    case c3 => have := HBB.out; omega
    intro W3 hown hgrow
    have hB3 : Below w.heap.size w W3 := hB2.grown hgrow hB2.size (by intro j hj; cases hj)
    have hg3 := hg2.of_block (hgrow.block _ hg2.lt (by simp))
    have hBB3 : BB ≤ W3.heap.size := by rw [← HBB.out]; exact hgrow.size
    clear hg2 hB2 hgrow
    have hslG := fun w' => sliceAt_arr (P := Tryd.prog) 32 Tryd.underlying31 (show (Tryd.prog.info? 5).map (·.size) = some 1 by kernel_rfl) G (by omega) w'
    go_wp2_with fail
    go_loopw [11, 12, 13] (fun v l i wr => ∃ (k : Nat) (Al : Option Addr) (cl : Nat), 32 * k < n + 32 ∧ i = .int .i64 ((k : Int) + 1) ∧ wr.ownsRow BB 5 1 v (32 * k) (ints .u8 (bys (hkOut (lst 32 mm) info k))) ∧ l = .slice Al (hkT (lst 32 mm) info k).length cl ∧ (hkT (lst 32 mm) info k).length ≤ cl ∧ SlRead wr Al (ints .u8 (bys (hkT (lst 32 mm) info k))) ∧ Below w.heap.size w wr ∧ wr.rowIs G 31 32 (fun i => v8 (mm i)) ∧ BB ≤ wr.heap.size) (fun v _ _ _ => match v with | .slice _ len _ => n + 32 - len | _ => 0)
    case atStart => exact ⟨0, none, 0, by omega, rfl, hown, rfl, by simp [hkT], SlRead.nil_, hB3, hg3, hBB3⟩
    clear hown hB3 hg3 hBB3
    case round =>
      obtain ⟨k, Al, cl, hk1, rfl, hown, rfl, hcl, hsl, hb, hg, hBs⟩ := hrel
      obtain ⟨Av, cv, rfl, hcv⟩ := ownsRow_form hown
      by_cases hlt : 32 * k < n
      · have hlt0 : decide (((32 * k : Nat) : Int) < (n : Int)) = true := by simp; omega
        have hbo : (k : Int) + 1 = n8 (BitVec.ofNat 8 (k + 1)) := by
          rw [← byte_of]
          omega
        have HBO := Lib.hid hbo; clear hbo
        have hTk : hkT (lst 32 mm) info (k + 1) = lst 32 (macOf (lst 32 mm) (hkT (lst 32 mm) info k ++ (info ++ [BitVec.ofNat 8 (k + 1)]))) := rfl
        have hOk : hkOut (lst 32 mm) info (k + 1) = hkOut (lst 32 mm) info k ++ hkT (lst 32 mm) info (k + 1) := rfl
        have HTK := Lib.hid hTk
        have HOK := Lib.hid hOk
        clear hTk hOk
        have hTl : (hkT (lst 32 mm) info k).length ≤ 32 := by cases k with | zero => simp [hkT] | succ k => rw [hkT_len]; omega
        generalize hkT (lst 32 mm) info k = Tk at *
        generalize BitVec.ofNat 8 (k + 1) = bt at *
        go_upto_region 12 with (fail)
        have hbc : Below wr.heap.size wr ((wr.alloc (.cells #[.int .u8 ((k : Int) + 1)] 5)).alloc (.cells #[.slice Al Tk.length cl, .slice C info.length cc, .slice (some ⟨wr.heap.size, 0, none⟩) 1 1] 33)) :=
          ((Below.refl _ _).alloc (Nat.le_refl _) _).alloc (by simp) _
        have h1 : SlRead (wr.alloc (.cells #[.int .u8 ((k : Int) + 1)] 5)) (some ⟨wr.heap.size, 0, none⟩) (ints .u8 (bys [bt])) := by
          have := SlRead.one_new (W := wr) (.int .u8 ((k : Int) + 1)) 5
          rw [HBO.out] at this ⊢
          exact this
        have h3 := SlRead.three_new (W := wr.alloc (.cells #[.int .u8 ((k : Int) + 1)] 5)) (.slice Al Tk.length cl) (.slice C info.length cc) (.slice (some ⟨wr.heap.size, 0, none⟩) 1 1) 33
        rw [show (wr.alloc (.cells #[.int .u8 ((k : Int) + 1)] 5)).heap.size = wr.heap.size + 1 by simp] at h3
        have hkc := (hk.below hb).below hbc
        have hm := msum_any (some ⟨G, 0, none⟩) (lst 32 mm) 32 (some ⟨wr.heap.size + 1, 0, none⟩) [(Al, Tk, cl), (C, info, cc), (some ⟨wr.heap.size, 0, none⟩, [bt], 1)] 3 _ (slread_row (hg.of_block (hbc.block _ hg.lt))) (by simp) (by simp) h3 (by
          intro a ha
          simp at ha
          rcases ha with rfl | rfl | rfl
          · exact ⟨hsl.below hbc, hcl, by simp only; omega⟩
          · exact ⟨(hC.below hb).below hbc, hcc, hlc⟩
          · exact ⟨h1.below ((Below.refl _ _).alloc (Nat.le_refl _) _), by simp, by simp⟩) (by simp) hkc
        rw [lst_length, show flat [(Al, Tk, cl), (C, info, cc), (some ⟨wr.heap.size, 0, none⟩, [bt], 1)] = Tk ++ (info ++ [bt]) by simp [flat]] at hm
        refine hm.mono ?_
        rintro e W4 ⟨rfl, hb4⟩
        have hbW := hbc.trans (hb4.mono hbc.size)
        have own4 := ownsRow_via hown (fun g _ hl => hbW.block g hl)
        have hg4 := hg.of_block (hbW.block _ hg.lt)
        have hB4 := hb.trans (hbW.mono hb.size)
        have hBs4 : BB ≤ W4.heap.size := Nat.le_trans hBs hbW.size
        clear hm hbc h1 h3 hkc hown hsl hb hg hBs hb4 hbW
        generalize hF : macOf (lst 32 mm) (Tk ++ (info ++ [bt])) = F at *
        have HF := Lib.hid hF; clear hF
        go_upto_region 12 with (refine wpList_store_row rfl 31 _ _ rfl _ _ rfl rfl _ _ (heap_alloc_new _ _) (by kernel_rfl) (by simp) (arr8_one _ _) ?_; rw [alloc_setRow])
        generalize hD : W4.heap.size = D at *
        have hd5 : (W4.alloc (.cells (arr8 32 F) 31)).rowIs D 31 32 (fun i => v8 (F i)) := rowIs_new _ _ _ _ _ _ hD.symm (by simp) (fun i hi => arr8_get 32 _ i hi)
        have own5 := own4.alloc (.cells (arr8 32 F) 31)
        have hg5 := hg4.alloc (.cells (arr8 32 F) 31)
        have hB5 := hB4.alloc hB4.size (.cells (arr8 32 F) 31)
        generalize W4.alloc (.cells (arr8 32 F) 31) = W5 at *
        have hBs5 : BB ≤ W5.heap.size := Nat.le_trans hBs4 (Nat.le_of_lt hd5.lt)
        have hwD : w.heap.size ≤ D := by rw [← hD]; exact hB4.size
        clear own4 hg4 hB4 hBs4 hD
        have hoff := ownsRow_off own5 hd5 (by decide)
        have hslD := fun w' => sliceAt_arr (P := Tryd.prog) 32 Tryd.underlying31 (show (Tryd.prog.info? 5).map (·.size) = some 1 by kernel_rfl) D (by omega) w'
        go_wp2_with (at_builtin; refine wpList_append_own _ rfl _ _ 33 rfl BB 5 i0 (.int .u8 0) 1 1 Tryd.underlying33 hi hz0 hz1 hz2 rfl (by decide) _ _ _ rfl own5 ⟨D, 0, none⟩ 32 32 (ints .u8 (bys (lst 32 F))) rfl (by simp) ?c1 ?c2 ?c3 ?c4 ?c5 ?_)
        case c1 =>
          intro j u hj
          obtain ⟨b', o', e, _, hc⟩ := slread_row hd5 (by simp)
          obtain ⟨rfl, rfl⟩ : D = b' ∧ 0 = o' := by simpa using e
          rw [add_eq]
          exact hc j u hj
        case c2 => exact ints_one .u8 _
        case c3 => unfold maxLen; omega
        case c4 => omega
        case c5 => exact hBs5
        intro v' W6 hown6 hgrow6 _
        have hd6 := hd5.of_block (hgrow6.block D hd5.lt hoff)
        have hg6 := hg5.of_block (hgrow6.block G hg5.lt (fun e => by have := (own5.lt G e.symm).1; omega))
        have hB6 : Below w.heap.size w W6 := hB5.grown hgrow6 hB5.size (fun j hj => by have := (own5.lt j hj).1; omega)
        have hBs6 : BB ≤ W6.heap.size := Nat.le_trans hBs5 hgrow6.size
        rw [ints_append, show bys (hkOut (lst 32 mm) info k) ++ bys (lst 32 F) = bys (hkOut (lst 32 mm) info (k + 1)) by rw [HOK.out, HTK.out]; simp [bys]] at hown6
        have hs6 : SlRead W6 (some ⟨D, 0, none⟩) (ints .u8 (bys (hkT (lst 32 mm) info (k + 1)))) := by rw [HTK.out]; exact slread_row hd6
        have hTl6 := hkT_len (lst 32 mm) info k
        have HT6 := Lib.hid hTl6
        clear own5 hd5 hg5 hB5 hBs5 hoff hgrow6 hd6 hTl6
        go_wp2_with fail
        go_roundw
        case rel => exact ⟨k + 1, some ⟨D, 0, none⟩, 32, by omega, by go_num, hown6, by rw [HT6.out], by rw [HT6.out]; omega, hs6, hB6, hg6, hBs6⟩
        case measure =>
          obtain ⟨Av2, cv2, rfl, _⟩ := ownsRow_form hown6
          simp only
          omega
      · have hlt0 : decide (((32 * k : Nat) : Int) < (n : Int)) = false := by simp; omega
        have hslm := slice_hm (P := Tryd.prog) Tryd.underlying33 (show (Tryd.prog.info? 5).map (·.size) = some 1 by kernel_rfl) Av (32 * k) cv n (by
          by_cases h0 : 32 * k = 0
          · omega
          · have := hcv (by omega); omega)
        have hk2 : (n + 31) / 32 = k := by omega
        have hfin : SlRead wr Av (ints .u8 (bys (hkdf salt key info n))) := by
          unfold hkdf
          rw [hk2, HSEC.out, ← bys_take]
          exact (SlRead.of_own hown).take n
        have hfar : ∀ b o, Av = some ⟨b, o, none⟩ → w.heap.size ≤ b := fun b o e => by
          subst e
          have := (hown.lt b rfl).1
          omega
        have HFAR := Lib.hid hfar; clear hfar
        clear hown hsl hg hcl hk2
        go_wp2_with fail
        refine bodyPost_ret (results_tmp2 rfl _ _ _) rfl ?_
        exact ⟨Av, rfl, hfin, hb, HFAR.out⟩
theorem derive_any (A : Option Addr) (salt : List (BitVec 8)) (ca : Nat) (B : Option Addr) (key : List (BitVec 8)) (cb : Nat) (C : Option Addr) (info : List (BitVec 8)) (cc n : Nat) (w : World)
    (hA : SlRead w A (ints .u8 (bys salt))) (hca : salt.length ≤ ca) (hla : salt.length ≤ 4611686018427387904) (hB : SlRead w B (ints .u8 (bys key))) (hcb : key.length ≤ cb) (hlb : key.length ≤ 4611686018427387904)
    (hC : SlRead w C (ints .u8 (bys info))) (hcc : info.length ≤ cc) (hlc : info.length ≤ 4611686018427387904) (hn : n ≤ 8160) (hk : KAt w) :
    Calls Tryd.prog 15 #[.slice A salt.length ca, .slice B key.length cb, .slice C info.length cc, .int .i64 n] w fun e w' => ∃ O, e = .returned (.tuple #[.slice O n n, Value.nilIface]) ∧ SlRead w' O (ints .u8 (bys (hkdf salt key info n))) ∧ Below w.heap.size w w' := by
  refine (derive_far A salt ca B key cb C info cc n w hA hca hla hB hcb hlb hC hcc hlc hn hk).mono ?_
  rintro e w' ⟨O, h1, h2, h3, _⟩
  exact ⟨O, h1, h2, h3⟩
end Go.Proofs.YtccchhfcoicgcaaDoor
