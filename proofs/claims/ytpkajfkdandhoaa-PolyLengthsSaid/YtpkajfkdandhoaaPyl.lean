import Derived.Test.YtpkajfkdandhoaaPyu
/-
  PolyLengths: its walk.
-/
namespace Go.Proofs.Ytpkajfkdandhoaa
open Go.RowKit

def halfK (key : Nat → BitVec 8) (k i : Nat) : BitVec 8 := if i < k then 0#8 else key i
def keyK (key : Nat → BitVec 8) (i : Nat) : BitVec 8 := if i = 0 then 1#8 else halfK key 16 i
theorem keyK_one (key : Nat → BitVec 8) : keyR (keyK key) = 1 := by
  rw [keyR_congr (k2 := fun i => if i = 0 then 1#8 else 0#8) (fun i hi => by by_cases e : i = 0 <;> simp [keyK, halfK, e, hi])]
  decide +kernel
def lenF (key : Nat → BitVec 8) (bs : List (BitVec 8)) (t : Nat) : Nat := (blockG bs t).toNat + (key (16 + t)).toNat
theorem wI (x : Int) (n : Nat) (h : x = n64 n) (hn : n < 4611686018427387904) : IntKind.i64.wrap x = n64 n := by rw [h]; unfold n64; exact IntWalk.i64_in _ (by omega)
theorem wI' (x : Int) (n : Nat) (h : x = n64 n) (hn : n < 4611686018427387904) : wrap64 x = n64 n := by rw [h]; unfold n64; exact IntWalk.wrap64_in _ (by omega)
theorem num_two (f : Nat → Nat) (h16 : f 16 = 0) (h15 : f 15 = 0) : num f 17 = num f 15 := by
  have e1 : num f 17 = num f 16 := by rw [num_succ, h16, Nat.zero_mul, Nat.add_zero]
  have e2 : num f 16 = num f 15 := by rw [num_succ, h15, Nat.zero_mul, Nat.add_zero]
  exact e1.trans e2
theorem le_p5 : 256 ^ 15 ≤ p5 := by decide +kernel
theorem block_small (bs : List (BitVec 8)) (h : bs.length ≤ 14) : blockN bs < p5 := by
  have h15 : ∀ i, 15 ≤ i → (blockG bs i).toNat = 0 := fun i hi => by unfold blockG; rw [if_neg (by omega), if_neg (by omega)]; rfl
  have e : blockN bs = num (fun i => (blockG bs i).toNat) 15 := num_two _ (h15 16 (by omega)) (h15 15 (by omega))
  rw [e]
  exact Nat.lt_of_lt_of_le (num_lt (fun i => (blockG bs i).toNat) 15 (fun i _ => (blockG bs i).isLt)) le_p5
theorem polyK (key : Nat → BitVec 8) (bs : List (BitVec 8)) (h0 : 0 < bs.length) (h : bs.length ≤ 14) (t : Nat) : polyB (keyK key) bs t = BitVec.ofNat 8 (dg (num (lenF key bs) 16) t) := by
  have e1 : (bs.length + 15) / 16 = 1 := by omega
  have eb : blk bs 0 = bs := by unfold blk; rw [List.drop_zero, List.take_of_length_le (by omega)]
  have ea : acc 1 bs 1 = blockN bs := by
    show (0 + blockN (blk bs 0)) * 1 % p5 = blockN bs
    rw [eb, Nat.zero_add, Nat.mul_one, Nat.mod_eq_of_lt (block_small bs h)]
  unfold polyB tagB
  rw [keyK_one, e1, ea]
  rw [num_congr (f := tagF (blockN bs) (keyK key)) (g := lenF key bs) 16 (fun i hi => by
    unfold tagF lenF keyK halfK
    rw [if_neg (by omega), if_neg (by omega)]
    unfold blockN numB
    rw [dg_num _ 17 i (fun i _ => (blockG bs i).isLt) (by omega)])]
/-- the key, another, what is wanted, and the rest -/
structure QL (w : World) (B D E : Nat) (key fx fw : Nat → BitVec 8) (W : World) : Prop where
  k : W.rowIs B 23 32 (fun i => v8 (key i))
  x : W.rowIs D 23 32 (fun i => v8 (fx i))
  ww : W.rowIs E 26 16 (fun i => v8 (fw i))
  l : B < D ∧ D < E
  b : Below B w W
theorem QL.next {w : World} {B D E : Nat} {key fx fw : Nat → BitVec 8} {W W' : World} (h : QL w B D E key fx fw W) (hb : Below W.heap.size W W') : QL w B D E key fx fw W' :=
  ⟨h.k.of_block (hb.block _ h.k.lt), h.x.of_block (hb.block _ h.x.lt), h.ww.of_block (hb.block _ h.ww.lt), h.l, h.b.trans (hb.mono (Nat.le_of_lt h.k.lt))⟩

set_option maxRecDepth 100000 in
set_option maxHeartbeats 3200000 in
theorem lengths_walk (key : Nat → BitVec 8) (A : Option Addr) (bs : List (BitVec 8)) (cap : Nat) (w : World) (hS : SlRead w A (ints .u8 (bys bs))) (hcap : bs.length ≤ cap) :
    Calls Try.prog 7 #[.agg (arr8 32 key), .slice A bs.length cap] w fun e w' => e = .returned (.bool true) ∧ Below w.heap.size w w' := by

  go_enter Try.func7, Try.ntmps7
  go_upto_region 1 with (fail)
  refine wp_world (fun W => W.rowIs w.heap.size 23 32 (fun i => v8 (key i)) ∧ Below w.heap.size w W) ?_ ?_
  · exact ⟨rowIs_new _ _ _ _ _ _ rfl (by simp) (fun i hi => arr8_get 32 key i hi), by go_grown⟩
  rintro W0 ⟨h1, h2⟩
  have HSR : Hid (∀ W', Below w.heap.size w W' → SlRead W' A (ints .u8 (bys bs))) := Lib.hid fun W' hb => hS.below hb
  have hwB : ∀ gb o, A = some ⟨gb, o, none⟩ → 0 < bs.length → gb < w.heap.size := fun gb o e h0 => by
    obtain ⟨b', o', e', hl, _⟩ := hS (by simpa [bys] using h0)
    rw [e] at e'; injection e' with e'; injection e' with e' _; rw [e']; exact hl
  generalize hB : w.heap.size = B at h1 h2 HSR hwB ⊢
  have HB := Lib.hid hB; clear hB
  go_wp2_with fail
  refine (first_any W0).mono ?_
  rintro e W1 ⟨rfl, hb1⟩
  have g1 := h1.of_block (hb1.block _ h1.lt)
  have g2 : Below B w W1 := h2.trans (hb1.mono (Nat.le_of_lt h1.lt))
  clear h1 h2 hb1
  by_cases hlen : bs.length ≤ 14
  · by_cases hpos : 0 < bs.length
    · obtain ⟨gb, o, rfl, _, _⟩ := hS (by simpa [bys] using hpos)
      have hgB := hwB gb o rfl hpos
      have hd1 : decide (14 < (bs.length : Int)) = false := by simp; omega
      have hd2 : ((bs.length : Int) == 0) = false := beq_false_of_ne (by omega)
      clear hwB hS
      have hk := rowIs_heap8 g1
      go_upto_region 7 with (first | (refine wpList_load_row rfl 23 _ rfl _ rfl _ _ _ _ hk Try.underlying23 rfl (by kernel_rfl) ?_) | (refine wpList_store_row rfl 23 _ _ rfl _ (arr8 32 key) rfl rfl _ _ (heap_alloc_new _ _) (by kernel_rfl) (by simp) (arr8_one _ _) ?_; rw [alloc_setRow]))
      have hD : B < W1.heap.size := g1.lt
      refine wp_world (fun V => V.rowIs B 23 32 (fun i => v8 (key i)) ∧ V.rowIs W1.heap.size 23 32 (fun i => v8 (halfK key 0 i)) ∧ Below B w V) ?_ ?_
      · exact ⟨g1.alloc _, (rowIs_new _ _ _ _ _ _ rfl (by simp) (fun i hi => by simp only [halfK, Nat.not_lt_zero, if_false]; exact arr8_get 32 key i hi)), g2.alloc (by omega) _⟩
      clear g1 g2 hk
      generalize W1.heap.size = D at *
      rintro W2 ⟨g1, g3, g2⟩
      go_wp2_with fail
      go_loopw [7] (fun i wr => ∃ k : Nat, k ≤ 16 ∧ i = .int .i64 k ∧ wr.rowIs B 23 32 (fun i => v8 (key i)) ∧ wr.rowIs D 23 32 (fun i => v8 (halfK key k i)) ∧ Below B w wr) (fun i _ => 16 - (intOf i).toNat)
      case atStart => exact ⟨0, by omega, rfl, g1, g3, g2⟩
      clear g1 g2 g3
      case round =>
        obtain ⟨k, hk, rfl, g1, g3, g2⟩ := hrel
        by_cases hlt : k < 16
        · have cx := g3.cell (i := k) (by omega)
          have fx := g3.frozen k
          have H1 := Lib.hid (g1.setOther (a := ⟨D, k, none⟩) (by simp only; omega) (.int .u8 0))
          have H2 := Lib.hid (g2.setCell (p := ⟨D, k, none⟩) (by simp only; omega) (.int .u8 0))
          have H3 : Hid ((wr.setCell ⟨D, k, none⟩ (.int .u8 0)).rowIs D 23 32 (fun i => v8 (halfK key (k + 1) i))) := Lib.hid ((g3.set k _).congr fun i _ => by
            unfold halfK
            by_cases e : i = k
            · rw [if_pos e, if_pos (by omega)]; rfl
            · rw [if_neg e]
              by_cases e2 : i < k
              · rw [if_pos e2, if_pos (by omega)]
              · rw [if_neg e2, if_neg (by omega)])
          clear g1 g2 g3
          go_wp2_with fail
          go_roundw
          case rel => exact ⟨k + 1, by omega, by go_num, H1.out, H3.out, H2.out⟩
          case measure => simp [intOf]; omega
        · have hk8 : k = 16 := by omega
          rw [hk8] at g3 ⊢
          clear hk8 hlt hk
          have cx := g3.cell (i := 0) (by omega)
          have fx := g3.frozen 0
          have H1 := Lib.hid (g1.setOther (a := ⟨D, 0, none⟩) (by simp only; omega) (.int .u8 1))
          have H2 := Lib.hid (g2.setCell (p := ⟨D, 0, none⟩) (by simp only; omega) (.int .u8 1))
          have H3 : Hid ((wr.setCell ⟨D, 0, none⟩ (.int .u8 1)).rowIs D 23 32 (fun i => v8 (keyK key i))) := Lib.hid ((g3.set 0 _).congr fun i _ => by unfold keyK; split <;> rfl)
          clear g1 g2 g3
          go_upto_region 12 with (fail)
          have g1 := H1.out
          have g2 := H2.out
          have g3 := H3.out
          generalize (wr.setCell ⟨D, 0, none⟩ (.int .u8 1)) = W3 at *
          clear H1 H2 H3 cx fx
          have hE : D < W3.heap.size := g3.lt
          go_upto_region 13 with (fail)
          refine wp_world (QL w B D W3.heap.size key (keyK key) (fun _ => 0#8)) ?_ ?_
          · exact ⟨g1.alloc _, g3.alloc _, rowIs_new _ _ _ _ _ _ rfl (by rfl) zero16, ⟨hD, hE⟩, g2.alloc (by omega) _⟩
          clear g1 g2 g3
          generalize W3.heap.size = E at *
          intro W4 hx
          have HU := Lib.hid (fun k (hk : k ≤ 16) => num_le (lenF key bs) 510 k (fun i _ => by have := (blockG bs i).isLt; have := (key (16 + i)).isLt; unfold lenF; omega))
          go_wp2_with fail
          go_loopw [9, 10] (fun u i wr => ∃ j : Nat, j ≤ 16 ∧ i = .int .i64 j ∧ u = .int .i64 (n64 ((0 + num (lenF key bs) j) / 256 ^ j)) ∧ QL w B D E key (keyK key) (fun t => if t < j then polyB (keyK key) bs t else 0#8) wr) (fun _ i _ => 16 - (intOf i).toNat)
          case atStart => exact ⟨0, by omega, rfl, by simp [num, sm]; rfl, by simpa using hx⟩
          clear hx
          case round =>
            obtain ⟨j, hj, rfl, rfl, hx⟩ := hrel
            by_cases hlt : j < 16
            · have ck := hx.k.cell (i := 16 + j) (by omega)
              have cw := hx.ww.cell (i := j) hlt
              have fw := hx.ww.frozen j
              obtain ⟨c1, c2⟩ := carry_in 0 (lenF key bs) j
              have c3 := HU.out j hj
              rw [Nat.zero_add] at c1 c2 ⊢
              obtain ⟨u, hu⟩ : ∃ u, u = num (lenF key bs) j / 256 ^ j := ⟨_, rfl⟩
              rw [← hu] at c1 c2 c3 ⊢
              have hkl := (key (16 + j)).isLt
              have e1 := n8_wrapI (key (16 + j))
              obtain ⟨kb, hkb⟩ : ∃ kb, kb = (key (16 + j)).toNat := ⟨_, rfl⟩
              obtain ⟨nn, hnn⟩ : ∃ nn, nn = (blockG bs j).toNat := ⟨_, rfl⟩
              have hnl : nn < 256 := by rw [hnn]; exact (blockG bs j).isLt
              have hfl : lenF key bs j = nn + kb := by rw [hnn, hkb]; rfl
              rw [← hkb] at hkl e1
              rw [hfl] at c1 c2
              have a3 := wrap8 (u + nn + kb)
              have a4 := n64_shr8 (u + nn + kb)
              have hb : BitVec.ofNat 8 (u + nn + kb) = polyB (keyK key) bs j := by
                rw [polyK key bs hpos hlen j, ← Nat.zero_add (num (lenF key bs) 16), in_later 0 (lenF key bs) j 16 (by omega), ← c2, Nat.add_assoc]
                apply BitVec.eq_of_toNat_eq
                simp
              rw [hb] at a3
              have HC1 : Hid ((u + nn + kb) / 256 = (0 + num (lenF key bs) (j + 1)) / 256 ^ (j + 1)) := Lib.hid (by rw [← c1, Nat.add_assoc])
              have HX : Hid (QL w B D E key (keyK key) (fun t => if t < j + 1 then polyB (keyK key) bs t else 0#8) (wr.setCell ⟨E, j, none⟩ (v8 (polyB (keyK key) bs j)))) := Lib.hid ⟨hx.k.setOther (a := ⟨E, j, none⟩) (by simp only; omega) _, hx.x.setOther (a := ⟨E, j, none⟩) (by simp only; omega) _, (hx.ww.set j _).congr fun i _ => by
                by_cases e : i = j
                · rw [if_pos e, if_pos (by omega), e]
                · rw [if_neg e]
                  by_cases e2 : i < j
                  · rw [if_pos e2, if_pos (by omega)]
                  · rw [if_neg e2, if_neg (by omega)], hx.l, hx.b.setCell (by simp only; omega) _⟩
              have hSB := HSR.out _ hx.b
              have HNN := Lib.hid hnn
              have hcap2 := hcap
              clear hx c1 c2 hu hfl hb hkb hnn
              generalize polyB (keyK key) bs j = pz at *
              by_cases hj1 : j < bs.length
              · obtain ⟨b', o', e', _, hc⟩ := hSB (by simpa [bys] using hpos)
                injection e' with e'; injection e' with e1' e2'; subst e1'; subst e2'
                have cb := hc j (v8 (bs.getD j 0#8)) (by rw [bys_ints]; simp [hj1])
                have en := n8_wrapI (bs.getD j 0#8)
                rw [show (bs.getD j 0#8).toNat = nn by rw [HNN.out]; unfold blockG; rw [if_pos hj1]] at en
                have dl : decide (j < bs.length) = true := by simp; omega
                have dq : (j == bs.length) = false := by simp; omega
                generalize bs.getD j 0#8 = bz at *
                clear hc hSB
                have a1 : IntKind.i64.wrap (n64 u + n64 nn) = n64 (u + nn) := wI _ _ (by unfold n64; omega) (by omega)
                have a1' : wrap64 (n64 u + n64 nn) = n64 (u + nn) := wI' _ _ (by unfold n64; omega) (by omega)
                have a2 : IntKind.i64.wrap (n64 (u + nn) + n64 kb) = n64 (u + nn + kb) := wI _ _ (by unfold n64; omega) (by omega)
                have a2' : wrap64 (n64 (u + nn) + n64 kb) = n64 (u + nn + kb) := wI' _ _ (by unfold n64; omega) (by omega)
                clear HNN hcap2
                go_wp2_with fail
                go_roundw
                case rel => exact ⟨j + 1, by omega, by go_num, (by first | rw [← HC1.out] | (have hc := HC1.out; rw [Nat.zero_add] at hc; rw [hc])), HX.out⟩
                case measure => simp [intOf]; omega
              · by_cases hj2 : j = bs.length
                · have hn1 : nn = 1 := by rw [HNN.out]; unfold blockG; rw [if_neg hj1, if_pos hj2]; rfl
                  have dl : decide (j < bs.length) = false := by simp; omega
                  have dq : (j == bs.length) = true := by simp; omega
                  clear hSB hj1 hj2
                  have a1 : IntKind.i64.wrap (n64 u + 1) = n64 (u + nn) := wI _ _ (by rw [hn1]; unfold n64; omega) (by omega)
                  have a1' : wrap64 (n64 u + 1) = n64 (u + nn) := wI' _ _ (by rw [hn1]; unfold n64; omega) (by omega)
                  have a2 : IntKind.i64.wrap (n64 (u + nn) + n64 kb) = n64 (u + nn + kb) := wI _ _ (by unfold n64; omega) (by omega)
                  have a2' : wrap64 (n64 (u + nn) + n64 kb) = n64 (u + nn + kb) := wI' _ _ (by unfold n64; omega) (by omega)
                  clear HNN hcap2 hn1
                  go_wp2_with fail
                  go_roundw
                  case rel => exact ⟨j + 1, by omega, by go_num, (by first | rw [← HC1.out] | (have hc := HC1.out; rw [Nat.zero_add] at hc; rw [hc])), HX.out⟩
                  case measure => simp [intOf]; omega
                · have hn1 : nn = 0 := by rw [HNN.out]; unfold blockG; rw [if_neg hj1, if_neg hj2]; rfl
                  have dl : decide (j < bs.length) = false := by simp; omega
                  have dq : (j == bs.length) = false := by simp; omega
                  clear hSB hj1 hj2
                  have a1 : IntKind.i64.wrap (n64 u) = n64 (u + nn) := wI _ _ (by rw [hn1]; rfl) (by omega)
                  have a1' : wrap64 (n64 u) = n64 (u + nn) := wI' _ _ (by rw [hn1]; rfl) (by omega)
                  have a2 : IntKind.i64.wrap (n64 (u + nn) + n64 kb) = n64 (u + nn + kb) := wI _ _ (by unfold n64; omega) (by omega)
                  have a2' : wrap64 (n64 (u + nn) + n64 kb) = n64 (u + nn + kb) := wI' _ _ (by unfold n64; omega) (by omega)
                  clear HNN hcap2 hn1
                  go_wp2_with fail
                  go_roundw
                  case rel => exact ⟨j + 1, by omega, by go_num, (by first | rw [← HC1.out] | (have hc := HC1.out; rw [Nat.zero_add] at hc; rw [hc])), HX.out⟩
                  case measure => simp [intOf]; omega
            · have hk8 : j = 16 := by omega
              rw [hk8] at hx ⊢
              clear hk8 hlt hj HU
              have hSB := HSR.out _ hx.b
              obtain ⟨i0, hi, hz0, hz1, hz2⟩ := info_parts Try.info5
              go_wp2_with fail
              have hby := bytes_any (some ⟨gb, o, none⟩) (bys bs) cap wr hSB (by simp; omega)
              rw [bys_length] at hby
              refine hby.mono ?_
              rintro e W5 ⟨v5, rfl, hown, hb5⟩
              have hsz5 := hb5.size
              clear hby hSB
              go_wp2_with (at_builtin; refine wpList_append_own _ rfl _ _ 24 rfl wr.heap.size 5 i0 (.int .u8 0) 1 1 Try.underlying24 hi hz0 hz1 hz2 rfl (by decide) _ _ _ rfl (hown.alloc _) ⟨W5.heap.size, 0, none⟩ 1 1 [.int .u8 0] rfl rfl ?c1 ?c2 ?c3 ?c4 ?c5 ?_)
              case c1 => exact cell_one_new _ _ _
              case c2 => intro u hu; simp at hu; subst hu; rfl
              case c3 => unfold maxLen; omega
              case c4 => omega
              case c5 => simp; omega
              intro v' W6 hown2 hgrow2 _
              have hb6 : Below wr.heap.size wr W6 := (hb5.alloc hb5.size _).grown hgrow2 (by simp; omega) (fun j hj => (hown.lt j hj).1)
              have hx6 := hx.next hb6
              obtain ⟨ys, hys⟩ : ∃ ys, ys = bs ++ [0#8] := ⟨_, rfl⟩
              have hyl : ys.length = bs.length + 1 := by rw [hys]; simp
              have hyi : ints .u8 (bys bs) ++ [.int .u8 0] = ints .u8 (bys ys) := by rw [hys, bys_ints, bys_ints]; simp; rfl
              rw [hyi] at hown2
              have hown3 : W6.ownsRow wr.heap.size 5 1 v' ys.length (ints .u8 (bys ys)) := by rw [hyl]; exact hown2
              obtain ⟨A2, c2, rfl, hle⟩ := ownsRow_form hown3
              have hrd := SlRead.of_own hown3
              have hyc : ys.length ≤ c2 := hle (by omega)
              clear hown hown2 hown3 hgrow2 hx hyi hys hle hb6 hb5 hsz5
              have hyl15 : ys.length ≤ 15 := by omega
              have HYL := Lib.hid hyl
              clear hyl
              go_upto_region 26 with (fail)
              have HX : ∀ w', Below W6.drew.heap.size W6.drew w' → QL w B D E key (keyK key) (fun t => if t < 16 then polyB (keyK key) bs t else 0#8) w' := fun w' hb => hx6.next ((Below.drewNr (w := W6) 1).trans hb)
              have HY : ∀ w', Below W6.drew.heap.size W6.drew w' → SlRead w' A2 (ints .u8 (bys ys)) := fun w' hb => hrd.below ((Below.drewNr (w := W6) 1).trans hb)
              have HXX : ∀ w', Below W6.drew.heap.size W6.drew w' → QL w B D E key (keyK key) (polyB (keyK key) bs) w' := fun w' hb => by
                have h := HX w' hb
                exact ⟨h.k, h.x, h.ww.congr fun i hi => by rw [if_pos hi], h.l, h.b⟩
              have HX := HXX
              have HS1 : ∀ w', Below W6.drew.heap.size W6.drew w' → Calls Try.prog 9 #[.agg (arr8 32 (keyK key)), .slice (some ⟨gb, o, none⟩) bs.length cap] w' fun e w'' => e = .returned (.agg (arr8 16 (polyB (keyK key) bs))) ∧ Below w'.heap.size w' w'' := fun w' hb => psum_any (keyK key) _ bs cap w' (HSR.out w' (HX w' hb).b) hcap (by omega)
              have HP1 : ∀ w', Below W6.drew.heap.size W6.drew w' → Calls Try.prog 9 #[.agg (arr8 32 key), .slice (some ⟨gb, o, none⟩) bs.length cap] w' fun e w'' => e = .returned (.agg (arr8 16 (polyB key bs))) ∧ Below w'.heap.size w' w'' := fun w' hb => psum_any key _ bs cap w' (HSR.out w' (HX w' hb).b) hcap (by omega)
              have HP2 : ∀ w', Below W6.drew.heap.size W6.drew w' → Calls Try.prog 9 #[.agg (arr8 32 key), .slice A2 ys.length c2] w' fun e w'' => e = .returned (.agg (arr8 16 (polyB key ys))) ∧ Below w'.heap.size w' w'' := fun w' hb => psum_any key _ ys c2 w' (HY w' hb) hyc (by omega)
              have HD1 : ∀ w', Below W6.drew.heap.size W6.drew w' → Calls Try.prog 10 #[.agg (arr8 32 key), .slice (some ⟨gb, o, none⟩) bs.length cap] w' fun e w'' => e = .returned (.agg (arr8 16 (polyB key bs))) ∧ Below w'.heap.size w' w'' := fun w' hb => dtag_any key _ bs cap w' (HSR.out w' (HX w' hb).b) hcap (by omega)
              have HD2 : ∀ w', Below W6.drew.heap.size W6.drew w' → Calls Try.prog 10 #[.agg (arr8 32 key), .slice A2 ys.length c2] w' fun e w'' => e = .returned (.agg (arr8 16 (polyB key ys))) ∧ Below w'.heap.size w' w'' := fun w' hb => dtag_any key _ ys c2 w' (HY w' hb) hyc (by omega)
              obtain ⟨bb, hbb⟩ : ∃ bb, bb = same16 (polyB key bs) (polyB key ys) := ⟨_, rfl⟩
              have HEQ : ∀ w, (Op.equalIn 10000 26 (.agg (arr8 16 (polyB key bs))) (.agg (arr8 16 (polyB key ys)))).run Try.prog w = .ok bb w := fun w => by rw [hbb]; exact equal16b _ _ w
              generalize hP : polyB (keyK key) bs = P at *
              generalize hP1 : polyB key bs = P1 at *
              generalize hP2 : polyB key ys = P2 at *
              generalize hkk : keyK key = kk at *
              clear hbb hP hP1 hP2 hkk HXX hx6 hrd HSR
              refine wp_region_spec_v [Sp.k 0 (some 69) [] (.bool true),
                Sp.k 1 (some 70) [0] (.bool true),
                Sp.k 2 (some 71) [1] (.agg (arr8 32 kk)),
                Sp.k 3 (some 72) [1] (.slice (some ⟨gb, o, none⟩) bs.length cap),
                Sp.k 4 (some 73) [1, 2, 3] (.agg (arr8 16 P)),
                Sp.k 5 (some 74) [1] (.agg (arr8 16 P)),
                Sp.k 6 (some 75) [1, 4, 5] (.bool true),
                Sp.k 7 (some 76) [1, 6] (.bool true),
                Sp.k 8 (some 77) [7] (.bool true),
                Sp.k 9 (some 78) [8] (.agg (arr8 32 key)),
                Sp.k 10 (some 79) [8] (.slice (some ⟨gb, o, none⟩) bs.length cap),
                Sp.k 11 (some 80) [8, 9, 10] (.agg (arr8 16 P1)),
                Sp.k 12 (some 81) [8] (.agg (arr8 32 key)),
                Sp.k 13 (some 82) [8] (.slice A2 ys.length c2),
                Sp.k 14 (some 83) [8, 12, 13] (.agg (arr8 16 P2)),
                Sp.k 15 (some 84) [8, 11, 14] (.bool bb),
                Sp.k 16 (some 85) [8] (.agg (arr8 32 key)),
                Sp.k 17 (some 86) [8] (.slice (some ⟨gb, o, none⟩) bs.length cap),
                Sp.k 18 (some 87) [8, 16, 17] (.agg (arr8 16 P1)),
                Sp.k 19 (some 88) [8] (.agg (arr8 32 key)),
                Sp.k 20 (some 89) [8] (.slice A2 ys.length c2),
                Sp.k 21 (some 90) [8, 19, 20] (.agg (arr8 16 P2)),
                Sp.k 22 (some 91) [8, 18, 21] (.bool bb),
                Sp.k 23 (some 92) [8, 15, 22] (.bool true),
                Sp.k 24 (some 93) [8, 23] (.bool true),
                Sp.k 25 (some 4) [24] (.bool true)] (by kernel_rfl) (by kernel_rfl)
                ⟨owes_move 0 (some 69) [] (.bool true) (Go.Operand.tmp 5) (fun v => by kernel_rfl) (fun v => by kernel_rfl),
                owes_move 1 (some 70) [0] (.bool true) (Go.Operand.tmp 69) (fun v => by kernel_rfl) (fun v => by kernel_rfl),
                owes_load 2 (some 71) [1] (.agg (arr8 32 kk)) 23 (Go.Operand.tmp 6) (.pointer (some ⟨D, 0, none⟩)) (fun v => by kernel_rfl) (fun v => by kernel_rfl) (fun w' hb => key_loadP (HX w' hb).x),
                owes_move 3 (some 72) [1] (.slice (some ⟨gb, o, none⟩) bs.length cap) (Go.Operand.tmp 1) (fun v => by kernel_rfl) (fun v => by kernel_rfl),
                owes_call 4 (some 73) [1, 2, 3] (.agg (arr8 16 P)) 9 #[Go.Operand.tmp 71, Go.Operand.tmp 72] #[23, 24] (fun v => by kernel_rfl) (fun _ _ => by kernel_rfl) (fun v w' hb ho => by
                    exact ⟨#[.agg (arr8 32 kk), .slice (some ⟨gb, o, none⟩) bs.length cap], by kernel_rfl, (HS1 w' hb).mono (fun _ _ h => h)⟩),
                owes_load 5 (some 74) [1] (.agg (arr8 16 P)) 26 (Go.Operand.tmp 8) (.pointer (some ⟨E, 0, none⟩)) (fun v => by kernel_rfl) (fun v => by kernel_rfl) (fun w' hb => a16_load (HX w' hb).ww),
                owes_eql 6 (some 75) [1, 4, 5] 26 (Go.Operand.tmp 73) (Go.Operand.tmp 74) 26 (arr8 16 P) (arr8 16 P) true (fun v => by kernel_rfl) (fun v => by kernel_rfl) (by kernel_rfl) (equal16 P),
                owes_pick 7 (some 76) [1, 6] (.bool true) (Go.Operand.tmp 70) (Go.Operand.tmp 75) (Go.Operand.const (Go.Value.bool false)) true (fun v => by kernel_rfl) (fun v => by kernel_rfl) (fun v => by kernel_rfl),
                owes_move 8 (some 77) [7] (.bool true) (Go.Operand.tmp 76) (fun v => by kernel_rfl) (fun v => by kernel_rfl),
                owes_load 9 (some 78) [8] (.agg (arr8 32 key)) 23 (Go.Operand.tmp 2) (.pointer (some ⟨B, 0, none⟩)) (fun v => by kernel_rfl) (fun v => by kernel_rfl) (fun w' hb => key_loadP (HX w' hb).k),
                owes_move 10 (some 79) [8] (.slice (some ⟨gb, o, none⟩) bs.length cap) (Go.Operand.tmp 1) (fun v => by kernel_rfl) (fun v => by kernel_rfl),
                owes_call 11 (some 80) [8, 9, 10] (.agg (arr8 16 P1)) 10 #[Go.Operand.tmp 78, Go.Operand.tmp 79] #[23, 24] (fun v => by kernel_rfl) (fun _ _ => by kernel_rfl) (fun v w' hb ho => by
                    exact ⟨#[.agg (arr8 32 key), .slice (some ⟨gb, o, none⟩) bs.length cap], by kernel_rfl, (HD1 w' hb).mono (fun _ _ h => h)⟩),
                owes_load 12 (some 81) [8] (.agg (arr8 32 key)) 23 (Go.Operand.tmp 2) (.pointer (some ⟨B, 0, none⟩)) (fun v => by kernel_rfl) (fun v => by kernel_rfl) (fun w' hb => key_loadP (HX w' hb).k),
                owes_move 13 (some 82) [8] (.slice A2 ys.length c2) (Go.Operand.tmp 12) (fun v => by kernel_rfl) (fun v => by kernel_rfl),
                owes_call 14 (some 83) [8, 12, 13] (.agg (arr8 16 P2)) 10 #[Go.Operand.tmp 81, Go.Operand.tmp 82] #[23, 24] (fun v => by kernel_rfl) (fun _ _ => by kernel_rfl) (fun v w' hb ho => by
                    exact ⟨#[.agg (arr8 32 key), .slice A2 ys.length c2], by kernel_rfl, (HD2 w' hb).mono (fun _ _ h => h)⟩),
                owes_eql 15 (some 84) [8, 11, 14] 26 (.tmp 80) (.tmp 83) 26 (arr8 16 P1) (arr8 16 P2) bb (fun v => by kernel_rfl) (fun v => by kernel_rfl) (by kernel_rfl) HEQ,
                owes_load 16 (some 85) [8] (.agg (arr8 32 key)) 23 (Go.Operand.tmp 2) (.pointer (some ⟨B, 0, none⟩)) (fun v => by kernel_rfl) (fun v => by kernel_rfl) (fun w' hb => key_loadP (HX w' hb).k),
                owes_move 17 (some 86) [8] (.slice (some ⟨gb, o, none⟩) bs.length cap) (Go.Operand.tmp 1) (fun v => by kernel_rfl) (fun v => by kernel_rfl),
                owes_call 18 (some 87) [8, 16, 17] (.agg (arr8 16 P1)) 9 #[Go.Operand.tmp 85, Go.Operand.tmp 86] #[23, 24] (fun v => by kernel_rfl) (fun _ _ => by kernel_rfl) (fun v w' hb ho => by
                    exact ⟨#[.agg (arr8 32 key), .slice (some ⟨gb, o, none⟩) bs.length cap], by kernel_rfl, (HP1 w' hb).mono (fun _ _ h => h)⟩),
                owes_load 19 (some 88) [8] (.agg (arr8 32 key)) 23 (Go.Operand.tmp 2) (.pointer (some ⟨B, 0, none⟩)) (fun v => by kernel_rfl) (fun v => by kernel_rfl) (fun w' hb => key_loadP (HX w' hb).k),
                owes_move 20 (some 89) [8] (.slice A2 ys.length c2) (Go.Operand.tmp 12) (fun v => by kernel_rfl) (fun v => by kernel_rfl),
                owes_call 21 (some 90) [8, 19, 20] (.agg (arr8 16 P2)) 9 #[Go.Operand.tmp 88, Go.Operand.tmp 89] #[23, 24] (fun v => by kernel_rfl) (fun _ _ => by kernel_rfl) (fun v w' hb ho => by
                    exact ⟨#[.agg (arr8 32 key), .slice A2 ys.length c2], by kernel_rfl, (HP2 w' hb).mono (fun _ _ h => h)⟩),
                owes_eql 22 (some 91) [8, 18, 21] 26 (.tmp 87) (.tmp 90) 26 (arr8 16 P1) (arr8 16 P2) bb (fun v => by kernel_rfl) (fun v => by kernel_rfl) (by kernel_rfl) HEQ,
                owes_bin 23 (some 92) [8, 15, 22] (.bool true) Go.BinOp.eql 4 (Go.Operand.tmp 84) (Go.Operand.tmp 91) 4 (.bool bb) (.bool bb) (fun v => by kernel_rfl) (fun v => by kernel_rfl) (fun w => by cases bb <;> kernel_rfl),
                owes_pick 24 (some 93) [8, 23] (.bool true) (Go.Operand.tmp 77) (Go.Operand.tmp 92) (Go.Operand.const (Go.Value.bool false)) true (fun v => by kernel_rfl) (fun v => by kernel_rfl) (fun v => by kernel_rfl),
                owes_assign 25 (some 4) [24] (.bool true) (Go.Operand.tmp 93) (fun v => by kernel_rfl) (fun v => by kernel_rfl), trivial⟩ ?_
              intro v w' A' hAc hb hall
              have hbe := (HX w' hb).b
              have h8 : A'.tmps.getD 4 undef = .bool true := by rw [hAc]; kernel_rfl
              have hd8 : A'.defers = [] := by rw [hAc]; kernel_rfl
              clear hall HX HY HS1 HP1 HP2 HD1 HD2 HEQ hb hAc
              go_wp2_with fail
              rw [HB.out]
              exact ret_slot 4 rfl h8 hd8 ⟨rfl, hbe⟩
    · have h0 : bs.length = 0 := by omega
      have hd1 : decide (14 < (bs.length : Int)) = false := by simp; omega
      have hd2 : ((bs.length : Int) == 0) = true := by rw [h0]; rfl
      clear h0 hpos
      go_wp2_with fail
      go_ret
      rw [HB.out]
      exact ⟨rfl, g2⟩
  · have hd1 : decide (14 < (bs.length : Int)) = true := by simp; omega
    go_wp2_with fail
    go_ret
    rw [HB.out]
    exact ⟨rfl, g2⟩
end Go.Proofs.Ytpkajfkdandhoaa
