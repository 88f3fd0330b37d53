import Derived.Test.YtmmcabjpmcepaaaDoorAep
import Derived.ArgAppend
/-
  AeadParts.
-/
namespace Go.Proofs.YtmmcabjpmcepaaaDoor
open Go.RowKit

/-- bytes appended to a slice that has no room -/
theorem run_app_fullA (ty : TypeId) (W : World) (g : Nat) (xs : List (BitVec 8)) (B : Option Addr) (ys : List (BitVec 8)) (cb : Nat)
    (hA : SlRead W (some ⟨g, 0, none⟩) (ints .u8 (bys xs))) (hB : SlRead W B (ints .u8 (bys ys))) (hl : xs.length + ys.length ≤ 140737488352000) :
    ∃ A' c' w', (Builtin.append_ #[25, 25] ty #[.slice (some ⟨g, 0, none⟩) xs.length xs.length, .slice B ys.length cb]).run Tryd.prog W = .ok (.slice A' (xs ++ ys).length c') w' ∧
      (xs ++ ys).length ≤ c' ∧ SlRead w' A' (ints .u8 (bys (xs ++ ys))) ∧ Below W.heap.size W w' := by
  obtain ⟨i0, hi, hz0, hz1, hz2⟩ := info_parts Tryd.info5
  have e : ints .u8 (bys xs) ++ ints .u8 (bys ys) = ints .u8 (bys (xs ++ ys)) := by simp [ints, bys]
  rcases Nat.eq_zero_or_pos ys.length with h0 | hpos
  · obtain rfl := List.eq_nil_of_length_eq_zero h0
    refine ⟨some ⟨g, 0, none⟩, xs.length, W, ?_, by simp, by simpa using hA, Below.refl _ _⟩
    have hr : (Builtin.append_ #[25, 25] ty #[.slice (some ⟨g, 0, none⟩) xs.length xs.length, .slice B 0 cb]).run Tryd.prog W = .ok (.slice (some ⟨g, 0, none⟩) xs.length xs.length) W := by
      cases B with
      | none => simp [Builtin.append_, run_underlying Tryd.underlying25, sizeOf, typeInfo, hi, Builtin.lenOf, Builtin.firstCells, storeCells]
      | some ad =>
        have hfc := run_firstCells_some (P := Tryd.prog) W i0.size 0 ad 0 cb [] (by simp) (by simp)
        simp [Builtin.append_, run_underlying Tryd.underlying25, sizeOf, typeInfo, hi, Builtin.lenOf, hfc, storeCells]
    simpa using hr
  · obtain ⟨b', o', rfl, _, hc⟩ := hB (by simp [bys]; omega)
    have hx : ∀ j u, (ints .u8 (bys xs))[j]? = some u → W.cell? ((⟨g, 0, none⟩ : Addr).add j) = some u := by
      intro j u hu
      have hn : 0 < (ints .u8 (bys xs)).length := by
        have := (List.getElem?_eq_some_iff.1 hu).1
        omega
      obtain ⟨b', o', e1, _, hc⟩ := hA hn
      obtain ⟨rfl, rfl⟩ : g = b' ∧ 0 = o' := by simpa using e1
      rw [add_eq]
      exact hc j u hu
    obtain ⟨v', w', hr, h2, h3⟩ := run_append_arg_grows (P := Tryd.prog) W 25 ty 5 i0 (.int .u8 0) 1 1 Tryd.underlying25 hi hz0 hz1 hz2 rfl (by decide) ⟨g, 0, none⟩ xs.length xs.length (ints .u8 (bys xs)) (by simp) hx
      ⟨b', o', none⟩ ys.length cb (ints .u8 (bys ys)) (by simp) (fun j u hu => by rw [add_eq]; exact hc j u hu) (by omega) (by unfold maxLen; omega) (by omega)
    rw [e] at h2
    obtain ⟨A', c', rfl, hc'⟩ := ownsRow_form h2
    exact ⟨A', c', w', by simpa using hr, by simpa using hc' (by omega), SlRead.of_own h2, (Below.refl _ _).grown h3 (Nat.le_refl _) (by intro k h; cases h)⟩


/-- both lengths, of less than 256 -/
def l16 (n m : Nat) : List (BitVec 8) := [BitVec.ofNat 8 n, 0#8, 0#8, 0#8, 0#8, 0#8, 0#8, 0#8, BitVec.ofNat 8 m, 0#8, 0#8, 0#8, 0#8, 0#8, 0#8, 0#8]
def t16 (n m : Nat) : Array Value := #[.int .u8 (n : Int), .int .u8 0, .int .u8 0, .int .u8 0, .int .u8 0, .int .u8 0, .int .u8 0, .int .u8 0, .int .u8 (m : Int), .int .u8 0, .int .u8 0, .int .u8 0, .int .u8 0, .int .u8 0, .int .u8 0, .int .u8 0]
theorem len8_small (n : Nat) (h : n < 256) : len8 n 8 = [BitVec.ofNat 8 n, 0#8, 0#8, 0#8, 0#8, 0#8, 0#8, 0#8] := by
  have hz : ∀ j, 1 ≤ j → j < 8 → ((BitVec.ofNat 64 n) >>> (8 * j)).setWidth 8 = 0#8 := fun j h1 h8 => by
    apply BitVec.eq_of_toNat_eq
    rw [BitVec.toNat_setWidth, BitVec.toNat_ushiftRight, BitVec.toNat_ofNat, Nat.mod_eq_of_lt (show n < 2 ^ 64 by omega), Nat.shiftRight_eq_div_pow]
    have : 2 ^ 8 ≤ 2 ^ (8 * j) := Nat.pow_le_pow_right (by omega) (by omega)
    rw [Nat.div_eq_of_lt (by omega)]
    rfl
  have h0 : ((BitVec.ofNat 64 n) >>> (8 * 0)).setWidth 8 = BitVec.ofNat 8 n := by
    apply BitVec.eq_of_toNat_eq
    rw [BitVec.toNat_setWidth, BitVec.toNat_ushiftRight, BitVec.toNat_ofNat, BitVec.toNat_ofNat, Nat.mod_eq_of_lt (show n < 2 ^ 64 by omega)]
    simp
  unfold len8
  rw [show List.range 8 = [0, 1, 2, 3, 4, 5, 6, 7] from rfl]
  simp only [List.map_cons, List.map_nil]
  rw [h0, hz 1 (by omega) (by omega), hz 2 (by omega) (by omega), hz 3 (by omega) (by omega), hz 4 (by omega) (by omega), hz 5 (by omega) (by omega), hz 6 (by omega) (by omega), hz 7 (by omega) (by omega)]
theorem l16_eq (n m : Nat) (hn : n < 256) (hm : m < 256) : l16 n m = len8 n 8 ++ len8 m 8 := by
  rw [len8_small n hn, len8_small m hm]
  rfl
theorem t16_eq (n m : Nat) (hn : n < 256) (hm : m < 256) : (t16 n m).toList = ints .u8 (bys (l16 n m)) := by
  have e : ∀ k : Nat, k < 256 → (k : Int) = n8 (BitVec.ofNat 8 k) := fun k hk => by rw [n8_nat, BitVec.toNat_ofNat]; omega
  unfold t16 l16
  rw [e n hn, e m hm]
  rfl
theorem SlRead.belowC {w w' : World} {A : Option Addr} {xs : List Value} {C : Nat} (h : SlRead w A xs) (hA : ∀ b o, A = some ⟨b, o, none⟩ → b < C) (hb : Below C w w') : SlRead w' A xs := by
  intro hn
  obtain ⟨b, o, e, hlt, hc⟩ := h hn
  exact ⟨b, o, e, Nat.lt_of_lt_of_le hlt hb.size, fun j u hj => (hb.cell (p := ⟨b, o + j, none⟩) (hA b o e)).trans (hc j u hj)⟩
/-- what was encrypted, the block, the key made of it -/
structure PtAt (w : World) (B : Nat) (key non : Nat → BitVec 8) (O : Nat) (c : List (BitVec 8)) (g : Nat) (z f : Nat → BitVec 8) (W : World) : Prop where
  h : HdA w B key non W
  c : SlRead W (some ⟨O, 0, none⟩) (ints .u8 (bys c))
  k : W.rowIs g 44 64 (fun i => v8 (z i))
  o : W.rowIs (g + 1) 23 32 (fun i => v8 (f i))
  og : O < g
  lt : B + 1 < g
theorem PtAt.later {w : World} {B : Nat} {key non : Nat → BitVec 8} {O : Nat} {c : List (BitVec 8)} {g : Nat} {z f : Nat → BitVec 8} {W W' : World} {C : Nat} (h : PtAt w B key non O c g z f W) (hb : Below C W W') (hC : g + 1 < C) : PtAt w B key non O c g z f W' :=
  have h1 := h.og
  have h2 := h.lt
  ⟨h.h.later hb (by omega), h.c.belowC (fun b o e => by simp only [Option.some.injEq, Addr.mk.injEq] at e; omega) hb, h.k.of_block (hb.block _ (by omega)), h.o.of_block (hb.block _ hC), h1, h2⟩
theorem PtAt.put {w : World} {B : Nat} {key non : Nat → BitVec 8} {O : Nat} {c : List (BitVec 8)} {g : Nat} {z : Nat → BitVec 8} {W : World} {k : Nat} (h : PtAt w B key non O c g z (fun i => if i < k then z i else 0#8) W) (_hk : k < 32) :
    PtAt w B key non O c g z (fun i => if i < k + 1 then z i else 0#8) (W.setCell ⟨g + 1, k, none⟩ (v8 (z k))) :=
  have h1 := h.og
  have h2 := h.lt
  have hb : Below (g + 1) W (W.setCell ⟨g + 1, k, none⟩ (v8 (z k))) := (Below.refl (g + 1) W).setCell (p := ⟨g + 1, k, none⟩) (Nat.le_refl _) _
  ⟨h.h.later hb (by omega), h.c.belowC (fun b o e => by simp only [Option.some.injEq, Addr.mk.injEq] at e; omega) hb, h.k.of_block (hb.block _ (by omega)), (h.o.set k _).congr (fun i _ => by
    by_cases e : i = k
    · rw [if_pos e, if_pos (by omega), e]
    · rw [if_neg e]
      by_cases e2 : i < k
      · rw [if_pos e2, if_pos (by omega)]
      · rw [if_neg e2, if_neg (by omega)]), h1, h2⟩

set_option maxRecDepth 100000 in
set_option maxHeartbeats 3200000 in
theorem parts_walk (E : Nat → Addr) (key non : Nat → BitVec 8) (A : Option Addr) (ad : List (BitVec 8)) (ca : Nat) (X : Option Addr) (b : List (BitVec 8)) (cx : Nat) (w : World)
    (hA : SlRead w A (ints .u8 (bys ad))) (hX : SlRead w X (ints .u8 (bys b))) (hE : ErrsAt E w) :
    Calls Tryd.prog 6 #[.agg (arr8 32 key), .agg (arr8 12 non), .slice A ad.length ca, .slice X b.length cx] w fun e w' => e = .returned (.bool true) ∧ Below w.heap.size w w' := by
  go_enter Tryd.func6, Tryd.ntmps6
  go_upto_region 1 with (fail)
  refine wp_world (HdA w w.heap.size key non) ?_ ?_
  · refine ⟨?_, ?_, ?_⟩
    · exact (rowIs_new _ _ _ _ _ _ (by simp) (by simp) (fun i hi => arr8_get 32 key i hi)).alloc _
    · exact rowIs_new _ _ _ _ _ _ (by simp) (by simp) (fun i hi => arr8_get 12 non i hi)
    · go_grown
  rintro W hW
  have hE0 := hE.below hW.b
  generalize hB : w.heap.size = B at hW ⊢
  have HB := Lib.hid hB; clear hB
  go_wp2_with fail
  refine (first_any E W hE0).mono ?_
  rintro e W1 ⟨rfl, hb1⟩
  have hW1 := hW.next hb1
  clear hW hb1 hE0
  by_cases h1 : 60 < ad.length
  · have d1 : decide ((60 : Int) < (ad.length : Int)) = true := by simp; omega
    go_wp2_with fail
    go_ret
    exact ⟨rfl, by rw [HB.out]; exact hW1.b⟩
  have d1 : decide ((60 : Int) < (ad.length : Int)) = false := by simp; omega
  by_cases h2 : 60 < b.length
  · have d2 : decide ((60 : Int) < (b.length : Int)) = true := by simp; omega
    go_wp2_with fail
    go_ret
    exact ⟨rfl, by rw [HB.out]; exact hW1.b⟩
  have d2 : decide ((60 : Int) < (b.length : Int)) = false := by simp; omega
  have hslT := sliceAt_all (P := Tryd.prog) 16 Tryd.underlying46 (show (Tryd.prog.info? 5).map (·.size) = some 1 by kernel_rfl)
  have hla : ad.length ≤ 1000 := by omega
  have hlx : b.length ≤ 1000 := by omega
  have hX1 : SlRead W1 X (ints .u8 (bys b)) := hX.below (by rw [HB.out]; exact hW1.b)
  have hk := rowIs_heap8 hW1.k
  have hn := rowIs_heap8 hW1.n
  go_wp2_with (first | (refine wpList_load_row rfl 23 _ rfl _ rfl _ _ _ _ hk Tryd.underlying23 rfl (by kernel_rfl) ?_) | (refine wpList_load_row rfl 24 _ rfl _ rfl _ _ _ _ hn Tryd.underlying24 rfl (by kernel_rfl) ?_))
  refine (xorb_any key non 1#32 X b cx W1 hX1 hlx).mono ?_
  rintro e W2 ⟨O, rfl, h2x⟩
  have hW2 := hW1.next h2x.b
  obtain ⟨c, hc⟩ : ∃ c, c = xorB key 1#32 non b := ⟨_, rfl⟩
  have hcl : c.length = b.length := by rw [hc]; simp
  rw [← hc] at h2x
  rw [← hcl] at h2x ⊢
  have hSc2 := SlRead.of_own h2x.own
  have hO2 : O < W2.heap.size := (h2x.own.lt O rfl).2
  have HC := Lib.hid hc
  have HCL := Lib.hid hcl
  have hc60 : c.length ≤ 60 := by omega
  clear hc hcl h2x hX1 hW1 d1 d2 hk hn
  have hk := rowIs_heap8 hW2.k
  have hn := rowIs_heap8 hW2.n
  go_upto_region 8 with (first | (refine wpList_load_row rfl 23 _ rfl _ rfl _ _ _ _ hk Tryd.underlying23 rfl (by kernel_rfl) ?_) | (refine wpList_load_row rfl 24 _ rfl _ rfl _ _ _ _ hn Tryd.underlying24 rfl (by kernel_rfl) ?_) | (go_at_call 18; refine (ckb_any key non 0#32 _).mono ?_; rintro e W3 ⟨rfl, hb3⟩) | (refine wpList_store_row rfl 44 _ _ rfl _ _ rfl rfl _ _ (heap_alloc_new _ _) (by kernel_rfl) (by simp) (arr8_one _ _) ?_; rw [alloc_setRow]))
  obtain ⟨z, hz⟩ : ∃ z, z = ckB key 0#32 non := ⟨_, rfl⟩
  rw [← hz]
  obtain ⟨zk, hzk⟩ : ∃ zk : Nat → BitVec 8, zk = fun i => if i < 32 then z i else 0#8 := ⟨_, rfl⟩
  have HZK : Hid (zk = fun i => if i < 32 then ckB key 0#32 non i else 0#8) := Lib.hid (by rw [hzk, hz])
  have HZK0 : Hid (∀ i, i < 32 → zk i = z i) := Lib.hid (fun i hi => by rw [hzk]; simp [hi])
  clear hz hzk hk hn
  have hW3 := hW2.next hb3
  have hSc3 := hSc2.below hb3
  have hO3 : O < W3.heap.size := Nat.lt_of_lt_of_le hO2 hb3.size
  have hB3 := hW3.lt
  have hal : ∀ o, Below W3.heap.size W3 (W3.alloc o) := fun o => (Below.refl _ _).alloc (Nat.le_refl _) _
  refine wp_world (fun W => HdA w B key non W ∧ SlRead W (some ⟨O, 0, none⟩) (ints .u8 (bys c)) ∧ W.rowIs W3.heap.size 44 64 (fun i => v8 (z i)) ∧ W.heap.size = W3.heap.size + 1) ⟨hW3.next (hal _), hSc3.below (hal _), rowIs_new _ _ _ _ _ _ rfl (by simp) (fun i hi => arr8_get 64 _ i hi), by simp⟩ ?_
  generalize W3.heap.size = g at hO3 hB3 ⊢
  clear hW2 hb3 hSc2 hO2 hW3 hSc3 hal W3 W2
  rintro W4 ⟨hW4, hSc4, hg4, hs4⟩
  have HS4 := Lib.hid hs4
  clear hs4
  go_upto_region 9 with (fail)
  rw [HS4.out]
  have hal : ∀ o, Below W4.heap.size W4 (W4.alloc o) := fun o => (Below.refl _ _).alloc (Nat.le_refl _) _
  refine wp_world (PtAt w B key non O c g z (fun i => if i < 0 then z i else 0#8)) ⟨hW4.next (hal _), hSc4.below (hal _), hg4.alloc _, rowIs_new _ _ _ _ _ _ HS4.out.symm (by rfl) (fun i hi => (zeroK i hi).trans (by rw [if_neg (by omega)])), hO3, hB3⟩ ?_
  clear hW4 hSc4 hg4 HS4 hal W4
  rintro W0 hT
  go_wp2_with fail
  go_loopw [13] (fun i wr => ∃ k : Nat, k ≤ 32 ∧ i = .int .i64 k ∧ PtAt w B key non O c g z (fun i => if i < k then z i else 0#8) wr) (fun i _ => 32 - (intOf i).toNat)
  case atStart => exact ⟨0, by omega, rfl, hT⟩
  clear hT
  case round =>
    obtain ⟨k, hk, rfl, hT⟩ := hrel
    by_cases hlt : k < 32
    · have cz := hT.k.cell (i := k) (by omega)
      have co := hT.o.cell hlt
      have fo := hT.o.frozen k
      have HT : Hid (PtAt w B key non O c g z (fun i => if i < k + 1 then z i else 0#8) (wr.setCell ⟨g + 1, k, none⟩ (v8 (z k)))) := Lib.hid (hT.put hlt)
      clear hT
      go_wp2_with fail
      go_roundw
      case rel => exact ⟨k + 1, by omega, by go_num, HT.out⟩
      case measure => simp [intOf]; omega
    · obtain rfl : k = 32 := by omega
      clear hk hlt
      rw [show ((32 : Nat) : Int) = 32 from rfl]
      have hT2 : PtAt w B key non O c g z zk wr := ⟨hT.h, hT.c, hT.k, hT.o.congr fun i hi => by rw [HZK0.out i hi, if_pos hi], hT.og, hT.lt⟩
      clear hT
      have hA2 : SlRead wr A (ints .u8 (bys ad)) := hA.below (by rw [HB.out]; exact hT2.h.b)
      have hgB0 : g + 1 < wr.heap.size := hT2.o.lt
      go_wp2_with fail
      refine (bytes_own A ad ca wr hA2 (by omega)).mono ?_
      rintro e W3 ⟨v3, rfl, h3⟩
      have hT3 := hT2.later h3.b hgB0
      have hBs : wr.heap.size ≤ W3.heap.size := h3.s
      have hown3 := h3.own
      obtain ⟨BB, hBB⟩ : ∃ BB, BB = wr.heap.size := ⟨_, rfl⟩
      rw [← hBB] at hown3 hgB0 hBs
      have hgB := hgB0
      have hst : OwnB W3 BB ad v3 W3 := ⟨hown3, Below.refl _ _, hBs⟩
      clear hA2 hT2 hown3 h3 hgB0 hBB hBs wr
      go_wp2_with fail

      go_loopw [14] (fun v wr => ∃ t : Nat, t ≤ padN ad.length ∧ OwnB W3 BB (ad ++ List.replicate t 0#8) v wr) (fun v _ => match v with | .slice _ len _ => ad.length + 16 - len | _ => 0)
      case atStart => exact ⟨0, by omega, by simpa using hst⟩
      clear hst
      case round =>
        obtain ⟨t, ht, hx⟩ := hrel
        obtain ⟨Av, cv, rfl, hcv⟩ := ownsRow_form hx.own
        have hn : (ad ++ List.replicate t 0#8).length = ad.length + t := by simp
        have hp : padN ad.length = (16 - ad.length % 16) % 16 := rfl
        obtain ⟨us, hus⟩ : ∃ us, us = ad ++ List.replicate t 0#8 := ⟨_, rfl⟩
        rw [← hus] at hx hn hcv ⊢
        obtain ⟨r, hr⟩ : ∃ r, r = us.length % 16 := ⟨_, rfl⟩
        have htm : Int.tmod (us.length : Int) 16 = (r : Int) := by rw [Int.tmod_eq_emod_of_nonneg (by omega), hr]; omega
        by_cases hlt : t < padN ad.length
        · have hrb : ((r : Int) != 0) = true := by simp; omega
          have hus1 : us ++ [0#8] = ad ++ List.replicate (t + 1) 0#8 := by rw [hus, List.append_assoc, List.replicate_succ']
          have hle : us.length ≤ 140737488351900 := by omega
          have HU := Lib.hid hus1
          have HN := Lib.hid hn
          have HP := Lib.hid hp
          clear hus hus1 hr hn hp
          go_wp2_with (at_builtin; refine push_one rfl _ _ rfl wr BB (.slice Av us.length cv) us 0#8 rfl rfl hx.own hx.s hle ?_; intro v' W4 hown hb hg1 hg2; clear hg1 hg2)
          have h4 := hx.push hown hb
          rw [HU.out] at h4
          clear hx hown hb
          go_wp2_with fail
          go_roundw
          case rel => exact ⟨t + 1, by omega, h4⟩
          case measure =>
            obtain ⟨Av2, cv2, rfl, _⟩ := ownsRow_form h4.own
            have := HN.out
            have := HP.out
            simp
            omega
        · have hrb : ((r : Int) != 0) = false := by simp; omega
          have hte : t = padN ad.length := by omega
          rw [hte] at hus
          have HU := Lib.hid (show us = padded ad from hus)
          clear hus hr hn hp hte ht hlt
          obtain ⟨d1, hd1⟩ : ∃ d1, d1 = us := ⟨_, rfl⟩
          rw [← hd1] at hx HU htm ⊢
          clear hd1
          have hD1 : d1.length ≤ 100 := by
            have h1 := padded_len ad
            have h2 := padN_lt ad.length
            rw [HU.out]
            omega
          have HD1 := HU
          have hc5 : SlRead wr (some ⟨O, 0, none⟩) (ints .u8 (bys c)) := (hT3.later hx.b hgB).c
          have hle : d1.length + c.length ≤ 140737488352000 := by omega
          go_wp2_with (at_builtin; refine push_many rfl _ _ rfl wr BB (.slice Av d1.length cv) d1 (some ⟨O, 0, none⟩) c c.length rfl rfl hx.own hc5 hx.s hle ?_; intro v' W5 hown1 hb1 hg1 hg2; clear hg1 hg2)
          have hst := hx.push hown1 hb1
          clear hx hown1 hb1 hc5 hcv HU htm hrb hle
          obtain ⟨zs, hzs⟩ : ∃ zs, zs = d1 ++ c := ⟨_, rfl⟩
          have hlz : zs.length ≤ 200 := by rw [hzs, List.length_append]; omega
          rw [← hzs] at hst
          have HZS := Lib.hid hzs
          clear hzs
          go_wp2_with fail

          go_loopw [14] (fun v wr => ∃ t : Nat, t ≤ padN zs.length ∧ OwnB W3 BB (zs ++ List.replicate t 0#8) v wr) (fun v _ => match v with | .slice _ len _ => zs.length + 16 - len | _ => 0)
          case atStart => exact ⟨0, by omega, by simpa using hst⟩
          clear hst
          case round =>
            obtain ⟨t, ht, hx⟩ := hrel
            obtain ⟨Av, cv, rfl, hcv⟩ := ownsRow_form hx.own
            have hn : (zs ++ List.replicate t 0#8).length = zs.length + t := by simp
            have hp : padN zs.length = (16 - zs.length % 16) % 16 := rfl
            obtain ⟨us, hus⟩ : ∃ us, us = zs ++ List.replicate t 0#8 := ⟨_, rfl⟩
            rw [← hus] at hx hn hcv ⊢
            obtain ⟨r, hr⟩ : ∃ r, r = us.length % 16 := ⟨_, rfl⟩
            have htm : Int.tmod (us.length : Int) 16 = (r : Int) := by rw [Int.tmod_eq_emod_of_nonneg (by omega), hr]; omega
            by_cases hlt : t < padN zs.length
            · have hrb : ((r : Int) != 0) = true := by simp; omega
              have hus1 : us ++ [0#8] = zs ++ List.replicate (t + 1) 0#8 := by rw [hus, List.append_assoc, List.replicate_succ']
              have hle : us.length ≤ 140737488351900 := by omega
              have HU := Lib.hid hus1
              have HN := Lib.hid hn
              have HP := Lib.hid hp
              clear hus hus1 hr hn hp
              go_wp2_with (at_builtin; refine push_one rfl _ _ rfl wr BB (.slice Av us.length cv) us 0#8 rfl rfl hx.own hx.s hle ?_; intro v' W4 hown hb hg1 hg2; clear hg1 hg2)
              have h4 := hx.push hown hb
              rw [HU.out] at h4
              clear hx hown hb
              go_wp2_with fail
              go_roundw
              case rel => exact ⟨t + 1, by omega, h4⟩
              case measure =>
                obtain ⟨Av2, cv2, rfl, _⟩ := ownsRow_form h4.own
                have := HN.out
                have := HP.out
                simp
                omega
            · have hrb : ((r : Int) != 0) = false := by simp; omega
              have hte : t = padN zs.length := by omega
              rw [hte] at hus
              have HU := Lib.hid (show us = padded zs from hus)
              clear hus hr hn hp hte ht hlt
              obtain ⟨d2, hd2⟩ : ∃ d2, d2 = us := ⟨_, rfl⟩
              rw [← hd2] at hx HU htm ⊢
              clear hd2
              have hD2 : d2.length ≤ 400 := by
                have h1 := padded_len zs
                have h2 := padN_lt zs.length
                rw [HU.out]
                omega
              have HD2 : Hid (d2 = padded (padded ad ++ c)) := Lib.hid (by rw [HU.out, HZS.out, HD1.out])
              have hla3 : ad.length < 256 := by omega
              have hlc3 : c.length < 256 := by omega
              have hown2 := hx.own
              have hxs := hx.s
              have hlz3 : d2.length + 16 ≤ 140737488352000 := by omega
              clear hcv HZS HD1
              go_upto_region 20 with (at_builtin; refine push_many rfl _ _ rfl (wr.alloc (.cells (t16 ad.length c.length) 5)) BB (.slice Av d2.length cv) d2 (some ⟨wr.heap.size, 0, none⟩) (l16 ad.length c.length) 16 rfl rfl (hown2.alloc _) (slread_newA _ _ (t16_eq _ _ hla3 hlc3)) (by simp; omega) hlz3 ?_; intro v' W5 hown5 hb5 hg1 hg2; clear hg1 hg2)
              have hb5' : Below BB W3 W5 := (hx.b.alloc hxs _).trans hb5
              have hT5 := hT3.later hb5' hgB
              clear hx hown2 hxs hlz3 hb5 hT3 HU htm hrb
              obtain ⟨d3, hd3⟩ : ∃ d3, d3 = d2 ++ l16 ad.length c.length := ⟨_, rfl⟩
              rw [← hd3] at hown5
              have hD3 : d3.length ≤ 420 := by rw [hd3, List.length_append]; simp [l16]; omega
              have HD3 : Hid (d3 = tagData ad c) := Lib.hid (by rw [hd3, HD2.out, l16_eq _ _ hla3 hlc3]; unfold tagData; rw [List.append_assoc])
              clear hd3 HD2
              obtain ⟨Am, cm, rfl, hcm⟩ := ownsRow_form hown5
              have hSm := SlRead.of_own hown5
              have hcm2 : d3.length ≤ cm := by rcases Nat.eq_zero_or_pos d3.length with h | h; omega; exact hcm h
              clear hown5 hcm
              have hk := rowIs_heap8 hT5.o
              have hB5 : B ≤ W5.heap.size := by rw [← HB.out]; exact hT5.h.b.size
              go_upto_region 21 with (first | (refine wpList_load_row rfl 23 _ rfl _ rfl _ _ _ _ hk Tryd.underlying23 rfl (by kernel_rfl) ?_) | (go_at_call 19; refine (psum_any zk Am d3 cm W5 hSm hcm2 (by omega)).mono ?_; rintro e W6 ⟨rfl, hb6⟩) | (refine wpList_store_row rfl 46 _ _ rfl _ _ rfl rfl _ _ (heap_alloc_new _ _) (by kernel_rfl) (by simp) (arr8_one _ _) ?_; rw [alloc_setRow]))
              obtain ⟨tg, htg⟩ : ∃ tg, tg = polyB zk d3 := ⟨_, rfl⟩
              rw [← htg]
              have HTG := Lib.hid htg
              clear htg
              have hR6 := hT5.h.next hb6
              have hc6 := hT5.c.below hb6
              have hal : ∀ o, Below W6.heap.size W6 (W6.alloc o) := fun o => (Below.refl _ _).alloc (Nat.le_refl _) _
              refine wp_world (fun W => HdA w B key non W ∧ SlRead W (some ⟨O, 0, none⟩) (ints .u8 (bys c)) ∧ SlRead W (some ⟨W6.heap.size, 0, none⟩) (ints .u8 (bys (lst 16 tg)))) ⟨hR6.next (hal _), hc6.below (hal _), slread_row (t := 46) (rowIs_new _ _ _ _ _ _ rfl (by simp) (fun i hi => arr8_get 16 _ i hi))⟩ ?_
              generalize W6.heap.size = GT
              clear hR6 hc6 hal hk hT5 hSm hcm2 hb6 hb5' hB5 W6
              rintro Wt ⟨hRt, hct, hTt⟩
              have hXt : SlRead Wt X (ints .u8 (bys b)) := hX.below (by rw [HB.out]; exact hRt.b)
              have hAt : SlRead Wt A (ints .u8 (bys ad)) := hA.below (by rw [HB.out]; exact hRt.b)
              have HS : ∀ w', Below Wt.heap.size Wt w' → Calls Tryd.prog 9 #[.agg (arr8 32 key), .agg (arr8 12 non), .slice A ad.length ca, .slice X c.length cx] w' fun e w'' => ∃ r, e = .returned r ∧ Below w'.heap.size w' w'' ∧ SlIsA (c ++ lst 16 tg) r w'' := fun w' hb => by
                have h0 := seal_any key non A X ad b ca cx w' (hAt.below hb) (hXt.below hb) hla hlx
                rw [← HCL.out] at h0
                refine h0.mono ?_
                rintro e w'' ⟨v, rfl, h⟩
                have e : sealB key non ad b = c ++ lst 16 tg := by
                  unfold sealB
                  rw [← HC.out, HTG.out, HD3.out, HZK.out]
                  rw [polyB_congr (k' := fun i => if i < 32 then ckB key 0#32 non i else 0#8) (fun i hi => by simp [hi])]
                rw [e] at h
                exact ⟨v, rfl, h.b, h.is⟩
              simp only [Act.put]
              refine wp_region_spec [Sp.k 0 (some 75) [] (.bool true),
                Sp.k 1 (some 76) [0] (.bool true),
                Sp.k 2 (some 77) [1] (.agg (arr8 32 key)),
                Sp.k 3 (some 78) [1] (.agg (arr8 12 non)),
                Sp.k 4 (some 79) [1] (.slice A ad.length ca),
                Sp.k 5 (some 80) [1] (.slice X c.length cx),
                Sp.o 6 (some 81) [1, 2, 3, 4, 5] (SlIsA ((c ++ lst 16 tg))),
                Sp.k 7 (some 82) [1] (.slice (some ⟨O, 0, none⟩) c.length c.length),
                Sp.k 8 (some 83) [1] (.slice (some ⟨GT, 0, none⟩) 16 16),
                Sp.o 9 (some 84) [1, 7, 8] (SlIsA ((c ++ lst 16 tg))),
                Sp.k 10 (some 85) [1, 6, 9] (.bool true),
                Sp.k 11 (some 86) [1, 10] (.bool true),
                Sp.k 12 (some 8) [11] (.bool true)] (by kernel_rfl) (by kernel_rfl)
                ⟨owes_move 0 (some 75) [] (.bool true) (Go.Operand.tmp 9) (fun v => by kernel_rfl) (fun v => by kernel_rfl),
                owes_move 1 (some 76) [0] (.bool true) (Go.Operand.tmp 75) (fun v => by kernel_rfl) (fun v => by kernel_rfl),
                owes_load 2 (some 77) [1] (.agg (arr8 32 key)) 23 (Go.Operand.tmp 4) (.pointer (some ⟨B, 0, none⟩)) (fun v => by kernel_rfl) (fun v => by kernel_rfl) (fun w' hb => key_load (hRt.next (drB hb)).k),
                owes_load 3 (some 78) [1] (.agg (arr8 12 non)) 24 (Go.Operand.tmp 5) (.pointer (some ⟨B + 1, 0, none⟩)) (fun v => by kernel_rfl) (fun v => by kernel_rfl) (fun w' hb => non_load (hRt.next (drB hb)).n),
                owes_move 4 (some 79) [1] (.slice A ad.length ca) (Go.Operand.tmp 2) (fun v => by kernel_rfl) (fun v => by kernel_rfl),
                owes_move 5 (some 80) [1] (.slice X c.length cx) (Go.Operand.tmp 3) (fun v => by kernel_rfl) (fun v => by kernel_rfl),
                owes_call_o 6 (some 81) [1, 2, 3, 4, 5] (SlIsA ((c ++ lst 16 tg))) 9 #[Go.Operand.tmp 77, Go.Operand.tmp 78, Go.Operand.tmp 79, Go.Operand.tmp 80] #[23, 24, 25, 25] (fun v => by kernel_rfl) (fun _ _ => by kernel_rfl) SlIsA.mono (fun v w' hb ho => by
                    exact ⟨#[.agg (arr8 32 key), .agg (arr8 12 non), .slice A ad.length ca, .slice X c.length cx], by kernel_rfl, (HS w' (drB hb)).mono (fun _ _ h => h)⟩),
                owes_move 7 (some 82) [1] (.slice (some ⟨O, 0, none⟩) c.length c.length) (Go.Operand.tmp 10) (fun v => by kernel_rfl) (fun v => by kernel_rfl),
                owes_slice 8 (some 83) [1] (.slice (some ⟨GT, 0, none⟩) 16 16) 46 (Go.Operand.tmp 15) none none none (.pointer (some ⟨GT, 0, none⟩)) none none none (fun v => by kernel_rfl) (fun v => by kernel_rfl) (fun w => hslT GT (by omega) w),
                owes_append 9 (some 84) [1, 7, 8] (SlIsA ((c ++ lst 16 tg))) (Go.Operand.tmp 82) (Go.Operand.tmp 83) 25 25 25 (fun v => by kernel_rfl) (by kernel_rfl) SlIsA.mono (fun v w' hb ho => by
                    obtain ⟨A9, c9, w9, h1, h2, h3, h4⟩ := run_app_fullA 25 w' O c (some ⟨GT, 0, none⟩) (lst 16 tg) 16 (hct.below (drB hb)) (hTt.below (drB hb)) (by rw [lst_length]; omega)
                    exact ⟨_, _, _, _, by kernel_rfl, by kernel_rfl, h1, h4, A9, c9, rfl, h2, h3⟩),
                owes_call 10 (some 85) [1, 6, 9] (.bool true) 10 #[Go.Operand.tmp 81, Go.Operand.tmp 84] #[25, 25] (fun v => by kernel_rfl) (fun _ _ => by kernel_rfl) (fun v w' hb ho => by
                    obtain ⟨A6, c6, e6, l6, r6⟩ := ho.get 6 _ _ (SlIsA ((c ++ lst 16 tg))) rfl rfl
                    obtain ⟨A9, c9, e9, l9, r9⟩ := ho.get 9 _ _ (SlIsA ((c ++ lst 16 tg))) rfl rfl
                    exact ⟨#[.slice A6 ((c ++ lst 16 tg)).length c6, .slice A9 ((c ++ lst 16 tg)).length c9], Eq.trans (b := #[v 6, v 9]) (by kernel_rfl) (by rw [e6, e9]), (quietB (same_true A6 A9 (c ++ lst 16 tg) c6 c9 w' r6 r9 (by rw [List.length_append, lst_length]; omega))).mono (fun _ _ h => h)⟩),
                owes_pick 11 (some 86) [1, 10] (.bool true) (Go.Operand.tmp 76) (Go.Operand.tmp 85) (Go.Operand.const (Go.Value.bool false)) true (fun v => by kernel_rfl) (fun v => by kernel_rfl) (fun v => by kernel_rfl),
                owes_assign 12 (some 8) [11] (.bool true) (Go.Operand.tmp 86) (fun v => by kernel_rfl) (fun v => by kernel_rfl), trivial⟩ ?_
              intro v w' hb' hall
              clear hall
              have hfin := (hRt.next (drB hb')).b
              clear hb' HS hXt hAt hRt hct hTt
              simp only [putsL_k, putsL_o, putsL_nil, List.set_cons_zero, List.set_cons_succ]
              go_wp2_with fail
              go_ret
              rw [HB.out]
              exact ⟨rfl, hfin⟩
end Go.Proofs.YtmmcabjpmcepaaaDoor
