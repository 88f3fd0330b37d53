import Derived.Test.YtpkajfkdandhoaaPye
/-
  The document's tag.
-/
namespace Go.Proofs.Ytpkajfkdandhoaa
open Go.RowKit

theorem n8_wrap32 (x : BitVec 8) : IntKind.u32.wrap (n8 x) = n64 x.toNat := by
  have := x.isLt
  rw [n8_64]
  unfold n64
  simp [IntKind.wrap, IntKind.signed, IntKind.bits]
  omega
theorem a32_15 (x : BitVec 8) : bits .and .u32 (n64 x.toNat) 15 = n64 (x &&& 15#8).toNat := by
  have := u32_and_nat x.toNat 15 (by have := x.isLt; omega) (by omega)
  rw [BitVec.toNat_and]
  exact this
theorem a32_252 (x : BitVec 8) : bits .and .u32 (n64 x.toNat) 252 = n64 (x &&& 252#8).toNat := by
  have := u32_and_nat x.toNat 252 (by have := x.isLt; omega) (by omega)
  rw [BitVec.toNat_and]
  exact this
theorem n64_shr7 (x : Nat) : n64 x / 128 = n64 (x / 128) := by unfold n64; omega
theorem d17_load {W : World} {b : Nat} {f : Nat → Nat} (h : L17 W b f) : (Instr.loadAt 46 (.pointer (some ⟨b, 0, none⟩))).run Try.prog W = .ok (.agg (arrN .u32 17 f)) W := by
  have := load_row (P := Try.prog) 46 b 0 (arrN .u32 17 f).toList _ Try.underlying46 rfl (by simp only [Array.length_toList, arrN_size]; kernel_rfl) W (rangeAt_rowN h)
  simpa using this
/-- sixteen bytes as seventeen digits -/
def rOf (g : Nat → BitVec 8) (t : Nat) : Nat := if t < 16 then (g t).toNat else 0
theorem num_add2 (f g : Nat → Nat) (n : Nat) : num (fun t => f t + g t) n = num f n + num g n := by
  unfold num
  rw [← sm_add]
  exact sm_congr n fun i _ => Nat.add_mul _ _ _
def minusF (t : Nat) : Nat := if t = 0 then 5 else if t = 16 then 252 else 0
theorem num_minus : num minusF 17 = 5 + 252 * 256 ^ 16 := by decide +kernel
theorem num_rOf (g : Nat → BitVec 8) : num (rOf g) 17 = numB g 16 := by
  have h16 : rOf g 16 = 0 := rfl
  rw [num_succ, h16, Nat.zero_mul, Nat.add_zero]
  exact num_congr 16 fun i hi => by unfold rOf; rw [if_pos hi]
theorem half2_zero (key : Nat → BitVec 8) (i : Nat) : half2 key 0 i = half1 key 4 i := by unfold half2; rw [if_neg (by omega)]
theorem tag_end (Y : Nat) (Hf : Nat → Nat) (hY : Y < 1361129467683753853853498429727072845824 + 1073741824) (h : (Y + 5 < 1361129467683753853853498429727072845824 ∧ ∀ t, t < 16 → Hf t = dg Y t) ∨ (1361129467683753853853498429727072845824 ≤ Y + 5 ∧ ∀ t, t < 16 → Hf t = dg (Y + 5 + 252 * 256 ^ 16) t)) : ∀ t, t < 16 → Hf t = dg (Y % p5) t := by
  intro t ht
  rcases h with ⟨h1, h2⟩ | ⟨h1, h2⟩
  · rw [h2 t ht, Nat.mod_eq_of_lt (by unfold p5; omega)]
  · rw [h2 t ht]
    have e : Y % p5 = Y - p5 := by
      rw [Nat.mod_eq_sub_mod (by unfold p5; omega), Nat.mod_eq_of_lt (by unfold p5; omega)]
    have e2 : Y + 5 + 252 * 256 ^ 16 = (Y - p5) + 1 * 256 ^ 17 := by unfold p5; simp only [Nat.reducePow]; omega
    rw [e, e2, dg_add _ _ _ _ (by omega)]
theorem top_digit (Y : Nat) (hY : Y < 1361129467683753853853498429727072845824 + 1073741824) : (dg (Y + 5 + 252 * 256 ^ 16) 16 / 128 = 0 ∧ 1361129467683753853853498429727072845824 ≤ Y + 5) ∨ (dg (Y + 5 + 252 * 256 ^ 16) 16 / 128 ≠ 0 ∧ Y + 5 < 1361129467683753853853498429727072845824) := by
  unfold dg
  simp only [Nat.reducePow]
  omega
theorem out_end (N : Nat) (key : Nat → BitVec 8) (Hf c : Nat → Nat) (h : ∀ t, t < 16 → Hf t = dg N t) (hc : ∀ t, t < 16 → c t = (key (16 + t)).toNat) : ∀ t, t < 16 → BitVec.ofNat 8 (dg (num (fun t => Hf t + c t) 17) t) = tagB N key t := by
  intro t ht
  unfold tagB
  rw [num_succ, dg_add _ _ _ _ ht, num_congr (f := fun t => Hf t + c t) (g := tagF N key) 16 (fun i hi => by rw [h i hi, hc i hi]; rfl)]
theorem prdN_lt (h r : Nat → Nat) (hh : ∀ i, i < 17 → h i < 256) (hr : ∀ i, i < 17 → r i < 256) : redu (prdN h r) < 1361129467683753853853498429727072845824 + 1073741824 := by
  have h1 := num_le (fun i => prd h r i 17) 353736000 17 (fun i hi => by have := prd_le h r hh hr i hi 17 (by omega); omega)
  change prdN h r / 256 ^ 17 ≤ _ at h1
  unfold redu
  simp only [Nat.reducePow] at h1
  omega
theorem rep_lt (Y t : Nat) (hY : Y < 1361129467683753853853498429727072845824 + 1073741824) : rep Y t < 256 := by
  unfold rep
  split
  · exact dg_lt _ _
  · omega

/-- the key's box, the result's cell, three rows of digits -/
structure DT (w : World) (B : Nat) (key : Nat → BitVec 8) (r h c : Nat → Nat) (W : World) : Prop where
  k : W.rowIs B 23 32 (fun i => v8 (key i))
  t : W.rowIs (B + 1) 26 16 (fun i => v8 ((fun _ => 0#8 : Nat → BitVec 8) i))
  r : L17 W (B + 1 + 1) r
  h : L17 W (B + 1 + 1 + 1) h
  c : L17 W (B + 1 + 1 + 1 + 1) c
  b : Below B w W
section
variable {w W W' : World} {B : Nat} {key : Nat → BitVec 8} {r h c r' h' c' : Nat → Nat}
theorem DT.next (x : DT w B key r h c W) (hb : Below W.heap.size W W') : DT w B key r h c W' :=
  ⟨x.k.of_block (hb.block _ x.k.lt), x.t.of_block (hb.block _ x.t.lt), x.r.of_block (hb.block _ x.r.lt), x.h.of_block (hb.block _ x.h.lt), x.c.of_block (hb.block _ x.c.lt), x.b.trans (hb.mono (Nat.le_of_lt x.k.lt))⟩
theorem DT.putR (x : DT w B key r h c W) (i y : Nat) (e : ∀ t, t < 17 → updN r i y t = r' t) : DT w B key r' h c (W.setCell ⟨B + 1 + 1, i, none⟩ (.int .u32 (n64 y))) :=
  ⟨x.k.setOther (a := ⟨B + 1 + 1, i, none⟩) (by simp only; omega) _, x.t.setOther (a := ⟨B + 1 + 1, i, none⟩) (by simp only; omega) _, (L17.put x.r i y).congr fun t ht => by rw [e t ht], x.h.setOther (a := ⟨B + 1 + 1, i, none⟩) (by simp only; omega) _, x.c.setOther (a := ⟨B + 1 + 1, i, none⟩) (by simp only; omega) _, x.b.setCell (by simp only; omega) _⟩
theorem DT.putC (x : DT w B key r h c W) (i y : Nat) (e : ∀ t, t < 17 → updN c i y t = c' t) : DT w B key r h c' (W.setCell ⟨B + 1 + 1 + 1 + 1, i, none⟩ (.int .u32 (n64 y))) :=
  ⟨x.k.setOther (a := ⟨B + 1 + 1 + 1 + 1, i, none⟩) (by simp only; omega) _, x.t.setOther (a := ⟨B + 1 + 1 + 1 + 1, i, none⟩) (by simp only; omega) _, x.r.setOther (a := ⟨B + 1 + 1 + 1 + 1, i, none⟩) (by simp only; omega) _, x.h.setOther (a := ⟨B + 1 + 1 + 1 + 1, i, none⟩) (by simp only; omega) _, (L17.put x.c i y).congr fun t ht => by rw [e t ht], x.b.setCell (by simp only; omega) _⟩
theorem DT.rowC (x : DT w B key r h c W) (c' : Nat → Nat) : DT w B key r h c' (W.setRow (B + 1 + 1 + 1 + 1) (arrN .u32 17 c')) := by
  obtain ⟨old, h1, _, _⟩ := x.c
  exact ⟨x.k.of_block (setRow_other _ _ _ _ (by omega)), x.t.of_block (setRow_other _ _ _ _ (by omega)), x.r.of_block (setRow_other _ _ _ _ (by omega)), x.h.of_block (setRow_other _ _ _ _ (by omega)), rowIs_arr (setRow_heap _ _ _ _ _ _ h1) (by simp) (fun i hi => arrN_get .u32 17 c' i hi), below_setRow x.b (by omega) _⟩
theorem DT.rowH (x : DT w B key r h c W) (h' : Nat → Nat) : DT w B key r h' c (W.setRow (B + 1 + 1 + 1) (arrN .u32 17 h')) := by
  obtain ⟨old, h1, _, _⟩ := x.h
  exact ⟨x.k.of_block (setRow_other _ _ _ _ (by omega)), x.t.of_block (setRow_other _ _ _ _ (by omega)), x.r.of_block (setRow_other _ _ _ _ (by omega)), rowIs_arr (setRow_heap _ _ _ _ _ _ h1) (by simp) (fun i hi => arrN_get .u32 17 h' i hi), x.c.of_block (setRow_other _ _ _ _ (by omega)), below_setRow x.b (by omega) _⟩
theorem DT.hc (x : DT w B key r h c W) (e : ∀ t, t < 17 → c t = c' t) : DT w B key r h c' W := ⟨x.k, x.t, x.r, x.h, x.c.congr fun t ht => by rw [e t ht], x.b⟩
/-- beside it two rows of digits more -/
structure DG (w : World) (B : Nat) (key : Nat → BitVec 8) (r h c : Nat → Nat) (D : Nat) (g m : Nat → Nat) (W : World) : Prop where
  d : DT w B key r h c W
  l : B + 1 + 1 + 1 + 1 < D
  g : L17 W D g
  m : L17 W (D + 1) m
theorem DT.sized (x : DT w B key r h c W) : B + 1 + 1 + 1 + 1 < W.heap.size := x.c.lt
end

set_option maxRecDepth 100000 in
set_option maxHeartbeats 6400000 in
theorem dtag_any (key : Nat → BitVec 8) (A : Option Addr) (bs : List (BitVec 8)) (cap : Nat) (w : World) (hS : SlRead w A (ints .u8 (bys bs))) (_hcap : bs.length ≤ cap) (hl : bs.length ≤ 140737488351232) :
    Calls Try.prog 10 #[.agg (arr8 32 key), .slice A bs.length cap] w fun e w' => e = .returned (.agg (arr8 16 (polyB key bs))) ∧ Below w.heap.size w w' := by
  have HP : Hid (polyB key bs = tagB (acc (keyR key) bs ((bs.length + 15) / 16)) key) := Lib.hid rfl
  go_enter Try.func10, Try.ntmps10
  go_upto_region 2 with (fail)
  refine wp_world (DT w w.heap.size key (rOf (fun _ => 0#8)) (rep 0) (fun _ => 0)) ?_ ?_
  · have hz : ∀ t, rep 0 t = 0 := fun t => by unfold rep dg; simp
    refine ⟨?_, ?_, ?_, ?_, ?_, ?_⟩
    · exact ((((rowIs_new _ _ _ _ _ _ (by simp) (by simp) (fun i hi => arr8_get 32 key i hi)).alloc _).alloc _).alloc _).alloc _
    · exact (((rowIs_new _ _ _ _ _ _ (by simp) (by rfl) zero16).alloc _).alloc _).alloc _
    · exact (((rowIs_new _ _ _ _ _ _ (by simp) (by rfl) zero17u).alloc _).alloc _).congr fun i _ => by simp [rOf, n64]
    · exact ((rowIs_new _ _ _ _ _ _ (by simp) (by rfl) zero17u).alloc _).congr fun i _ => by rw [hz]; rfl
    · exact (rowIs_new _ _ _ _ _ _ (by simp) (by rfl) zero17u).congr fun i _ => rfl
    · go_grown
  intro W0 hx
  generalize hB : w.heap.size = B at hx ⊢
  have HB := Lib.hid hB; clear hB
  go_wp2_with fail
  go_loopw [8] (fun i wr => ∃ k : Nat, k ≤ 16 ∧ i = .int .i64 k ∧ DT w B key (rOf (fun t => if t < k then key t else 0#8)) (rep 0) (fun _ => 0) wr) (fun i _ => 16 - (intOf i).toNat)
  case atStart => exact ⟨0, by omega, rfl, by simpa using hx⟩
  clear hx
  case round =>
    obtain ⟨k, hk, rfl, hx⟩ := hrel
    by_cases hlt : k < 16
    · have ck := hx.k.cell (i := k) (by omega)
      have cr := hx.r.cell (i := k) (by omega)
      have fr := hx.r.frozen k
      have e1 := n8_wrap32 (key k)
      have HX := Lib.hid (hx.putR k (key k).toNat (r' := rOf (fun t => if t < k + 1 then key t else 0#8)) (fun t ht => by
        unfold updN rOf
        dsimp only
        by_cases e : t = k
        · rw [if_pos e, if_pos (by omega), if_pos (by omega), e]
        · rw [if_neg e]
          by_cases e2 : t < k
          · rw [if_pos (by omega), if_pos e2, if_pos (by omega), if_pos (by omega)]
          · rw [if_neg e2, if_neg (show ¬ t < k + 1 by omega)]))
      clear hx
      go_wp2_with fail
      go_roundw
      case rel => exact ⟨k + 1, by omega, by go_num, HX.out⟩
      case measure => simp [intOf]; omega
    · have hk8 : k = 16 := by omega
      rw [hk8] at hx ⊢
      clear hk8 hlt hk
      have hx0 : DT w B key (rOf (half1 key 0)) (rep 0) (fun _ => 0) wr := ⟨hx.k, hx.t, hx.r.congr fun i _ => by unfold rOf half1; simp only [Nat.not_lt_zero, and_false, if_false]; by_cases e : i < 16 <;> simp [e], hx.h, hx.c, hx.b⟩
      clear hx
      go_wp2_with fail
      go_loopw [9] (fun i wr => ∃ k : Nat, k ≤ 4 ∧ i = .int .i64 ((4 * k + 3 : Nat) : Int) ∧ DT w B key (rOf (half1 key k)) (rep 0) (fun _ => 0) wr) (fun i _ => 20 - (intOf i).toNat)
      case atStart => exact ⟨0, by omega, rfl, hx0⟩
      clear hx0
      case round =>
        obtain ⟨k, hk, rfl, hx⟩ := hrel
        by_cases hlt : k < 4
        · have cr := hx.r.cell (i := 4 * k + 3) (by omega)
          have fr := hx.r.frozen (4 * k + 3)
          have e0 : rOf (half1 key k) (4 * k + 3) = (key (4 * k + 3)).toNat := by unfold rOf half1; rw [if_pos (by omega), if_neg (by omega)]
          have e1 := a32_15 (key (4 * k + 3))
          rw [e0] at cr
          have HX := Lib.hid (hx.putR (4 * k + 3) (key (4 * k + 3) &&& 15#8).toNat (r' := rOf (half1 key (k + 1))) (fun t ht => by
            unfold updN rOf half1
            by_cases e : t = 4 * k + 3
            · rw [if_pos e, if_pos (by omega), if_pos (by omega), e]
            · rw [if_neg e]
              by_cases e2 : t % 4 = 3 ∧ t / 4 < k
              · rw [if_pos e2, if_pos (show t % 4 = 3 ∧ t / 4 < k + 1 by omega)]
              · by_cases e3 : t < 16
                · rw [if_pos e3, if_pos e3, if_neg e2, if_neg (by omega)]
                · rw [if_neg e3, if_neg e3]))
          obtain ⟨p, hp⟩ : ∃ p, p = 4 * k + 3 := ⟨_, rfl⟩
          have hp16 : p < 16 := by omega
          rw [← hp] at cr fr e1 HX ⊢
          have HG : Hid ((p : Int) + 4 = ((4 * (k + 1) + 3 : Nat) : Int)) := Lib.hid (by omega)
          have HM : Hid (20 - (p + 4) < 20 - p) := Lib.hid (by omega)
          clear hx hp e0
          go_wp2_with fail
          go_roundw
          case rel => exact ⟨k + 1, by omega, by rw [HG.out], HX.out⟩
          case measure => have := HM.out; simp [intOf]; omega
        · have hk8 : k = 4 := by omega
          rw [hk8] at hx ⊢
          clear hk8 hlt hk
          have hx0 : DT w B key (rOf (half2 key 0)) (rep 0) (fun _ => 0) wr := ⟨hx.k, hx.t, hx.r.congr fun i _ => by unfold rOf; rw [half2_zero], hx.h, hx.c, hx.b⟩
          clear hx
          go_wp2_with fail
          go_loopw [10] (fun i wr => ∃ k : Nat, k ≤ 3 ∧ i = .int .i64 ((4 * k + 4 : Nat) : Int) ∧ DT w B key (rOf (half2 key k)) (rep 0) (fun _ => 0) wr) (fun i _ => 20 - (intOf i).toNat)
          case atStart => exact ⟨0, by omega, rfl, hx0⟩
          clear hx0
          case round =>
            obtain ⟨k, hk, rfl, hx⟩ := hrel
            by_cases hlt : k < 3
            · have cr := hx.r.cell (i := 4 * k + 4) (by omega)
              have fr := hx.r.frozen (4 * k + 4)
              have e0 : rOf (half2 key k) (4 * k + 4) = (half1 key 4 (4 * k + 4)).toNat := by unfold rOf half2; rw [if_pos (by omega), if_neg (by omega)]
              have e1 := a32_252 (half1 key 4 (4 * k + 4))
              rw [e0] at cr
              have HX := Lib.hid (hx.putR (4 * k + 4) (half1 key 4 (4 * k + 4) &&& 252#8).toNat (r' := rOf (half2 key (k + 1))) (fun t ht => by
                unfold updN rOf half2
                by_cases e : t = 4 * k + 4
                · rw [if_pos e, if_pos (by omega), if_pos (by omega), e]
                · rw [if_neg e]
                  by_cases e2 : t % 4 = 0 ∧ 0 < t ∧ t / 4 ≤ k
                  · rw [if_pos e2, if_pos (show t % 4 = 0 ∧ 0 < t ∧ t / 4 ≤ k + 1 by omega)]
                  · by_cases e3 : t < 16
                    · rw [if_pos e3, if_pos e3, if_neg e2, if_neg (by omega)]
                    · rw [if_neg e3, if_neg e3]))
              obtain ⟨p, hp⟩ : ∃ p, p = 4 * k + 4 := ⟨_, rfl⟩
              have hp16 : p < 16 := by omega
              rw [← hp] at cr fr e1 HX ⊢
              have HG : Hid ((p : Int) + 4 = ((4 * (k + 1) + 4 : Nat) : Int)) := Lib.hid (by omega)
              have HM : Hid (20 - (p + 4) < 20 - p) := Lib.hid (by omega)
              generalize half1 key 4 p = z at *
              clear hx hp e0
              go_wp2_with fail
              go_roundw
              case rel => exact ⟨k + 1, by omega, by rw [HG.out], HX.out⟩
              case measure => have := HM.out; simp [intOf]; omega
            · have hk8 : k = 3 := by omega
              rw [hk8] at hx ⊢
              clear hk8 hlt hk
              have hRn : num (rOf (half2 key 3)) 17 = keyR key := by
                rw [num_rOf]
                exact num_congr 16 fun i hi => by rw [half2_end key i hi]
              have hRl : ∀ i, i < 17 → rOf (half2 key 3) i < 256 := fun i _ => by
                unfold rOf
                split
                · exact (half2 key 3 i).isLt
                · omega
              obtain ⟨Rf, hRf⟩ : ∃ Rf, Rf = rOf (half2 key 3) := ⟨_, rfl⟩
              rw [← hRf] at hx hRn hRl
              have HRN := Lib.hid hRn; have HRL := Lib.hid hRl
              clear hRf hRn hRl
              go_wp2_with fail
              go_loopw [11] (fun i wr => ∃ k Y, 16 * k < bs.length + 16 ∧ i = .int .i64 ((16 * k : Nat) : Int) ∧ Y < 1361129467683753853853498429727072845824 + 1073741824 ∧ Y % p5 = acc (keyR key) bs k ∧ ∃ c, DT w B key Rf (rep Y) c wr) (fun i _ => bs.length + 16 - (intOf i).toNat)
              case atStart => exact ⟨0, 0, by omega, rfl, by omega, by simp [acc], _, hx⟩
              clear hx
              case round =>
                obtain ⟨k, Y, hk, rfl, hY, he, c, hx⟩ := hrel
                by_cases hlt : 16 * k < bs.length
                · have hkl : (blk bs k).length ≤ 16 := by unfold blk; simp; omega
                  obtain ⟨m, hm⟩ : ∃ m, m = (blk bs k).length := ⟨_, rfl⟩
                  have hm2 : m = min 16 (bs.length - 16 * k) := by rw [hm]; unfold blk; simp
                  obtain ⟨gb, o, rfl, hgl, hgc⟩ := hS (by simp [bys]; omega)
                  have HSR : Hid (∀ W', Below B w W' → ∀ j, j < m → W'.cell? ⟨gb, o + (16 * k + j), none⟩ = some (v8 ((blk bs k).getD j 0#8))) := Lib.hid fun W' hb j hj => by
                    rw [← HB.out] at hb
                    rw [show W'.cell? ⟨gb, o + (16 * k + j), none⟩ = w.cell? ⟨gb, o + (16 * k + j), none⟩ from hb.cell (p := ⟨gb, o + (16 * k + j), none⟩) hgl]
                    refine hgc (16 * k + j) _ ?_
                    rw [bys_ints, List.getElem?_map, List.getD_eq_getElem?_getD]
                    unfold blk
                    rw [List.getElem?_take_of_lt (by omega), List.getElem?_drop]
                    rw [List.getElem?_eq_getElem (by omega)]
                    rfl
                  have hR0 := keyR_lt key
                  have hYB : num (fun t => rep Y t + (blockG (blk bs k) t).toNat) 17 = Y + blockN (blk bs k) := by
                    rw [num_add2, num_rep]
                    rfl
                  have hBN := blockN_lt (blk bs k) hkl
                  have hZl : num (dg (Y + blockN (blk bs k))) 17 = Y + blockN (blk bs k) := by
                    rw [num_dg, Nat.mod_eq_of_lt]
                    simp only [Nat.reducePow]
                    omega
                  have hZ256 : ∀ i, i < 17 → dg (Y + blockN (blk bs k)) i < 256 := fun i _ => dg_lt _ _
                  have hYn := prdN_lt (dg (Y + blockN (blk bs k))) Rf hZ256 HRL.out
                  have hYm : redu (prdN (dg (Y + blockN (blk bs k))) Rf) % p5 = acc (keyR key) bs (k + 1) := by
                    rw [redu_mod, prd_mod, hZl, HRN.out]
                    show _ = (acc (keyR key) bs k + blockN (blk bs k)) * keyR key % p5
                    rw [← he, Nat.mul_mod, ← Nat.mod_add_mod Y p5 (blockN (blk bs k)), ← Nat.mul_mod]
                  have HPL : ∀ w', Calls Try.prog 21 #[.agg (arrN .u32 17 (rep Y)), .agg (arrN .u32 17 (fun t => (blockG (blk bs k) t).toNat))] w' fun e w'' => e = .returned (.agg (arrN .u32 17 (dg (Y + blockN (blk bs k))))) ∧ Below w'.heap.size w' w'' := fun w' => by
                    have := plus_any (rep Y) (fun t => (blockG (blk bs k) t).toNat) w' (fun i _ => by have := rep_lt Y i hY; omega) (fun i _ => by have := (blockG (blk bs k) i).isLt; omega)
                    rwa [hYB] at this
                  have HTI : ∀ w', Calls Try.prog 20 #[.agg (arrN .u32 17 (dg (Y + blockN (blk bs k)))), .agg (arrN .u32 17 Rf)] w' fun e w'' => e = .returned (.agg (arrN .u32 17 (rep (redu (prdN (dg (Y + blockN (blk bs k))) Rf))))) ∧ Below w'.heap.size w' w'' := fun w' => dtimes_any _ Rf w' hZ256 HRL.out
                  obtain ⟨Y2, hY2⟩ : ∃ Y2, Y2 = redu (prdN (dg (Y + blockN (blk bs k))) Rf) := ⟨_, rfl⟩
                  rw [← hY2] at hYn hYm HTI
                  obtain ⟨Zf, hZf⟩ : ∃ Zf, Zf = dg (Y + blockN (blk bs k)) := ⟨_, rfl⟩
                  rw [← hZf] at HPL HTI
                  have HYN := Lib.hid (And.intro hYn hYm)
                  obtain ⟨K, hK⟩ : ∃ K, K = blk bs k := ⟨_, rfl⟩
                  rw [← hK] at HSR HPL hm hkl
                  clear hYn hYm hY2 hZf hZ256 hZl hYB hBN hR0 hK hgc hgl
                  have HPL := Lib.hid HPL
                  have HTI := Lib.hid HTI
                  obtain ⟨oldc, hc1, hc2, _⟩ := hx.c
                  have HX0 := Lib.hid (hx.rowC (fun _ => 0))
                  obtain ⟨I, hI⟩ : ∃ I, I = 16 * k := ⟨_, rfl⟩
                  rw [← hI] at HSR hm2 hlt ⊢
                  have hIk : I ≤ 140737488351232 := by omega
                  have HM : Hid ((if ((bs.length : Int) - (I : Int)) < 16 then ((bs.length : Int) - (I : Int)) else 16) = (m : Int)) := Lib.hid (by split <;> omega)
                  have hmle : I + m ≤ bs.length := by omega
                  have hm16 : m ≤ 16 := by omega
                  have HI := Lib.hid hI
                  have HHM := Lib.hid hm
                  clear hx hI hm hm2
                  go_upto_region 18 with (first | (refine wpList_build rfl 46 _ rfl #[] (by kernel_rfl) (.agg (arrN .u32 17 (fun _ => 0))) (fun _ => by kernel_rfl) ?_) | (refine wpList_store_row rfl 46 _ _ rfl _ (arrN .u32 17 (fun _ => 0)) rfl rfl _ _ hc1 (by kernel_rfl) (by simpa using hc2) (arrN_one _ _ _) ?_))
                  refine wp_world (DT w B key Rf (rep Y) (fun _ => 0)) HX0.out ?_
                  intro W1 hx
                  clear HX0 hc1 hc2
                  have hmm := HM.out
                  go_upto_region 19 with (fail)
                  clear hmm HM
                  go_wp2_with fail
                  go_loopw [13] (fun i wr => ∃ j : Nat, j ≤ m ∧ i = .int .i64 j ∧ DT w B key Rf (rep Y) (fun t => if t < j then (K.getD t 0#8).toNat else 0) wr) (fun i _ => m - (intOf i).toNat)
                  case atStart => exact ⟨0, by omega, rfl, by simpa using hx⟩
                  clear hx
                  case round =>
                    obtain ⟨j, hj, rfl, hx⟩ := hrel
                    by_cases hlt2 : j < m
                    · have cs := HSR.out _ hx.b j hlt2
                      have cc := hx.c.cell (i := j) (by omega)
                      have fc := hx.c.frozen j
                      have e1 := n8_wrap32 (K.getD j 0#8)
                      have HX := Lib.hid (hx.putC j (K.getD j 0#8).toNat (c' := fun t => if t < j + 1 then (K.getD t 0#8).toNat else 0) (fun t _ => by
                        unfold updN
                        dsimp only
                        by_cases e : t = j
                        · rw [if_pos e, if_pos (by omega), e]
                        · rw [if_neg e]
                          by_cases e2 : t < j
                          · rw [if_pos e2, if_pos (by omega)]
                          · rw [if_neg e2, if_neg (by omega)]))
                      generalize K.getD j 0#8 = z at *
                      obtain ⟨q, hq⟩ : ∃ q, q = I + j := ⟨_, rfl⟩
                      rw [← hq] at cs
                      have hqI : (I : Int) + (j : Int) = (q : Int) := by omega
                      have hq1 : q < bs.length := by omega
                      have hj17 : j < 17 := by omega
                      clear hx hq hm16 hmle hlt hIk
                      go_wp2_with fail
                      go_roundw
                      case rel => exact ⟨j + 1, by omega, by go_num, HX.out⟩
                      case measure => simp [intOf]; omega
                    · have hk8 : j = m := by omega
                      rw [hk8] at hx ⊢
                      clear hk8 hlt2 hj
                      have cc := hx.c.cell (i := m) (by omega)
                      have fc := hx.c.frozen m
                      have HX1 := Lib.hid (hx.putC m 1 (c' := fun t => (blockG K t).toNat) (fun t _ => by
                        unfold updN blockG
                        dsimp only
                        rw [← HHM.out]
                        by_cases e : t = m
                        · rw [if_pos e, if_neg (by omega), if_pos e]; rfl
                        · rw [if_neg e]
                          by_cases e2 : t < m
                          · rw [if_pos e2, if_pos e2]
                          · rw [if_neg e2, if_neg e2, if_neg e]; rfl))
                      clear hx HSR
                      go_upto_region 24 with (fail)
                      have hx : DT w B key Rf (rep Y) (fun t => (blockG K t).toNat) (wr.setCell ⟨B + 1 + 1 + 1 + 1, m, none⟩ (.int .u32 1)) := HX1.out
                      generalize (wr.setCell ⟨B + 1 + 1 + 1 + 1, m, none⟩ (.int .u32 1)) = W2 at *
                      clear HX1 cc fc HHM
                      have HX : ∀ w', Below W2.drew.heap.size W2.drew w' → DT w B key Rf (rep Y) (fun t => (blockG K t).toNat) w' := fun w' hb => hx.next ((Below.drewNr (w := W2) 1).trans hb)
                      have HPL := HPL.out
                      have HTI := HTI.out
                      obtain ⟨Yf, hYf⟩ : ∃ Yf, Yf = rep Y := ⟨_, rfl⟩
                      obtain ⟨Bf, hBf⟩ : ∃ Bf, Bf = fun t => (blockG K t).toNat := ⟨_, rfl⟩
                      obtain ⟨Yn, hYn⟩ : ∃ Yn, Yn = rep Y2 := ⟨_, rfl⟩
                      rw [← hYf, ← hBf] at HX HPL
                      rw [← hYn] at HTI
                      have HYn := Lib.hid hYn
                      clear hYf hBf hYn hx
                      refine wp_region_spec_tail 5 [Sp.k 0 (some 77) [] (.agg (arrN .u32 17 (Yf))),
                        Sp.k 1 (some 78) [] (.agg (arrN .u32 17 (Bf))),
                        Sp.k 2 (some 79) [0, 1] (.agg (arrN .u32 17 (Zf))),
                        Sp.k 3 (some 80) [] (.agg (arrN .u32 17 (Rf))),
                        Sp.k 4 (some 81) [2, 3] (.agg (arrN .u32 17 (Yn)))] (by kernel_rfl) (by kernel_rfl)
                        ⟨owes_load 0 (some 77) [] (.agg (arrN .u32 17 (Yf))) 46 (Go.Operand.tmp 6) (.pointer (some ⟨B + 1 + 1 + 1, 0, none⟩)) (fun v => by kernel_rfl) (fun v => by kernel_rfl) (fun w' hb => d17_load (HX w' hb).h),
                        owes_load 1 (some 78) [] (.agg (arrN .u32 17 (Bf))) 46 (Go.Operand.tmp 7) (.pointer (some ⟨B + 1 + 1 + 1 + 1, 0, none⟩)) (fun v => by kernel_rfl) (fun v => by kernel_rfl) (fun w' hb => d17_load (HX w' hb).c),
                        owes_call 2 (some 79) [0, 1] (.agg (arrN .u32 17 (Zf))) 21 #[Go.Operand.tmp 77, Go.Operand.tmp 78] #[46, 46] (fun v => by kernel_rfl) (fun _ _ => by kernel_rfl) (fun v w' hb ho => by
                            exact ⟨#[.agg (arrN .u32 17 (Yf)), .agg (arrN .u32 17 (Bf))], by kernel_rfl, (HPL w').mono (fun _ _ h => h)⟩),
                        owes_load 3 (some 80) [] (.agg (arrN .u32 17 (Rf))) 46 (Go.Operand.tmp 5) (.pointer (some ⟨B + 1 + 1, 0, none⟩)) (fun v => by kernel_rfl) (fun v => by kernel_rfl) (fun w' hb => d17_load (HX w' hb).r),
                        owes_call 4 (some 81) [2, 3] (.agg (arrN .u32 17 (Yn))) 20 #[Go.Operand.tmp 79, Go.Operand.tmp 80] #[46, 46] (fun v => by kernel_rfl) (fun _ _ => by kernel_rfl) (fun v w' hb ho => by
                            exact ⟨#[.agg (arrN .u32 17 (Zf)), .agg (arrN .u32 17 (Rf))], by kernel_rfl, (HTI w').mono (fun _ _ h => h)⟩), trivial⟩ ?_
                      intro v w' hb' hall
                      have hx2 := HX w' hb'
                      clear hall HX HPL HTI hb'
                      obtain ⟨old, hr1, hr2, _⟩ := hx2.h
                      have HX2 := Lib.hid (hx2.rowH Yn); clear hx2
                      rw [HYn.out] at HX2
                      simp only [putsL_k, putsL_nil, List.set_cons_zero, List.set_cons_succ]
                      simp only [List.drop_succ_cons, List.drop_zero]
                      go_wp2_with (refine wpList_store_row rfl 46 _ _ rfl _ _ rfl rfl _ _ hr1 (by kernel_rfl) (by simpa using hr2) (arrN_one _ _ _) ?_)
                      go_roundw
                      case rel => exact ⟨k + 1, by have := HI.out; omega, by congr 1; have := HI.out; omega, Y2, HYN.out.1, HYN.out.2, _, by rw [HYn.out]; exact HX2.out⟩
                      case measure => have := HI.out; simp [intOf]; omega
                · have hkk : k = (bs.length + 15) / 16 := by omega
                  rw [← hkk] at HP
                  clear hkk hS
                  have HE := Lib.hid he
                  have hPL1 : ∀ w', Calls Try.prog 21 #[.agg (arrN .u32 17 (rep Y)), .agg (arrN .u32 17 minusF)] w' fun e w'' => e = .returned (.agg (arrN .u32 17 (dg (Y + 5 + 252 * 256 ^ 16)))) ∧ Below w'.heap.size w' w'' := fun w' => by
                    have := plus_any (rep Y) minusF w' (fun i _ => by have := rep_lt Y i hY; omega) (fun i _ => by unfold minusF; split; omega; split <;> omega)
                    rw [num_add2, num_rep, num_minus] at this
                    rwa [← Nat.add_assoc] at this
                  have HPL1 := Lib.hid hPL1
                  have HTOP := Lib.hid (top_digit Y hY)
                  have HEND := Lib.hid (fun Hf h => tag_end Y Hf hY h)
                  have HYL := Lib.hid (fun t => rep_lt Y t hY)
                  have HYR : Hid (∀ t, t < 16 → rep Y t = dg Y t) := Lib.hid fun t ht => by unfold rep; rw [if_pos ht]
                  obtain ⟨Yf, hYf⟩ : ∃ Yf, Yf = rep Y := ⟨_, rfl⟩
                  obtain ⟨Q, hQ⟩ : ∃ Q, Q = dg (Y + 5 + 252 * 256 ^ 16) := ⟨_, rfl⟩
                  have HQL : Hid (∀ t, Q t < 256) := Lib.hid fun t => by rw [hQ]; exact dg_lt _ _
                  have HQR := Lib.hid hQ
                  rw [← hYf] at HPL1 HYR HYL hx
                  rw [← hQ] at HPL1 HTOP
                  clear hPL1 hYf hQ he hY
                  have hh0 := rowIs_heapN hx.h
                  go_upto_region 26 with (first | (refine wpList_load_row rfl 46 _ rfl _ rfl _ _ _ _ hh0 Try.underlying46 rfl (by kernel_rfl) ?_) | (refine wpList_alloc_z rfl 46 rfl (Array.replicate 17 (.int .u32 0)) (fun _ => by kernel_rfl) ?_) | (refine wpList_store_row rfl 46 _ _ rfl _ (arrN .u32 17 Yf) rfl rfl _ _ (heap_alloc_new _ _) (by kernel_rfl) (by simp) (arrN_one _ _ _) ?_; rw [alloc_setRow]))
                  refine wp_world (fun V => DT w B key Rf Yf c V ∧ L17 V wr.heap.size Yf ∧ V.heap.size = wr.heap.size + 1) ?_ ?_
                  · refine ⟨hx.next ((Below.refl _ _).alloc (Nat.le_refl _) _), rowIs_new _ _ _ _ _ _ rfl (by simp) (fun i hi => arrN_get .u32 17 Yf i hi), by simp⟩
                  have hBD : B + 1 + 1 + 1 + 1 < wr.heap.size := hx.sized
                  clear hx hh0
                  generalize wr.heap.size = D at *
                  rintro W1 ⟨hx, hg, hsz⟩
                  go_upto_region 27 with (first | (refine wpList_build rfl 46 _ rfl #[(0, .int .u32 5)] (by kernel_rfl) (.agg (arrN .u32 17 (fun t => if t = 0 then 5 else 0))) (fun _ => by kernel_rfl) ?_) | (refine wpList_alloc_z rfl 46 rfl (Array.replicate 17 (.int .u32 0)) (fun _ => by kernel_rfl) ?_) | (refine wpList_store_row rfl 46 _ _ rfl _ (arrN .u32 17 (fun t => if t = 0 then 5 else 0)) rfl rfl _ _ (heap_alloc_new _ _) (by kernel_rfl) (by simp) (arrN_one _ _ _) ?_; rw [alloc_setRow]))
                  refine wp_world (fun V => DG w B key Rf Yf c D Yf (fun t => if t = 0 then 5 else 0) V) ?_ ?_
                  · refine ⟨hx.next ((Below.refl _ _).alloc (Nat.le_refl _) _), hBD, hg.alloc _, ?_⟩
                    exact rowIs_new _ _ _ _ _ _ hsz.symm (by simp) (fun i hi => arrN_get .u32 17 _ i hi)
                  rw [hsz]
                  clear hx hg hsz W1
                  intro W2 hx
                  have cm := hx.m.cell (i := 16) (by omega)
                  have fm := hx.m.frozen 16
                  have HX1 : Hid (DG w B key Rf Yf c D Yf minusF (W2.setCell ⟨D + 1, 16, none⟩ (.int .u32 252))) := Lib.hid ⟨⟨hx.d.k.setOther (a := ⟨D + 1, 16, none⟩) (by simp only; omega) _, hx.d.t.setOther (a := ⟨D + 1, 16, none⟩) (by simp only; omega) _, hx.d.r.setOther (a := ⟨D + 1, 16, none⟩) (by simp only; omega) _, hx.d.h.setOther (a := ⟨D + 1, 16, none⟩) (by simp only; omega) _, hx.d.c.setOther (a := ⟨D + 1, 16, none⟩) (by simp only; omega) _, hx.d.b.setCell (by simp only; omega) _⟩, hBD, hx.g.setOther (a := ⟨D + 1, 16, none⟩) (by simp only; omega) _, (L17.put hx.m 16 252).congr fun t ht => by
                    unfold updN minusF
                    by_cases e : t = 16
                    · rw [if_pos e, if_neg (by omega), if_pos e]
                    · rw [if_neg e, if_neg e]⟩
                  clear hx
                  go_upto_region 28 with (fail)
                  have hx := HX1.out
                  generalize (W2.setCell ⟨D + 1, 16, none⟩ (.int .u32 252)) = W3 at *
                  clear HX1 cm fm
                  have hh0 := rowIs_heapN hx.d.h
                  have hm0 := rowIs_heapN hx.m
                  go_wp2_with (first | (refine wpList_load_row rfl 46 _ rfl _ rfl _ _ _ _ hh0 Try.underlying46 rfl (by kernel_rfl) ?_) | (refine wpList_load_row rfl 46 _ rfl _ rfl _ _ _ _ hm0 Try.underlying46 rfl (by kernel_rfl) ?_))
                  refine (HPL1.out _).mono ?_
                  rintro e W4 ⟨rfl, hb4⟩
                  have hx4 := hx.d.next hb4
                  have hg4 := hx.g.of_block (hb4.block _ hx.g.lt)
                  obtain ⟨old, hr1, hr2, _⟩ := hx4.h
                  have HX5 := Lib.hid (And.intro (hx4.rowH Q) (hg4.of_block (setRow_other _ (B + 1 + 1 + 1) _ _ (by omega) : (W4.setRow (B + 1 + 1 + 1) (arrN .u32 17 Q)).heap[D]? = _)))
                  clear hx hb4 hx4 hg4 hh0 hm0 HPL1
                  go_upto_region 29 with (refine wpList_store_row rfl 46 _ _ rfl _ _ rfl rfl _ _ hr1 (by kernel_rfl) (by simpa using hr2) (arrN_one _ _ _) ?_)
                  have hx5 := HX5.out.1
                  have hg5 := HX5.out.2
                  generalize (W4.setRow (B + 1 + 1 + 1) (arrN .u32 17 Q)) = W5 at *
                  clear HX5 hr1 hr2
                  have ch := hx5.h.cell (i := 16) (by omega)
                  have hs7 := n64_shr7 (Q 16)
                  rcases HTOP.out with ⟨hz, hge⟩ | ⟨hz, hge⟩
                  · have hd : (n64 (Q 16 / 128) != 0) = false := by rw [hz]; rfl
                    have hfin := HEND.out Q (.inr ⟨hge, fun t _ => by rw [HQR.out]⟩)
                    rw [HE.out] at hfin
                    have HFIN := Lib.hid hfin
                    have HXX : Hid (DT w B key Rf Q c W5) := Lib.hid hx5
                    have HQL2 := HQL
                    clear hz hge hfin hx5 HTOP HEND HYL HYR HQL HQR HE hg5
                    go_upto_region 31 with (fail)
                    have hx := HXX.out
                    clear HXX ch hs7 hd
                    obtain ⟨W6, hW6⟩ : ∃ W6, W6 = W5 := ⟨_, rfl⟩
                    rw [← hW6] at hx ⊢
                    clear hW6
                    obtain ⟨Hf, hQ⟩ : ∃ Hf, Hf = Q := ⟨_, rfl⟩
                    rw [← hQ] at hx HQL2 HFIN
                    clear hQ
                    obtain ⟨oldc, hc1, hc2, _⟩ := hx.c
                    have HX0 := Lib.hid (hx.rowC (fun _ => 0))
                    clear hx
                    go_upto_region 32 with (first | (refine wpList_build rfl 46 _ rfl #[] (by kernel_rfl) (.agg (arrN .u32 17 (fun _ => 0))) (fun _ => by kernel_rfl) ?_) | (refine wpList_store_row rfl 46 _ _ rfl _ (arrN .u32 17 (fun _ => 0)) rfl rfl _ _ hc1 (by kernel_rfl) (by simpa using hc2) (arrN_one _ _ _) ?_))
                    have hx := HX0.out
                    generalize (W6.setRow (B + 1 + 1 + 1 + 1) (arrN .u32 17 (fun _ => 0))) = W7 at *
                    clear HX0 hc1 hc2
                    go_wp2_with fail
                    go_loopw [16] (fun i wr => ∃ j : Nat, j ≤ 16 ∧ i = .int .i64 j ∧ DT w B key Rf Hf (fun t => if t < j then (key (16 + t)).toNat else 0) wr) (fun i _ => 16 - (intOf i).toNat)
                    case atStart => exact ⟨0, by omega, rfl, by simpa using hx⟩
                    clear hx
                    case round =>
                      obtain ⟨j, hj, rfl, hx⟩ := hrel
                      by_cases hlt2 : j < 16
                      · have ck := hx.k.cell (i := 16 + j) (by omega)
                        have cc := hx.c.cell (i := j) (by omega)
                        have fc := hx.c.frozen j
                        have e1 := n8_wrap32 (key (16 + j))
                        have HX := Lib.hid (hx.putC j (key (16 + j)).toNat (c' := fun t => if t < j + 1 then (key (16 + t)).toNat else 0) (fun t _ => by
                          unfold updN
                          dsimp only
                          by_cases e : t = j
                          · rw [if_pos e, if_pos (by omega), e]
                          · rw [if_neg e]
                            by_cases e2 : t < j
                            · rw [if_pos e2, if_pos (by omega)]
                            · rw [if_neg e2, if_neg (by omega)]))
                        clear hx
                        go_wp2_with fail
                        go_roundw
                        case rel => exact ⟨j + 1, by omega, by go_num, HX.out⟩
                        case measure => simp [intOf]; omega
                      · have hk8 : j = 16 := by omega
                        rw [hk8] at hx ⊢
                        clear hk8 hlt2 hj
                        have HOUT := Lib.hid (out_end (acc (keyR key) bs k) key Hf (fun t => if t < 16 then (key (16 + t)).toNat else 0) HFIN.out (fun t ht => by simp [ht]))
                        obtain ⟨Cf, hCf⟩ : ∃ Cf : Nat → Nat, Cf = fun t => if t < 16 then (key (16 + t)).toNat else 0 := ⟨_, rfl⟩
                        have hCl : ∀ i, i < 17 → Cf i < 65536 := fun i _ => by
                          rw [hCf]
                          dsimp only
                          split
                          · have := (key (16 + i)).isLt; omega
                          · omega
                        have hPL2 : ∀ w', Calls Try.prog 21 #[.agg (arrN .u32 17 Hf), .agg (arrN .u32 17 Cf)] w' fun e w'' => e = .returned (.agg (arrN .u32 17 (dg (num (fun t => Hf t + Cf t) 17)))) ∧ Below w'.heap.size w' w'' := fun w' => plus_any Hf Cf w' (fun i _ => by have := HQL2.out i; omega) hCl
                        have HOUT2 : Hid (∀ t, t < 16 → BitVec.ofNat 8 (dg (num (fun t => Hf t + Cf t) 17) t) = polyB key bs t) := Lib.hid fun t ht => by
                          rw [HP.out, hCf]
                          exact HOUT.out t ht
                        rw [← hCf] at hx
                        obtain ⟨Gf, hGf⟩ : ∃ Gf, Gf = dg (num (fun t => Hf t + Cf t) 17) := ⟨_, rfl⟩
                        rw [← hGf] at hPL2 HOUT2
                        have HGL : Hid (∀ t, Gf t < 256) := Lib.hid fun t => by rw [hGf]; exact dg_lt _ _
                        have HPL2 := Lib.hid hPL2
                        clear hCf hCl hPL2 hGf HOUT
                        have hh0 := rowIs_heapN hx.h
                        have hc0 := rowIs_heapN hx.c
                        go_wp2_with (first | (refine wpList_load_row rfl 46 _ rfl _ rfl _ _ _ _ hh0 Try.underlying46 rfl (by kernel_rfl) ?_) | (refine wpList_load_row rfl 46 _ rfl _ rfl _ _ _ _ hc0 Try.underlying46 rfl (by kernel_rfl) ?_))
                        refine (HPL2.out _).mono ?_
                        rintro e W8 ⟨rfl, hb8⟩
                        have hx8 := hx.next hb8
                        obtain ⟨old, hr1, hr2, _⟩ := hx8.h
                        have HX9 := Lib.hid (hx8.rowH Gf)
                        clear hx hb8 hx8 hh0 hc0 HPL2
                        go_upto_region 37 with (refine wpList_store_row rfl 46 _ _ rfl _ _ rfl rfl _ _ hr1 (by kernel_rfl) (by simpa using hr2) (arrN_one _ _ _) ?_)
                        have hx := HX9.out
                        generalize (W8.setRow (B + 1 + 1 + 1) (arrN .u32 17 Gf)) = W9 at *
                        clear HX9 hr1 hr2
                        have hBE : B + 1 + 1 + 1 + 1 < W9.heap.size := hx.sized
                        go_upto_region 38 with (fail)
                        refine wp_world (fun V => DT w B key Rf Gf Cf V ∧ V.rowIs W9.heap.size 26 16 (fun i => v8 ((fun _ => 0#8 : Nat → BitVec 8) i))) ?_ ?_
                        · refine ⟨hx.next ((Below.refl _ _).alloc (Nat.le_refl _) _), rowIs_new _ _ _ _ _ _ rfl (by rfl) zero16⟩
                        clear hx
                        generalize W9.heap.size = E at *
                        rintro W10 ⟨hx, ho⟩
                        go_wp2_with fail
                        go_loopw [18] (fun i wr => ∃ j : Nat, j ≤ 16 ∧ i = .int .i64 j ∧ DT w B key Rf Gf Cf wr ∧ wr.rowIs E 26 16 (fun i => v8 (if i < j then polyB key bs i else 0#8))) (fun i _ => 16 - (intOf i).toNat)
                        case atStart => exact ⟨0, by omega, rfl, hx, by simpa using ho⟩
                        clear hx ho
                        case round =>
                          obtain ⟨j, hj, rfl, hx, ho⟩ := hrel
                          by_cases hlt2 : j < 16
                          · have cg := hx.h.cell (i := j) (by omega)
                            have co := ho.cell (i := j) hlt2
                            have fo := ho.frozen j
                            have e1 := wrap8 (Gf j)
                            have e2 := HOUT2.out j hlt2
                            rw [e2] at e1
                            have HX : Hid (DT w B key Rf Gf Cf (wr.setCell ⟨E, j, none⟩ (v8 (polyB key bs j)))) := Lib.hid ⟨hx.k.setOther (a := ⟨E, j, none⟩) (by simp only; omega) _, hx.t.setOther (a := ⟨E, j, none⟩) (by simp only; omega) _, hx.r.setOther (a := ⟨E, j, none⟩) (by simp only; omega) _, hx.h.setOther (a := ⟨E, j, none⟩) (by simp only; omega) _, hx.c.setOther (a := ⟨E, j, none⟩) (by simp only; omega) _, hx.b.setCell (by simp only; omega) _⟩
                            have HO : Hid ((wr.setCell ⟨E, j, none⟩ (v8 (polyB key bs j))).rowIs E 26 16 (fun i => v8 (if i < j + 1 then polyB key bs i else 0#8))) := Lib.hid ((ho.set j _).congr fun i _ => by
                              by_cases e : i = j
                              · rw [if_pos e, if_pos (by omega), e]
                              · rw [if_neg e]
                                by_cases e3 : i < j
                                · rw [if_pos e3, if_pos (by omega)]
                                · rw [if_neg e3, if_neg (by omega)])
                            clear hx ho e2
                            go_wp2_with fail
                            go_roundw
                            case rel => exact ⟨j + 1, by omega, by go_num, HX.out, HO.out⟩
                            case measure => simp [intOf]; omega
                          · have hk8 : j = 16 := by omega
                            rw [hk8] at ho ⊢
                            clear hk8 hlt2 hj
                            have ho2 : wr.rowIs E 26 16 (fun i => v8 (polyB key bs i)) := ho.congr fun i hi => by rw [if_pos hi]
                            have hh := rowIs_heap8 ho2
                            obtain ⟨out, hout⟩ : ∃ out, out = polyB key bs := ⟨_, rfl⟩
                            rw [← hout] at hh
                            have HO := Lib.hid hout
                            obtain ⟨old, hr1, hr2, _⟩ := hx.t
                            have hb := below_setRow (g := B + 1) hx.b (by omega) (arr8 16 out)
                            have hres : (wr.setRow (B + 1) (arr8 16 out)).heap[B + 1]? = some (.cells (arr8 16 out) 26 (0, 0)) := setRow_heap _ _ _ _ _ _ hr1
                            clear hx ho ho2 hout
                            go_wp2_with (first | (refine wpList_load_row rfl 26 _ rfl _ rfl _ _ _ _ hh Try.underlying26 rfl (by kernel_rfl) ?_) | (refine wpList_store_row rfl 26 _ _ rfl _ _ rfl rfl _ _ hr1 (by kernel_rfl) (by simpa using hr2) (arr8_one _ _) ?_))
                            refine bodyPost_ret (results_cell_row rfl _ _ _ _ _ _ _ rfl hres Try.underlying26 rfl (by kernel_rfl)) rfl ?_
                            rw [HB.out, ← HO.out]
                            exact ⟨rfl, hb⟩
                  · have hd := n64_ne _ hz
                    have hfin := HEND.out Yf (.inl ⟨hge, HYR.out⟩)
                    rw [HE.out] at hfin
                    have HFIN := Lib.hid hfin
                    have hg0 := rowIs_heapN hg5
                    obtain ⟨old, hr1, hr2, _⟩ := hx5.h
                    have HXX : Hid (DT w B key Rf Yf c (W5.setRow (B + 1 + 1 + 1) (arrN .u32 17 Yf))) := Lib.hid (hx5.rowH Yf)
                    have HQL2 : Hid (∀ t, Yf t < 256) := HYL
                    clear hz hge hfin hx5 HTOP HEND HYL HYR HQL HQR HE hg5
                    go_upto_region 31 with (first | (refine wpList_load_row rfl 46 _ rfl _ rfl _ _ _ _ hg0 Try.underlying46 rfl (by kernel_rfl) ?_) | (refine wpList_store_row rfl 46 _ _ rfl _ _ rfl rfl _ _ hr1 (by kernel_rfl) (by simpa using hr2) (arrN_one _ _ _) ?_))
                    have hx := HXX.out
                    generalize (W5.setRow (B + 1 + 1 + 1) (arrN .u32 17 Yf)) = W6 at *
                    clear HXX ch hs7 hd hg0 hr1 hr2
                    obtain ⟨Hf, hQ⟩ : ∃ Hf, Hf = Yf := ⟨_, rfl⟩
                    rw [← hQ] at hx HQL2 HFIN
                    clear hQ
                    obtain ⟨oldc, hc1, hc2, _⟩ := hx.c
                    have HX0 := Lib.hid (hx.rowC (fun _ => 0))
                    clear hx
                    go_upto_region 32 with (first | (refine wpList_build rfl 46 _ rfl #[] (by kernel_rfl) (.agg (arrN .u32 17 (fun _ => 0))) (fun _ => by kernel_rfl) ?_) | (refine wpList_store_row rfl 46 _ _ rfl _ (arrN .u32 17 (fun _ => 0)) rfl rfl _ _ hc1 (by kernel_rfl) (by simpa using hc2) (arrN_one _ _ _) ?_))
                    have hx := HX0.out
                    generalize (W6.setRow (B + 1 + 1 + 1 + 1) (arrN .u32 17 (fun _ => 0))) = W7 at *
                    clear HX0 hc1 hc2
                    go_wp2_with fail
                    go_loopw [16] (fun i wr => ∃ j : Nat, j ≤ 16 ∧ i = .int .i64 j ∧ DT w B key Rf Hf (fun t => if t < j then (key (16 + t)).toNat else 0) wr) (fun i _ => 16 - (intOf i).toNat)
                    case atStart => exact ⟨0, by omega, rfl, by simpa using hx⟩
                    clear hx
                    case round =>
                      obtain ⟨j, hj, rfl, hx⟩ := hrel
                      by_cases hlt2 : j < 16
                      · have ck := hx.k.cell (i := 16 + j) (by omega)
                        have cc := hx.c.cell (i := j) (by omega)
                        have fc := hx.c.frozen j
                        have e1 := n8_wrap32 (key (16 + j))
                        have HX := Lib.hid (hx.putC j (key (16 + j)).toNat (c' := fun t => if t < j + 1 then (key (16 + t)).toNat else 0) (fun t _ => by
                          unfold updN
                          dsimp only
                          by_cases e : t = j
                          · rw [if_pos e, if_pos (by omega), e]
                          · rw [if_neg e]
                            by_cases e2 : t < j
                            · rw [if_pos e2, if_pos (by omega)]
                            · rw [if_neg e2, if_neg (by omega)]))
                        clear hx
                        go_wp2_with fail
                        go_roundw
                        case rel => exact ⟨j + 1, by omega, by go_num, HX.out⟩
                        case measure => simp [intOf]; omega
                      · have hk8 : j = 16 := by omega
                        rw [hk8] at hx ⊢
                        clear hk8 hlt2 hj
                        have HOUT := Lib.hid (out_end (acc (keyR key) bs k) key Hf (fun t => if t < 16 then (key (16 + t)).toNat else 0) HFIN.out (fun t ht => by simp [ht]))
                        obtain ⟨Cf, hCf⟩ : ∃ Cf : Nat → Nat, Cf = fun t => if t < 16 then (key (16 + t)).toNat else 0 := ⟨_, rfl⟩
                        have hCl : ∀ i, i < 17 → Cf i < 65536 := fun i _ => by
                          rw [hCf]
                          dsimp only
                          split
                          · have := (key (16 + i)).isLt; omega
                          · omega
                        have hPL2 : ∀ w', Calls Try.prog 21 #[.agg (arrN .u32 17 Hf), .agg (arrN .u32 17 Cf)] w' fun e w'' => e = .returned (.agg (arrN .u32 17 (dg (num (fun t => Hf t + Cf t) 17)))) ∧ Below w'.heap.size w' w'' := fun w' => plus_any Hf Cf w' (fun i _ => by have := HQL2.out i; omega) hCl
                        have HOUT2 : Hid (∀ t, t < 16 → BitVec.ofNat 8 (dg (num (fun t => Hf t + Cf t) 17) t) = polyB key bs t) := Lib.hid fun t ht => by
                          rw [HP.out, hCf]
                          exact HOUT.out t ht
                        rw [← hCf] at hx
                        obtain ⟨Gf, hGf⟩ : ∃ Gf, Gf = dg (num (fun t => Hf t + Cf t) 17) := ⟨_, rfl⟩
                        rw [← hGf] at hPL2 HOUT2
                        have HGL : Hid (∀ t, Gf t < 256) := Lib.hid fun t => by rw [hGf]; exact dg_lt _ _
                        have HPL2 := Lib.hid hPL2
                        clear hCf hCl hPL2 hGf HOUT
                        have hh0 := rowIs_heapN hx.h
                        have hc0 := rowIs_heapN hx.c
                        go_wp2_with (first | (refine wpList_load_row rfl 46 _ rfl _ rfl _ _ _ _ hh0 Try.underlying46 rfl (by kernel_rfl) ?_) | (refine wpList_load_row rfl 46 _ rfl _ rfl _ _ _ _ hc0 Try.underlying46 rfl (by kernel_rfl) ?_))
                        refine (HPL2.out _).mono ?_
                        rintro e W8 ⟨rfl, hb8⟩
                        have hx8 := hx.next hb8
                        obtain ⟨old, hr1, hr2, _⟩ := hx8.h
                        have HX9 := Lib.hid (hx8.rowH Gf)
                        clear hx hb8 hx8 hh0 hc0 HPL2
                        go_upto_region 37 with (refine wpList_store_row rfl 46 _ _ rfl _ _ rfl rfl _ _ hr1 (by kernel_rfl) (by simpa using hr2) (arrN_one _ _ _) ?_)
                        have hx := HX9.out
                        generalize (W8.setRow (B + 1 + 1 + 1) (arrN .u32 17 Gf)) = W9 at *
                        clear HX9 hr1 hr2
                        have hBE : B + 1 + 1 + 1 + 1 < W9.heap.size := hx.sized
                        go_upto_region 38 with (fail)
                        refine wp_world (fun V => DT w B key Rf Gf Cf V ∧ V.rowIs W9.heap.size 26 16 (fun i => v8 ((fun _ => 0#8 : Nat → BitVec 8) i))) ?_ ?_
                        · refine ⟨hx.next ((Below.refl _ _).alloc (Nat.le_refl _) _), rowIs_new _ _ _ _ _ _ rfl (by rfl) zero16⟩
                        clear hx
                        generalize W9.heap.size = E at *
                        rintro W10 ⟨hx, ho⟩
                        go_wp2_with fail
                        go_loopw [18] (fun i wr => ∃ j : Nat, j ≤ 16 ∧ i = .int .i64 j ∧ DT w B key Rf Gf Cf wr ∧ wr.rowIs E 26 16 (fun i => v8 (if i < j then polyB key bs i else 0#8))) (fun i _ => 16 - (intOf i).toNat)
                        case atStart => exact ⟨0, by omega, rfl, hx, by simpa using ho⟩
                        clear hx ho
                        case round =>
                          obtain ⟨j, hj, rfl, hx, ho⟩ := hrel
                          by_cases hlt2 : j < 16
                          · have cg := hx.h.cell (i := j) (by omega)
                            have co := ho.cell (i := j) hlt2
                            have fo := ho.frozen j
                            have e1 := wrap8 (Gf j)
                            have e2 := HOUT2.out j hlt2
                            rw [e2] at e1
                            have HX : Hid (DT w B key Rf Gf Cf (wr.setCell ⟨E, j, none⟩ (v8 (polyB key bs j)))) := Lib.hid ⟨hx.k.setOther (a := ⟨E, j, none⟩) (by simp only; omega) _, hx.t.setOther (a := ⟨E, j, none⟩) (by simp only; omega) _, hx.r.setOther (a := ⟨E, j, none⟩) (by simp only; omega) _, hx.h.setOther (a := ⟨E, j, none⟩) (by simp only; omega) _, hx.c.setOther (a := ⟨E, j, none⟩) (by simp only; omega) _, hx.b.setCell (by simp only; omega) _⟩
                            have HO : Hid ((wr.setCell ⟨E, j, none⟩ (v8 (polyB key bs j))).rowIs E 26 16 (fun i => v8 (if i < j + 1 then polyB key bs i else 0#8))) := Lib.hid ((ho.set j _).congr fun i _ => by
                              by_cases e : i = j
                              · rw [if_pos e, if_pos (by omega), e]
                              · rw [if_neg e]
                                by_cases e3 : i < j
                                · rw [if_pos e3, if_pos (by omega)]
                                · rw [if_neg e3, if_neg (by omega)])
                            clear hx ho e2
                            go_wp2_with fail
                            go_roundw
                            case rel => exact ⟨j + 1, by omega, by go_num, HX.out, HO.out⟩
                            case measure => simp [intOf]; omega
                          · have hk8 : j = 16 := by omega
                            rw [hk8] at ho ⊢
                            clear hk8 hlt2 hj
                            have ho2 : wr.rowIs E 26 16 (fun i => v8 (polyB key bs i)) := ho.congr fun i hi => by rw [if_pos hi]
                            have hh := rowIs_heap8 ho2
                            obtain ⟨out, hout⟩ : ∃ out, out = polyB key bs := ⟨_, rfl⟩
                            rw [← hout] at hh
                            have HO := Lib.hid hout
                            obtain ⟨old, hr1, hr2, _⟩ := hx.t
                            have hb := below_setRow (g := B + 1) hx.b (by omega) (arr8 16 out)
                            have hres : (wr.setRow (B + 1) (arr8 16 out)).heap[B + 1]? = some (.cells (arr8 16 out) 26 (0, 0)) := setRow_heap _ _ _ _ _ _ hr1
                            clear hx ho ho2 hout
                            go_wp2_with (first | (refine wpList_load_row rfl 26 _ rfl _ rfl _ _ _ _ hh Try.underlying26 rfl (by kernel_rfl) ?_) | (refine wpList_store_row rfl 26 _ _ rfl _ _ rfl rfl _ _ hr1 (by kernel_rfl) (by simpa using hr2) (arr8_one _ _) ?_))
                            refine bodyPost_ret (results_cell_row rfl _ _ _ _ _ _ _ rfl hres Try.underlying26 rfl (by kernel_rfl)) rfl ?_
                            rw [HB.out, ← HO.out]
                            exact ⟨rfl, hb⟩
end Go.Proofs.Ytpkajfkdandhoaa
