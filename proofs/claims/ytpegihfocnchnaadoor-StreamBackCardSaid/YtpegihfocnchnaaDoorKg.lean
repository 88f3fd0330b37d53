import Derived.Test.YtpegihfocnchnaaDoorKf
namespace Go.Proofs.YtpegihfocnchnaaDoor
open Go.RowKit

set_option maxHeartbeats 800000 in
theorem rword_any (b o n c : Nat) (x y z u : BitVec 8) (w : World) (hn : 4 ≤ n) (hb : n ≤ 100)
    (c0 : w.cell? ⟨b, o, none⟩ = some (v8 x)) (c1 : w.cell? ⟨b, o + 1, none⟩ = some (v8 y)) (c2 : w.cell? ⟨b, o + 2, none⟩ = some (v8 z)) (c3 : w.cell? ⟨b, o + 3, none⟩ = some (v8 u)) :
    Quiets Tryd.prog 57 #[.slice (some ⟨b, o, none⟩) n c] w (v32 (word x y z u)) := by
  unfold Quiets
  have b0 := n8_hi x
  have b1 := n8_hi y
  have b2 := n8_hi z
  have b3 := n8_hi u
  have l0 := n8_lo x
  have l1 := n8_lo y
  have l2 := n8_lo z
  have l3 := n8_lo u
  have s1 := n8_shl8 y
  have s2 := n8_shl16 z
  have s3 := n8_shl24 u
  have hor := n32_or
  go_enter Tryd.func57, Tryd.ntmps57
  go_wp2
  go_quiet (fail)
  go_wp2
  go_ret
  exact ⟨rfl, _, rfl⟩

theorem Only.setRow {g : Nat} {w w' : World} (h : Only g w w') (cs : Array Value) : Only g w (w'.setRow g cs) := by
  refine h.trans ?_
  unfold World.setRow
  exact ⟨rfl, rfl, rfl, by simp, fun k _ hk => by simp [Array.getElem?_modify, Ne.symm hk]⟩

theorem rquarter_int (i j k l : Int) (s : Nat → BitVec 32) (w : World) (hi : 0 ≤ i ∧ i < 16) (hj : 0 ≤ j ∧ j < 16) (hk : 0 ≤ k ∧ k < 16) (hl : 0 ≤ l ∧ l < 16)
   (hij : i ≠ j) (hik : i ≠ k) (hil : i ≠ l) (hjk : j ≠ k) (hjl : j ≠ l) (hkl : k ≠ l) :
  Calls Tryd.prog 58 #[.agg (arr32 16 s), .int .i64 i, .int .i64 j, .int .i64 k, .int .i64 l] w fun e w' => e = .returned (.agg (arr32 16 (qs s i.toNat j.toNat k.toNat l.toNat))) ∧ Below w.heap.size w w' := by
  have e1 : i = (i.toNat : Int) := by omega
  have e2 : j = (j.toNat : Int) := by omega
  have e3 : k = (k.toNat : Int) := by omega
  have e4 : l = (l.toNat : Int) := by omega
  have := rquarter_nat i.toNat j.toNat k.toNat l.toNat s w (by omega) (by omega) (by omega) (by omega) (by omega) (by omega) (by omega) (by omega) (by omega) (by omega)
  rwa [← e1, ← e2, ← e3, ← e4] at this

theorem word_put {w : World} {g : Nat} {s : Nat → BitVec 32} (h : St w g s) (t : Nat → BitVec 32) : St (w.setRow g (arr32 16 t)) g t :=
  rowIs_arr (setRow_heap _ _ _ _ _ _ (rowIs_heap32 h)) (by simp) (fun i hi => arr32_get 16 t i hi)

/-- the bytes written so far -/
def outR (z : Nat → BitVec 32) (k : Nat) : Nat → Value := fun i => if i < k then v8 (bytesOf z i) else .int .u8 0
theorem putB {w : World} {o : Nat} {z : Nat → BitVec 32} {k : Nat} (h : w.rowIs o 62 64 (outR z k)) :
    (w.setCell ⟨o, k, none⟩ (.int .u8 (byt (z (k / 4)) (k % 4)))).rowIs o 62 64 (outR z (k + 1)) := by
  refine (h.set k _).congr fun i hi => ?_
  unfold outR bytesOf byt
  by_cases e : i = k
  · subst e; simp
  · rw [if_neg e]
    by_cases hlt : i < k
    · rw [if_pos hlt, if_pos (by omega)]
    · rw [if_neg hlt, if_neg (by omega)]

set_option maxRecDepth 100000 in
set_option maxHeartbeats 800000 in
theorem rblock_any (key non : Nat → BitVec 8) (ct : BitVec 32) (w : World) :
    Calls Tryd.prog 44 #[.agg (arr8 32 key), v32 ct, .agg (arr8 12 non)] w fun e w' => e = .returned (.agg (arr8 64 (ckB key ct non))) ∧ Below w.heap.size w w' := by
  go_enter Tryd.func44, Tryd.ntmps44
  go_upto_region 2 with (fail)
  refine wp_world (fun W => BkAt w w.heap.size key non W ∧ St W (w.heap.size + 1 + 1 + 1) (keyTo key 0)) ?_ ?_
  · refine ⟨⟨?_, ?_, ?_, ?_⟩, ?_⟩
    · exact (((rowIs_new _ _ _ _ _ _ (by first | rfl | simp) (by first | rfl | simp) (fun i hi => arr8_get 32 key i hi)).alloc _).alloc _).alloc _
    · exact ((rowIs_new _ _ _ _ _ _ (by first | rfl | simp) (by first | rfl | simp) (fun i hi => arr8_get 12 non i hi)).alloc _).alloc _
    · exact (rowIs_new _ _ _ _ _ _ (by first | rfl | simp) (by rfl) (zero_row8 64)).alloc _
    · go_grown
    · exact rowIs_new _ _ _ _ _ _ (by first | rfl | simp) (by rfl) st0_row
  rintro W ⟨hb, hs⟩
  generalize hB : w.heap.size = B at hb hs ⊢
  have HB := Lib.hid hB; clear hB
  generalize hg : B + 1 + 1 + 1 = g at hs ⊢
  have hgB : B + 1 + 1 < g := by omega
  have HG := Lib.hid hg; clear hg
  go_wp2_with fail
  go_loopw [8] (fun i wr => ∃ k : Nat, k ≤ 8 ∧ i = .int .i64 k ∧ BkAt w B key non wr ∧ St wr g (keyTo key k)) (fun i _ => 8 - (intOf i).toNat)
  case atStart => exact ⟨0, by omega, rfl, hb, hs⟩
  clear hb hs
  case round =>
    obtain ⟨k, hk, rfl, hb, hs⟩ := hrel
    by_cases hlt : k < 8
    · have c0 := hb.k.cell (i := 4 * k) (by omega)
      have c1 := hb.k.cell (i := 4 * k + 1) (by omega)
      have c2 := hb.k.cell (i := 4 * k + 2) (by omega)
      have c3 := hb.k.cell (i := 4 * k + 3) (by omega)
      have cs := hs.cell (i := 4 + k) (by omega)
      have fs := hs.frozen (4 + k)
      have hsl := slice_arr_lh (P := Tryd.prog) Tryd.underlying23 (show (Tryd.prog.info? 5).map (·.size) = some 1 by kernel_rfl) B .i64 .i64 (4 * (k : Int)) (4 * (k : Int) + 4) (by omega) (by omega) (by omega) (by omega)
      rw [show (4 * (k : Int)).toNat = 4 * k by omega, show (4 * (k : Int) + 4).toNat = 4 * k + 4 by omega, show 4 * k + 4 - 4 * k = 4 by omega] at hsl
      go_wp2_with fail
      refine (rword_any B (4 * k) _ _ _ _ _ _ _ (by omega) (by omega) c0 c1 c2 c3).mono ?_
      rintro e w' ⟨rfl, m, rfl⟩
      have hO : Only g wr ((wr.drewN m).setCell ⟨g, 4 + k, none⟩ (v32 (word (key (4 * k)) (key (4 * k + 1)) (key (4 * k + 2)) (key (4 * k + 3))))) := (Only.drewN m).setCell _ _
      have hb2 := hb.only hO hgB
      have hs2 : St _ g (keyTo key (k + 1)) := St.put ((Only.drewN (g := wr.heap.size) m).row hs (Nat.ne_of_lt hs.lt)) (4 + k) (word (key (4 * k)) (key (4 * k + 1)) (key (4 * k + 2)) (key (4 * k + 3)))
      clear hO
      go_wp2_with fail
      go_roundw
      case rel => exact ⟨k + 1, by omega, by go_num, hb2, hs2⟩
      case measure => simp [intOf]; omega
    · have hdk : decide ((k : Int) < 8) = false := by simp; omega
      have hk8 : k = 8 := by omega
      rw [hk8] at hs
      clear hk8
      have c12 := hs.cell (i := 12) (by omega)
      have f12 := hs.frozen 12
      have hO : Only g wr (wr.setCell ⟨g, 12, none⟩ (v32 ct)) := (Only.refl _ _).setCell _ _
      have hb2 := hb.only hO hgB
      have hs2 := St.put hs 12 ct
      clear hs hb hO
      go_wp2_with fail
      generalize hS : updW (keyTo key 8) 12 ct = S at *
      go_loopw [9] (fun i wr' => ∃ k : Nat, k ≤ 3 ∧ i = .int .i64 k ∧ BkAt w B key non wr' ∧ St wr' g (nonTo S non k)) (fun i _ => 3 - (intOf i).toNat)
      case atStart => exact ⟨0, by omega, rfl, hb2, hs2⟩
      clear hb2 hs2
      case round =>
        obtain ⟨j, hj, rfl, hb, hs⟩ := hrel
        by_cases hlt2 : j < 3
        · have c0 := hb.n.cell (i := 4 * j) (by omega)
          have c1 := hb.n.cell (i := 4 * j + 1) (by omega)
          have c2 := hb.n.cell (i := 4 * j + 2) (by omega)
          have c3 := hb.n.cell (i := 4 * j + 3) (by omega)
          have cs := hs.cell (i := 13 + j) (by omega)
          have fs := hs.frozen (13 + j)
          have hsl := slice_arr_lh (P := Tryd.prog) Tryd.underlying48 (show (Tryd.prog.info? 5).map (·.size) = some 1 by kernel_rfl) (B + 1) .i64 .i64 (4 * (j : Int)) (4 * (j : Int) + 4) (by omega) (by omega) (by omega) (by omega)
          rw [show (4 * (j : Int)).toNat = 4 * j by omega, show (4 * (j : Int) + 4).toNat = 4 * j + 4 by omega, show 4 * j + 4 - 4 * j = 4 by omega] at hsl
          go_wp2_with fail
          refine (rword_any (B + 1) (4 * j) _ _ _ _ _ _ _ (by omega) (by omega) c0 c1 c2 c3).mono ?_
          rintro e w' ⟨rfl, m, rfl⟩
          have hO : Only g wr ((wr.drewN m).setCell ⟨g, 13 + j, none⟩ (v32 (word (non (4 * j)) (non (4 * j + 1)) (non (4 * j + 2)) (non (4 * j + 3))))) := (Only.drewN m).setCell _ _
          have hb2 := hb.only hO hgB
          have hs2 : St _ g (nonTo S non (j + 1)) := St.put ((Only.drewN (g := wr.heap.size) m).row hs (Nat.ne_of_lt hs.lt)) (13 + j) (word (non (4 * j)) (non (4 * j + 1)) (non (4 * j + 2)) (non (4 * j + 3)))
          clear hO
          go_wp2_with fail
          go_roundw
          case rel => exact ⟨j + 1, by omega, by go_num, hb2, hs2⟩
          case measure => simp [intOf]; omega
        · have hdj : decide ((j : Int) < 3) = false := by simp; omega
          have hj3 : j = 3 := by omega
          rw [hj3] at hs
          clear hj3
          have hfin : nonTo S non 3 = start key ct non := by rw [← hS]; rfl
          rw [hfin] at hs
          have HS := Lib.hid hS; clear hS hfin
          generalize hz : start key ct non = T at hs
          have HT := Lib.hid hz; clear hz
          have hh := rowIs_heap32 hs
          go_upto_region 12 with (first | (refine wpList_store_row rfl 75 _ _ rfl _ _ rfl rfl _ _ (heap_alloc_new _ _) (by kernel_rfl) (by simp) (arr32_one _ _) ?_; rw [alloc_setRow]) | (refine wpList_load_row rfl 75 _ rfl _ rfl _ _ _ _ hh Tryd.underlying75 rfl (by kernel_rfl) ?_))
          refine wp_world (fun W => BkAt w B key non W ∧ St W g T ∧ St W wr.heap.size T ∧ g < wr.heap.size) ⟨hb.alloc _, hs.alloc _, rowIs_new _ _ _ _ _ _ rfl (by simp) (fun i hi => arr32_get 16 T i hi), hs.lt⟩ ?_
          clear hb hs hh
          rintro W3 ⟨hb, hs, ht, hgh⟩
          generalize wr.heap.size = h at ht hgh ⊢
          go_wp2_with fail
          go_loopw [11] (fun i wr => ∃ m : Nat, m ≤ 10 ∧ i = .int .i64 m ∧ BkAt w B key non wr ∧ St wr g T ∧ St wr h (dbls T m)) (fun i _ => 10 - (intOf i).toNat)
          case atStart => exact ⟨0, by omega, rfl, hb, hs, ht⟩
          clear hb hs ht
          case round =>
            obtain ⟨m, hm, rfl, hb, hs, ht⟩ := hrel
            by_cases hlt3 : m < 10
            · have hdm : decide ((m : Int) < 10) = true := by simp; omega
              generalize hD : dbls T m = D at ht
              have HD := Lib.hid hD; clear hD
              go_wp2_with fail
              go_loopw [12] (fun i wr => ∃ c : Nat, c ≤ 4 ∧ i = .int .i64 c ∧ BkAt w B key non wr ∧ St wr g T ∧ St wr h (colTo D c)) (fun i _ => 4 - (intOf i).toNat)
              case atStart => exact ⟨0, by omega, rfl, hb, hs, ht⟩
              clear hb hs ht
              case round =>
                obtain ⟨c, hc, rfl, hb, hs, ht⟩ := hrel
                by_cases hlt4 : c < 4
                · have hh := rowIs_heap32 ht
                  go_wp2_with (refine wpList_load_row rfl 75 _ rfl _ rfl _ _ _ _ hh Tryd.underlying75 rfl (by kernel_rfl) ?_)
                  refine (rquarter_int ((c : Int)) (4 + (c : Int)) (8 + (c : Int)) (12 + (c : Int)) _ _ (by omega) (by omega) (by omega) (by omega) (by omega) (by omega) (by omega) (by omega) (by omega) (by omega)).mono ?_
                  rintro e w1 ⟨rfl, hbel⟩
                  rw [show ((c : Int)).toNat = c by omega, show (4 + (c : Int)).toNat = 4 + c by omega, show (8 + (c : Int)).toNat = 8 + c by omega, show (12 + (c : Int)).toNat = 12 + c by omega]
                  have hb1 := hb.below hbel
                  have hs1 : St w1 g T := hs.of_block (hbel.block _ hs.lt)
                  have ht1 : St w1 h (colTo D c) := ht.of_block (hbel.block _ ht.lt)
                  clear hb hs ht hbel hh
                  generalize hN : qs (colTo D c) (c) (4 + c) (8 + c) (12 + c) = N
                  have hN2 : N = colTo D (c + 1) := by rw [← hN]; rfl
                  clear hN
                  have hq1 := rowIs_heap32 ht1
                  have hO : Only h w1 (w1.setRow h (arr32 16 N)) := (Only.refl _ _).setRow _
                  have hb2 := hb1.only hO (by omega)
                  have hs2 : St _ g T := hO.row hs1 (by omega)
                  have ht2 := word_put ht1 N
                  rw [hN2] at ht2 hb2 hs2 ⊢
                  clear hO hb1 hs1 ht1 hN2
                  go_wp2_with (refine wpList_store_row rfl 75 _ _ rfl _ _ rfl rfl _ _ hq1 (by kernel_rfl) (by simp) (arr32_one _ _) ?_)
                  go_roundw
                  case rel => exact ⟨c + 1, by omega, by go_num, hb2, hs2, ht2⟩
                  case measure => simp [intOf]; omega
                · have hdc : decide ((c : Int) < 4) = false := by simp; omega
                  have h4 : c = 4 := by omega
                  rw [h4] at ht
                  clear h4
                  go_wp2_with fail
                  go_loopw [13] (fun i wr => ∃ c2 : Nat, c2 ≤ 4 ∧ i = .int .i64 c2 ∧ BkAt w B key non wr ∧ St wr g T ∧ St wr h (diaTo (colTo D 4) c2)) (fun i _ => 4 - (intOf i).toNat)
                  case atStart => exact ⟨0, by omega, rfl, hb, hs, ht⟩
                  clear hb hs ht
                  case round =>
                    obtain ⟨c2, hc2, rfl, hb, hs, ht⟩ := hrel
                    by_cases hlt4 : c2 < 4
                    · have hh := rowIs_heap32 ht
                      go_wp2_with (refine wpList_load_row rfl 75 _ rfl _ rfl _ _ _ _ hh Tryd.underlying75 rfl (by kernel_rfl) ?_)
                      refine (rquarter_int ((c2 : Int)) (4 + ((c2 : Int) + 1) % 4) (8 + ((c2 : Int) + 2) % 4) (12 + ((c2 : Int) + 3) % 4) _ _ (by omega) (by omega) (by omega) (by omega) (by omega) (by omega) (by omega) (by omega) (by omega) (by omega)).mono ?_
                      rintro e w1 ⟨rfl, hbel⟩
                      rw [show ((c2 : Int)).toNat = c2 by omega, show (4 + ((c2 : Int) + 1) % 4).toNat = 4 + (c2 + 1) % 4 by omega, show (8 + ((c2 : Int) + 2) % 4).toNat = 8 + (c2 + 2) % 4 by omega, show (12 + ((c2 : Int) + 3) % 4).toNat = 12 + (c2 + 3) % 4 by omega]
                      have hb1 := hb.below hbel
                      have hs1 : St w1 g T := hs.of_block (hbel.block _ hs.lt)
                      have ht1 : St w1 h (diaTo (colTo D 4) c2) := ht.of_block (hbel.block _ ht.lt)
                      clear hb hs ht hbel hh
                      generalize hN : qs (diaTo (colTo D 4) c2) (c2) (4 + (c2 + 1) % 4) (8 + (c2 + 2) % 4) (12 + (c2 + 3) % 4) = N
                      have hN2 : N = diaTo (colTo D 4) (c2 + 1) := by rw [← hN]; rfl
                      clear hN
                      have hq1 := rowIs_heap32 ht1
                      have hO : Only h w1 (w1.setRow h (arr32 16 N)) := (Only.refl _ _).setRow _
                      have hb2 := hb1.only hO (by omega)
                      have hs2 : St _ g T := hO.row hs1 (by omega)
                      have ht2 := word_put ht1 N
                      rw [hN2] at ht2 hb2 hs2 ⊢
                      clear hO hb1 hs1 ht1 hN2
                      go_wp2_with (refine wpList_store_row rfl 75 _ _ rfl _ _ rfl rfl _ _ hq1 (by kernel_rfl) (by simp) (arr32_one _ _) ?_)
                      go_roundw
                      case rel => exact ⟨c2 + 1, by omega, by go_num, hb2, hs2, ht2⟩
                      case measure => simp [intOf]; omega
                    · have hdc2 : decide ((c2 : Int) < 4) = false := by simp; omega
                      have h4 : c2 = 4 := by omega
                      rw [h4] at ht
                      clear h4
                      have ht2 : St wr h (dbls T (m + 1)) := by rw [← HD.out] at ht; exact ht
                      clear ht
                      go_wp2_with fail
                      go_roundw
                      case rel => exact ⟨m + 1, by omega, by go_num, hb, hs, ht2⟩
                      case measure => simp [intOf]; omega
            · have hdm : decide ((m : Int) < 10) = false := by simp; omega
              have h10 : m = 10 := by omega
              rw [h10] at ht
              clear h10
              have hh := rowIs_heap32 ht
              go_upto_region 24 with (fail)
              refine wp_world (fun W => BkAt w B key non W ∧ St W g T ∧ St W h (dbls T 10) ∧ W.rowIs wr.heap.size 62 64 (outR (mixed T) 0) ∧ h < wr.heap.size) ⟨hb.alloc _, hs.alloc _, ht.alloc _, rowIs_new _ _ _ _ _ _ rfl (by rfl) (fun i hi => by rw [show outR (mixed T) 0 i = .int .u8 0 by simp [outR]]; exact zero_row8 64 i hi), ht.lt⟩ ?_
              clear hb hs ht hh
              rintro W4 ⟨hb, hs, ht, ho, hho⟩
              generalize wr.heap.size = o at ho hho ⊢
              generalize hD : dbls T 10 = D at ht
              have HD := Lib.hid hD; clear hD
              go_wp2_with fail
              go_loopw [15] (fun i wr => ∃ b : Nat, b ≤ 64 ∧ i = .int .i64 b ∧ BkAt w B key non wr ∧ St wr g T ∧ St wr h D ∧ wr.rowIs o 62 64 (outR (mixed T) b)) (fun i _ => 64 - (intOf i).toNat)
              case atStart => exact ⟨0, by omega, rfl, hb, hs, ht, ho⟩
              clear hb hs ht ho
              case round =>
                obtain ⟨b, hbb, rfl, hb, hs, ht, ho⟩ := hrel
                by_cases hlt5 : b < 64
                · have hr : (b % 4 = 0 ∧ (b : Int).tmod 4 = 0 ∧ (b : Int) % 4 = 0) ∨ (b % 4 = 1 ∧ (b : Int).tmod 4 = 1 ∧ (b : Int) % 4 = 1) ∨ (b % 4 = 2 ∧ (b : Int).tmod 4 = 2 ∧ (b : Int) % 4 = 2) ∨ (b % 4 = 3 ∧ (b : Int).tmod 4 = 3 ∧ (b : Int) % 4 = 3) := by
                    rw [Int.tmod_eq_emod_of_nonneg (by omega)]; omega
                  have cd := ht.cell (i := b / 4) (by omega)
                  have cg := hs.cell (i := b / 4) (by omega)
                  have co := ho.cell hlt5
                  have fo := ho.frozen b
                  have hp := putB ho
                  have hm : mixed T (b / 4) = D (b / 4) + T (b / 4) := by rw [← HD.out]; rfl
                  rw [hm] at hp
                  have hO : Only o wr (wr.setCell ⟨o, b, none⟩ (.int .u8 (byt (D (b / 4) + T (b / 4)) (b % 4)))) := (Only.refl _ _).setCell _ _
                  have hb1 := hb.only hO (by omega)
                  have hs1 : St _ g T := hO.row hs (by omega)
                  have ht1 : St _ h D := hO.row ht (by omega)
                  clear hO hb hs ht ho hm
                  have hq : (b : Int).tdiv 4 = ((b / 4 : Nat) : Int) := by rw [Int.tdiv_eq_ediv_of_nonneg (by omega)]; omega
                  have hq2 : (b : Int) / 4 = ((b / 4 : Nat) : Int) := by omega
                  have hq3 : ((b / 4 : Nat) : Int) < 16 := by omega
                  generalize b / 4 = q at *
                  have hadd := n32_add (D q) (T q)
                  generalize D q + T q = X at *
                  have y0 := byt0 X
                  have y1 := byt1 X
                  have y2 := byt2 X
                  have y3 : n32 X / 16777216 = byt X 3 := by rw [← byt3]; have := n32_hi X; have := n32_lo X; exact (Int.emod_eq_of_lt (by omega) (by omega)).symm
                  rcases hr with ⟨hr, hm, hm2⟩ | ⟨hr, hm, hm2⟩ | ⟨hr, hm, hm2⟩ | ⟨hr, hm, hm2⟩
                  all_goals
                    rw [hr] at hp hb1 hs1 ht1
                    clear hr
                    go_wp2_with fail
                    go_region
                    go_wp2_with fail
                    go_roundw
                    case rel => exact ⟨b + 1, by omega, by go_num, ⟨hb1.k, hb1.n, hb1.r, hb1.b.drew⟩, hs1, ht1, hp⟩
                    case measure => simp [intOf]; omega
                · have h64 : b = 64 := by omega
                  rw [h64] at ho
                  clear h64
                  have ho64 : wr.rowIs o 62 64 (fun i => v8 (ckB key ct non i)) := ho.congr (g := fun i => v8 (ckB key ct non i)) (fun i hi => by unfold ckB; rw [HT.out]; simp [outR, hi])
                  have hho := rowIs_heap8 ho64
                  obtain ⟨old, hr1, hr2, _⟩ := hb.r
                  generalize hz : ckB key ct non = z at *
                  have HZ := Lib.hid hz; clear hz
                  have hbb := below_setRow (g := B + 1 + 1) hb.b (by omega) (arr8 64 z)
                  have hres : (wr.setRow (B + 1 + 1) (arr8 64 z)).heap[B + 1 + 1]? = some (.cells (arr8 64 z) 62 (0, 0)) := setRow_heap _ _ _ _ _ _ hr1
                  clear ho ho64 hs hb ht
                  go_wp2_with (first | (refine wpList_load_row rfl 62 _ rfl _ rfl _ _ _ _ hho Tryd.underlying62 rfl (by kernel_rfl) ?_) | (refine wpList_store_row rfl 62 _ _ rfl _ _ rfl rfl _ _ hr1 (by kernel_rfl) (by simpa using hr2) (arr8_one _ _) ?_))
                  refine bodyPost_ret (results_cell_row rfl _ _ _ _ _ _ _ rfl hres Tryd.underlying62 rfl (by kernel_rfl)) rfl ?_
                  rw [HZ.out, HB.out]
                  exact ⟨rfl, hbb⟩
end Go.Proofs.YtpegihfocnchnaaDoor
