import Derived.Test.YtpegihfocnchnaaDoorAed
/-
  courierref1: a sealed text's tag.
-/
namespace Go.Proofs.YtpegihfocnchnaaDoor
open Go.RowKit

set_option maxRecDepth 100000 in
set_option maxHeartbeats 3200000 in
theorem dtagged_any (key non : Nat → BitVec 8) (A X : Option Addr) (ad tx : List (BitVec 8)) (ca cx : Nat) (w : World) (hA : SlRead w A (ints .u8 (bys ad))) (hX : SlRead w X (ints .u8 (bys tx))) (hla : ad.length ≤ 1000) (hlx : tx.length ≤ 1000) :
    Calls Tryd.prog 36 #[.agg (arr8 32 key), .agg (arr8 12 non), .slice A ad.length ca, .slice X tx.length cx] w fun e w' => e = .returned (.agg (arr8 16 (polyB (ckB key 0#32 non) (tagData ad tx)))) ∧ Below w.heap.size w w' := by
  go_enter Tryd.func36, Tryd.ntmps36
  go_upto_region 1 with (fail)
  refine wp_world (fun W => W.rowIs w.heap.size 23 32 (fun i => v8 (key i)) ∧ W.rowIs (w.heap.size + 1) 48 12 (fun i => v8 (non i)) ∧ W.rowIs (w.heap.size + 2) 58 16 (fun i => v8 ((fun _ => 0#8 : Nat → BitVec 8) i)) ∧ Below w.heap.size w W) ?_ ?_
  · refine ⟨?_, ?_, ?_, ?_⟩
    · exact ((rowIs_new _ _ _ _ _ _ (by simp) (by simp) (fun i hi => arr8_get 32 key i hi)).alloc _).alloc _
    · exact (rowIs_new _ _ _ _ _ _ (by simp) (by simp) (fun i hi => arr8_get 12 non i hi)).alloc _
    · exact rowIs_new _ _ _ _ _ _ (by simp) (by rfl) zero16
    · go_grown
  rintro W0 ⟨h0, h1, h2, h3⟩
  generalize hB : w.heap.size = B at h0 h1 h2 h3 ⊢
  have HB := Lib.hid hB; clear hB
  have hk := rowIs_heap8 h0
  have hn := rowIs_heap8 h1
  go_upto_region 2 with (first | (refine wpList_load_row rfl 23 _ rfl _ rfl _ _ _ _ hk Tryd.underlying23 rfl (by kernel_rfl) ?_) | (refine wpList_load_row rfl 48 _ rfl _ rfl _ _ _ _ hn Tryd.underlying48 rfl (by kernel_rfl) ?_) | (go_at_call 44; refine (rblock_any key non 0#32 _).mono ?_; rintro e W1 ⟨rfl, hb1⟩) | (refine wpList_store_row rfl 62 _ _ rfl _ _ rfl rfl _ _ (heap_alloc_new _ _) (by kernel_rfl) (by simp) (arr8_one _ _) ?_; rw [alloc_setRow]))
  obtain ⟨z, hz⟩ : ∃ z, z = ckB key 0#32 non := ⟨_, rfl⟩
  rw [← hz]
  have HZ := Lib.hid hz; clear hz
  have hgB : B + 2 < W1.heap.size := Nat.lt_of_lt_of_le h2.lt hb1.size
  have hbB : Below B w W1 := h3.trans (hb1.mono (by rw [← HB.out]; exact h3.size))
  have h21 := h2.of_block (hb1.block _ h2.lt)
  refine wp_world (fun W => W.rowIs (B + 2) 58 16 (fun i => v8 ((fun _ => 0#8 : Nat → BitVec 8) i)) ∧ W.rowIs W1.heap.size 62 64 (fun i => v8 (z i)) ∧ Below B w W ∧ W.heap.size = W1.heap.size + 1) ⟨h21.alloc _, rowIs_new _ _ _ _ _ _ rfl (by simp) (fun i hi => arr8_get 64 _ i hi), hbB.alloc (by rw [← HB.out]; exact hbB.size) _, by simp⟩ ?_
  rintro W2 ⟨h22, hg2, hb2, hs2⟩
  generalize W1.heap.size = g at hgB hg2 hs2 ⊢
  clear h0 h1 h2 h3 hk hn hb1 hbB h21 W1 W0
  have HS := Lib.hid hs2; clear hs2
  go_upto_region 3 with (fail)
  rw [HS.out]
  refine wp_world (TagAt w B g z (fun i => if i < 0 then z i else 0#8)) ⟨h22.alloc _, hg2.alloc _, rowIs_new _ _ _ _ _ _ HS.out.symm (by rfl) (fun i hi => (zeroK i hi).trans (by rw [if_neg (by omega)])), hb2.alloc (by rw [← HB.out]; exact hb2.size) _, hgB⟩ ?_
  clear h22 hg2 hb2 HS hgB W2
  rintro W0 hT
  go_wp2_with fail
  go_loopw [11] (fun i wr => ∃ k : Nat, k ≤ 32 ∧ i = .int .i64 k ∧ TagAt w B g z (fun i => if i < k then z i else 0#8) wr) (fun i _ => 32 - (intOf i).toNat)
  case atStart => exact ⟨0, by omega, rfl, hT⟩
  clear hT
  case round =>
    obtain ⟨k, hk, rfl, hT⟩ := hrel
    by_cases hlt : k < 32
    · have cz := hT.k.cell (i := k) (by omega)
      have co := hT.o.cell hlt
      have fo := hT.o.frozen k
      have hl := hT.lt
      have HT : Hid (TagAt w B g z (fun i => if i < k + 1 then z i else 0#8) (wr.setCell ⟨g + 1, k, none⟩ (v8 (z k)))) := Lib.hid ⟨hT.r.setOther (a := ⟨g + 1, k, none⟩) (by simp only; omega) _, hT.k.setOther (a := ⟨g + 1, k, none⟩) (by simp only; omega) _, (hT.o.set k _).congr fun i hi => by
        by_cases e : i = k
        · rw [if_pos e, if_pos (by omega), e]
        · rw [if_neg e]
          by_cases e2 : i < k
          · rw [if_pos e2, if_pos (by omega)]
          · rw [if_neg e2, if_neg (by omega)], hT.b.setCell (by simp only; omega) _, hl⟩
      clear hT hl
      go_wp2_with fail
      go_roundw
      case rel => exact ⟨k + 1, by omega, by go_num, HT.out⟩
      case measure => simp [intOf]; omega
    · obtain rfl : k = 32 := by omega
      clear hk hlt
      have hT2 : TagAt w B g z z wr := ⟨hT.r, hT.k, hT.o.congr fun i hi => by rw [if_pos hi], hT.b, hT.lt⟩
      clear hT
      have hA2 : SlRead wr A (ints .u8 (bys ad)) := hA.below (by rw [HB.out]; exact hT2.b)
      have hby := bytes_any A (bys ad) ca wr hA2 (by rw [bys_length]; omega)
      rw [bys_length] at hby
      have hgB0 : g + 1 < wr.heap.size := hT2.o.lt
      clear hA2
      go_wp2_with fail
      refine hby.mono ?_
      rintro e W3 ⟨v3, rfl, hown3, hb3⟩
      have hT3 := hT2.later hb3 hgB0
      have hBs : wr.heap.size ≤ W3.heap.size := hb3.size
      obtain ⟨BB, hBB⟩ : ∃ BB, BB = wr.heap.size := ⟨_, rfl⟩
      rw [← hBB] at hown3 hgB0 hBs
      have hgB := hgB0
      have hst : OwnB W3 BB ad v3 W3 := ⟨hown3, Below.refl _ _, hBs⟩
      clear hby hT2 hown3 hb3 hgB0 hBB hBs wr
      go_wp2_with fail

      go_loopw [12] (fun v wr => ∃ t : Nat, t ≤ padN ad.length ∧ OwnB W3 BB (ad ++ List.replicate t 0#8) v wr) (fun v _ => match v with | .slice _ len _ => ad.length + 16 - len | _ => 0)
      case atStart => exact ⟨0, by omega, by simpa using hst⟩
      clear hst
      case round =>
        obtain ⟨t, ht, hx⟩ := hrel
        obtain ⟨Av, cv, rfl, hcv⟩ := ownsRow_form hx.own
        have hn : (ad ++ List.replicate t 0#8).length = ad.length + t := by simp
        have hp : padN ad.length = (16 - ad.length % 16) % 16 := rfl
        obtain ⟨us, hus⟩ : ∃ us, us = ad ++ List.replicate t 0#8 := ⟨_, rfl⟩
        rw [← hus] at hx hn hcv ⊢
        obtain ⟨r, hr⟩ : ∃ r, r = us.length % 16 := ⟨_, rfl⟩
        have htm : Int.tmod (us.length : Int) 16 = (r : Int) := by rw [Int.tmod_eq_emod_of_nonneg (by omega), hr]; omega
        by_cases hlt : t < padN ad.length
        · have hrb : ((r : Int) != 0) = true := by simp; omega
          have hus1 : us ++ [0#8] = ad ++ List.replicate (t + 1) 0#8 := by rw [hus, List.append_assoc, List.replicate_succ']
          have hle : us.length ≤ 140737488351900 := by omega
          have HU := Lib.hid hus1
          have HN := Lib.hid hn
          have HP := Lib.hid hp
          clear hus hus1 hr hn hp
          go_wp2_with (at_builtin; refine push_one rfl _ _ rfl wr BB (.slice Av us.length cv) us 0#8 rfl rfl hx.own hx.s hle ?_; intro v' W4 hown hb hg1 hg2; clear hg1 hg2)
          have h4 := hx.push hown hb
          rw [HU.out] at h4
          clear hx hown hb
          go_wp2_with fail
          go_roundw
          case rel => exact ⟨t + 1, by omega, h4⟩
          case measure =>
            obtain ⟨Av2, cv2, rfl, _⟩ := ownsRow_form h4.own
            have := HN.out
            have := HP.out
            simp
            omega
        · have hrb : ((r : Int) != 0) = false := by simp; omega
          have hte : t = padN ad.length := by omega
          rw [hte] at hus
          have HU := Lib.hid (show us = padded ad from hus)
          clear hus hr hn hp hte ht hlt
          obtain ⟨d1, hd1⟩ : ∃ d1, d1 = us := ⟨_, rfl⟩
          rw [← hd1] at hx HU htm ⊢
          clear hd1
          have hD1 : d1.length ≤ 1020 := by
            have h1 := padded_len ad
            have h2 := padN_lt ad.length
            rw [HU.out]
            omega
          have HD1 := HU
          have hX5 : SlRead wr X (ints .u8 (bys tx)) := hX.below (by rw [HB.out]; exact (hT3.later hx.b hgB).b)
          have hle : d1.length + tx.length ≤ 140737488352000 := by omega
          go_wp2_with (at_builtin; refine push_many rfl _ _ rfl wr BB (.slice Av d1.length cv) d1 X tx cx rfl rfl hx.own hX5 hx.s hle ?_; intro v' W5 hown1 hb1 hg1 hg2; clear hg1 hg2)
          have hst := hx.push hown1 hb1
          clear hx hown1 hb1 hX5 hcv HU htm hrb hle
          obtain ⟨zs, hzs⟩ : ∃ zs, zs = d1 ++ tx := ⟨_, rfl⟩
          have hlz : zs.length ≤ 2040 := by rw [hzs, List.length_append]; omega
          rw [← hzs] at hst
          have HZS := Lib.hid hzs
          clear hzs
          go_wp2_with fail

          go_loopw [12] (fun v wr => ∃ t : Nat, t ≤ padN zs.length ∧ OwnB W3 BB (zs ++ List.replicate t 0#8) v wr) (fun v _ => match v with | .slice _ len _ => zs.length + 16 - len | _ => 0)
          case atStart => exact ⟨0, by omega, by simpa using hst⟩
          clear hst
          case round =>
            obtain ⟨t, ht, hx⟩ := hrel
            obtain ⟨Av, cv, rfl, hcv⟩ := ownsRow_form hx.own
            have hn : (zs ++ List.replicate t 0#8).length = zs.length + t := by simp
            have hp : padN zs.length = (16 - zs.length % 16) % 16 := rfl
            obtain ⟨us, hus⟩ : ∃ us, us = zs ++ List.replicate t 0#8 := ⟨_, rfl⟩
            rw [← hus] at hx hn hcv ⊢
            obtain ⟨r, hr⟩ : ∃ r, r = us.length % 16 := ⟨_, rfl⟩
            have htm : Int.tmod (us.length : Int) 16 = (r : Int) := by rw [Int.tmod_eq_emod_of_nonneg (by omega), hr]; omega
            by_cases hlt : t < padN zs.length
            · have hrb : ((r : Int) != 0) = true := by simp; omega
              have hus1 : us ++ [0#8] = zs ++ List.replicate (t + 1) 0#8 := by rw [hus, List.append_assoc, List.replicate_succ']
              have hle : us.length ≤ 140737488351900 := by omega
              have HU := Lib.hid hus1
              have HN := Lib.hid hn
              have HP := Lib.hid hp
              clear hus hus1 hr hn hp
              go_wp2_with (at_builtin; refine push_one rfl _ _ rfl wr BB (.slice Av us.length cv) us 0#8 rfl rfl hx.own hx.s hle ?_; intro v' W4 hown hb hg1 hg2; clear hg1 hg2)
              have h4 := hx.push hown hb
              rw [HU.out] at h4
              clear hx hown hb
              go_wp2_with fail
              go_roundw
              case rel => exact ⟨t + 1, by omega, h4⟩
              case measure =>
                obtain ⟨Av2, cv2, rfl, _⟩ := ownsRow_form h4.own
                have := HN.out
                have := HP.out
                simp
                omega
            · have hrb : ((r : Int) != 0) = false := by simp; omega
              have hte : t = padN zs.length := by omega
              rw [hte] at hus
              have HU := Lib.hid (show us = padded zs from hus)
              clear hus hr hn hp hte ht hlt
              obtain ⟨d2, hd2⟩ : ∃ d2, d2 = us := ⟨_, rfl⟩
              rw [← hd2] at hx HU htm ⊢
              clear hd2
              have hD2 : d2.length ≤ 2100 := by
                have h1 := padded_len zs
                have h2 := padN_lt zs.length
                rw [HU.out]
                omega
              have HD2 : Hid (d2 = padded (d1 ++ tx)) := Lib.hid (by rw [HU.out, HZS.out])
              have hst : OwnB W3 BB d2 (.slice Av d2.length cv) wr := hx
              clear hcv HZS
              go_wp2_with fail
              clear hx HU htm hrb

              go_loopw [12, 13] (fun v i wr => ∃ k : Nat, k ≤ 8 ∧ i = .int .i64 (k : Int) ∧ OwnB W3 BB (d2 ++ len8 ad.length k) v wr) (fun _ i _ => 8 - (intOf i).toNat)
              case atStart => exact ⟨0, by omega, rfl, by simpa [len8] using hst⟩
              clear hst
              case round =>
                obtain ⟨k, hk, rfl, hx⟩ := hrel
                obtain ⟨Av, cv, rfl, hcv⟩ := ownsRow_form hx.own
                obtain ⟨us, hus⟩ : ∃ us, us = d2 ++ len8 ad.length k := ⟨_, rfl⟩
                have hul : us.length = d2.length + k := by rw [hus]; simp [len8]
                rw [← hus] at hx hcv ⊢
                by_cases hlt : k < 8
                · have hus1 : us ++ [((BitVec.ofNat 64 ad.length) >>> (8 * k)).setWidth 8] = d2 ++ len8 ad.length (k + 1) := by rw [hus, List.append_assoc, len8_succ]
                  have hle : us.length ≤ 140737488351900 := by omega
                  have HU := Lib.hid hus1
                  clear hus hus1 hul
                  have HV := Lib.hid (len8_val ad.length k (by omega))
                  go_wp2_with (at_builtin; rw [HV.out]; refine push_one rfl _ _ rfl wr BB (.slice Av us.length cv) us _ rfl rfl hx.own hx.s hle ?_; intro v' W4 hown hb hg1 hg2; clear hg1 hg2)
                  have h4 := hx.push hown hb
                  rw [HU.out] at h4
                  clear hx hown hb
                  go_wp2_with fail
                  go_roundw
                  case rel => exact ⟨k + 1, by omega, by go_num, h4⟩
                  case measure => simp [intOf]; omega
                · obtain rfl : k = 8 := by omega
                  have HU := Lib.hid hus
                  clear hus hul hk hlt
                  rw [show ((8 : Nat) : Int) = 8 from rfl]
                  obtain ⟨d3, hd3⟩ : ∃ d3, d3 = us := ⟨_, rfl⟩
                  rw [← hd3] at hx HU ⊢
                  have hD3 : d3.length ≤ 2200 := by rw [HU.out, List.length_append, len8_len]; omega
                  have HD3 := HU
                  have hst : OwnB W3 BB d3 (.slice Av d3.length cv) wr := hx
                  clear hx hcv HU hd3
                  go_wp2_with fail

                  go_loopw [12, 14] (fun v i wr => ∃ k : Nat, k ≤ 8 ∧ i = .int .i64 (k : Int) ∧ OwnB W3 BB (d3 ++ len8 tx.length k) v wr) (fun _ i _ => 8 - (intOf i).toNat)
                  case atStart => exact ⟨0, by omega, rfl, by simpa [len8] using hst⟩
                  clear hst
                  case round =>
                    obtain ⟨k, hk, rfl, hx⟩ := hrel
                    obtain ⟨Av, cv, rfl, hcv⟩ := ownsRow_form hx.own
                    obtain ⟨us, hus⟩ : ∃ us, us = d3 ++ len8 tx.length k := ⟨_, rfl⟩
                    have hul : us.length = d3.length + k := by rw [hus]; simp [len8]
                    rw [← hus] at hx hcv ⊢
                    by_cases hlt : k < 8
                    · have hus1 : us ++ [((BitVec.ofNat 64 tx.length) >>> (8 * k)).setWidth 8] = d3 ++ len8 tx.length (k + 1) := by rw [hus, List.append_assoc, len8_succ]
                      have hle : us.length ≤ 140737488351900 := by omega
                      have HU := Lib.hid hus1
                      clear hus hus1 hul
                      have HV := Lib.hid (len8_val tx.length k (by omega))
                      go_wp2_with (at_builtin; rw [HV.out]; refine push_one rfl _ _ rfl wr BB (.slice Av us.length cv) us _ rfl rfl hx.own hx.s hle ?_; intro v' W4 hown hb hg1 hg2; clear hg1 hg2)
                      have h4 := hx.push hown hb
                      rw [HU.out] at h4
                      clear hx hown hb
                      go_wp2_with fail
                      go_roundw
                      case rel => exact ⟨k + 1, by omega, by go_num, h4⟩
                      case measure => simp [intOf]; omega
                    · obtain rfl : k = 8 := by omega
                      have HU := Lib.hid hus
                      clear hus hul hk hlt
                      obtain ⟨d4, hd4⟩ : ∃ d4, d4 = us := ⟨_, rfl⟩
                      rw [← hd4] at hx hcv HU ⊢
                      have HD4 : Hid (d4 = tagData ad tx) := Lib.hid (by rw [HU.out, HD3.out, HD2.out, HD1.out]; rfl)
                      have hD4 : d4.length ≤ 2300 := by rw [HU.out, List.length_append, len8_len]; omega
                      have hT7 := hT3.later hx.b hgB
                      have hS7 := SlRead.of_own hx.own
                      have hcap : d4.length ≤ cv := by rcases Nat.eq_zero_or_pos d4.length with h | h; omega; exact hcv h
                      have hk := rowIs_heap8 hT7.o
                      obtain ⟨old, hr1, hr2, _⟩ := hT7.r
                      have hltB : B + 2 < wr.heap.size := hT7.r.lt
                      have hbT := hT7.b
                      clear hT7 hx hcv HU hd4 HD3 HD2 HD1 hT3
                      go_wp2_with (first | (refine wpList_load_row rfl 23 _ rfl _ rfl _ _ _ _ hk Tryd.underlying23 rfl (by kernel_rfl) ?_))
                      refine (dtag_any z Av d4 cv wr hS7 hcap (by omega)).mono ?_
                      rintro e W8 ⟨rfl, hb8⟩
                      have hr1' : W8.heap[B + 2]? = some (.cells old 58 (0, 0)) := (hb8.block _ hltB).trans hr1
                      have hb9 : Below B w W8 := hbT.trans (hb8.mono (by omega))
                      have hb := below_setRow (g := B + 2) hb9 (by omega) (arr8 16 (polyB z d4))
                      have hres : (W8.setRow (B + 2) (arr8 16 (polyB z d4))).heap[B + 2]? = some (.cells (arr8 16 (polyB z d4)) 58 (0, 0)) := setRow_heap _ _ _ _ _ _ hr1'
                      clear hr1 hb8 hb9 hbT hk hS7
                      go_wp2_with (refine wpList_store_row rfl 58 _ _ rfl _ _ rfl rfl _ _ hr1' (by kernel_rfl) (by simpa using hr2) (arr8_one _ _) ?_)
                      refine bodyPost_ret (results_cell_row rfl _ _ _ _ _ _ _ rfl hres Tryd.underlying58 rfl (by kernel_rfl)) rfl ?_
                      rw [HB.out, ← HD4.out, ← HZ.out]
                      exact ⟨rfl, hb⟩
end Go.Proofs.YtpegihfocnchnaaDoor
