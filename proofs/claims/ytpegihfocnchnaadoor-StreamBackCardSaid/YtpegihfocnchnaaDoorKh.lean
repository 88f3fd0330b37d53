import Derived.Test.YtpegihfocnchnaaDoorKi
import Derived.Deep.RegionHeld3
import Derived.Deep.AppendLies
import Derived.Deep.Onto
namespace Go.Proofs.YtpegihfocnchnaaDoor
open Go.RowKit

def zf : Nat → BitVec 8 := fun _ => 0#8

theorem own_keep {w w' : World} {base : Nat} {e : TypeId} {size : Nat} {v : Value} {n : Nat} {xs : List Value} (h : w.ownsRow base e size v n xs) (hk : ∀ g, base ≤ g → g < w.heap.size → w'.heap[g]? = w.heap[g]?) : w'.ownsRow base e size v n xs := by
  refine ⟨h.1, ?_⟩
  rcases h.2 with hn | ⟨g, cap, cur, hv, hb, hg, rest⟩
  · exact .inl hn
  · refine .inr ⟨g, cap, cur, hv, hb, ?_, rest⟩
    rw [hk g hb (Array.getElem?_eq_some_iff.1 hg).1, hg]

/-- the parameters' boxes and the block's row -/
structure RxAt (w : World) (B : Nat) (key non : Nat → BitVec 8) (z : Nat → BitVec 8) (W : World) : Prop where
  k : W.rowIs B 23 32 (fun i => v8 (key i))
  nn : W.rowIs (B + 1) 48 12 (fun i => v8 (non i))
  r : W.rowIs (B + 1 + 1) 62 64 (fun i => v8 (z i))
  b : Below B w W
theorem RxAt.below {w : World} {B : Nat} {key non z : Nat → BitVec 8} {W W' : World} (h : RxAt w B key non z W) (hb : Below (B + 1 + 1 + 1) W W') : RxAt w B key non z W' :=
  ⟨h.k.of_block (hb.block _ (by omega)), h.nn.of_block (hb.block _ (by omega)), h.r.of_block (hb.block _ (by omega)), h.b.trans (hb.mono (by omega))⟩

theorem put8 {w : World} {g : Nat} {s : Nat → BitVec 8} (h : w.rowIs g 62 64 (fun i => v8 (s i))) (t : Nat → BitVec 8) : (w.setRow g (arr8 64 t)).rowIs g 62 64 (fun i => v8 (t i)) :=
  rowIs_arr (setRow_heap _ _ _ _ _ _ (rowIs_heap8 h)) (by simp) (fun i hi => arr8_get 64 t i hi)

set_option maxRecDepth 100000 in
set_option maxHeartbeats 1600000 in
theorem rxor_any (key non : Nat → BitVec 8) (ct : BitVec 32) (A : Option Addr) (xs : List Int) (cap : Nat) (w : World) (hA : SlRead w A (ints .u8 xs)) (hx : xs.length ≤ 1000) :
    Calls Tryd.prog 35 #[.agg (arr8 32 key), v32 ct, .agg (arr8 12 non), .slice A xs.length cap] w fun e w' => ∃ v, e = .returned v ∧ w'.ownsRow w.heap.size 5 1 v xs.length (ints .u8 (xrs key ct non xs)) ∧ Below w.heap.size w w' := by
  obtain ⟨i0, hi, hz0, hz1, hz2⟩ := info_parts Tryd.info5
  have hxl := xrs_length key ct non xs
  have hxg : ∀ k, k < xs.length → (xrs key ct non xs)[k]? = some (xr key ct non xs k) := fun k hk => by simp [xrs, hk]
  have HX := Lib.hid (And.intro hxl hxg); clear hxl hxg
  go_enter Tryd.func35, Tryd.ntmps35
  go_upto_region 3 with (fail)
  refine wp_world (RxAt w w.heap.size key non zf) ?_ ?_
  · refine ⟨?_, ?_, ?_, ?_⟩
    · exact ((rowIs_new _ _ _ _ _ _ (by first | rfl | simp) (by first | rfl | simp) (fun i hi => arr8_get 32 key i hi)).alloc _).alloc _
    · exact (rowIs_new _ _ _ _ _ _ (by first | rfl | simp) (by first | rfl | simp) (fun i hi => arr8_get 12 non i hi)).alloc _
    · exact rowIs_new _ _ _ _ _ _ (by first | rfl | simp) (by rfl) (zero_row8 64)
    · go_grown
  intro W hW
  have hA' := hA.below hW.b
  generalize hB : w.heap.size = B at hW ⊢
  have HB := Lib.hid hB; clear hB
  have hlW := hW.r.lt
  go_wp2_with fail
  go_loopw [9, 11] (fun v i wr => ∃ (k : Nat) (z : Nat → BitVec 8), k ≤ xs.length ∧ i = .int .i64 k ∧ RxAt w B key non z wr ∧ (0 < k → z = ckB key (ct + BitVec.ofNat 32 ((k - 1) / 64)) non) ∧ wr.ownsRow (B + 1 + 1 + 1) 5 1 v k (ints .u8 ((xrs key ct non xs).take k))) (fun _ i _ => xs.length - (intOf i).toNat)
  case atStart => exact ⟨0, zf, by omega, rfl, hW, fun h => absurd h (by omega), rfl, .inl ⟨rfl, rfl⟩⟩
  clear hW hlW hA'
  case round =>
    obtain ⟨k, z, hk, rfl, hr, hz, hown⟩ := hrel
    have HZ := Lib.hid hz; clear hz
    by_cases hlt : k < xs.length
    · obtain ⟨r, hrr⟩ : ∃ r, k % 64 = r := ⟨_, rfl⟩
      obtain ⟨q, hqq⟩ : ∃ q, k / 64 = q := ⟨_, rfl⟩
      have hm : (k : Int).tmod 64 = (r : Int) := by rw [Int.tmod_eq_emod_of_nonneg (by omega)]; omega
      have hm2 : (k : Int) % 64 = (r : Int) := by omega
      have hm3 : (r : Int) < 64 := by omega
      have hm4 : r < 64 := by omega
      have hwl := hr.r.lt
      have hZ1 : (k + 1 - 1) / 64 = q := by simpa using hqq
      have HZ1 := Lib.hid hZ1; clear hZ1
      by_cases h0 : r = 0
      · have hz' : ((r : Int) == 0) = true := by simp [h0]
        have hq : (k : Int).tdiv 64 = (q : Int) := by rw [Int.tdiv_eq_ediv_of_nonneg (by omega)]; omega
        have hq2 : (k : Int) / 64 = (q : Int) := by omega
        have hq3 : (q : Int) < 100 := by omega
        have hadd : (n32 ct + (q : Int)) % 4294967296 = n32 (ct + BitVec.ofNat 32 q) := by
          have h1 := n32_add ct (BitVec.ofNat 32 q)
          rw [show n32 (BitVec.ofNat 32 q) = (q : Int) from by unfold n32; rw [BitVec.toNat_ofNat]; omega] at h1
          exact h1
        have H0 := Lib.hid h0; clear h0
        have HQ := Lib.hid hqq; clear hqq
        have HR := Lib.hid hrr; clear hrr
        have hk23 := rowIs_heap8 hr.k
        have hn25 := rowIs_heap8 hr.nn
        go_upto_region 8 with (first | (refine wpList_load_row rfl 23 _ rfl _ rfl _ _ _ _ hk23 Tryd.underlying23 rfl (by kernel_rfl) ?_) | (refine wpList_load_row rfl 48 _ rfl _ rfl _ _ _ _ hn25 Tryd.underlying48 rfl (by kernel_rfl) ?_) | (go_at_call 44; refine (rblock_any key non _ _).mono ?_; rintro e W1 ⟨rfl, hb1⟩; have hst := rowIs_heap8 (hr.below (hb1.mono (by omega))).r) | (refine wpList_store_row rfl 62 _ _ rfl _ _ rfl rfl _ _ hst (by kernel_rfl) (by simp) (arr8_one _ _) ?_))
        have hr1 := hr.below (hb1.mono (by omega))
        have hown1 : W1.ownsRow (B + 1 + 1 + 1) 5 1 u9 k (ints .u8 ((xrs key ct non xs).take k)) := own_keep hown (fun g _ h => hb1.block g h)
        have hO : Only (B + 1 + 1) W1 (W1.setRow (B + 1 + 1) (arr8 64 (ckB key (ct + BitVec.ofNat 32 q) non))) := (Only.refl _ _).setRow _
        refine wp_world (fun W => RxAt w B key non (ckB key (ct + BitVec.ofNat 32 q) non) W ∧ W.ownsRow (B + 1 + 1 + 1) 5 1 u9 k (ints .u8 ((xrs key ct non xs).take k))) ⟨⟨hO.row hr1.k (by omega), hO.row hr1.nn (by omega), put8 hr1.r _, hr1.b.trans (hO.below (by omega) (Nat.le_of_lt hr1.k.lt))⟩, own_keep hown1 (fun g h1 h2 => hO.block g h2 (by omega))⟩ ?_
        rintro W2 ⟨hr2, hown2⟩
        clear hr hown hk23 hn25 hb1 hst hr1 hown1 hO hadd hq hq2 hwl
        have hbw : Below w.heap.size w W2 := by rw [HB.out]; exact hr2.b
        obtain ⟨b', o', x, hAe, hc0, hxk⟩ := hA.at_ hlt
        have hlb := World.block_lt_of_cell? w _ hc0
        subst hAe
        obtain ⟨b2, o2, x2, hAe, hc, hxk2⟩ := (hA.below hbw).at_ hlt
        obtain ⟨rfl, rfl⟩ : b' = b2 ∧ o' = o2 := by simpa using hAe
        obtain rfl : x = x2 := by rw [hxk] at hxk2; exact Option.some.inj hxk2
        simp only [HB.out] at hlb
        have ag : u9.ownBlock ≠ some b' := fun e => by have := (hown2.lt _ e).1; omega
        have ak : u9.ownBlock ≠ some (B + 1 + 1) := fun e => by have := (hown2.lt _ e).1; omega
        clear hbw hc0 hAe hxk2
        have hv : xr key ct non xs k = bits .xor .u8 x (n8 (ckB key (ct + BitVec.ofNat 32 q) non r)) := by unfold xr; rw [HR.out, HQ.out]; simp [hxk]
        generalize hZZ : ckB key (ct + BitVec.ofNat 32 q) non = Z at *
        have HZZ := Lib.hid hZZ; clear hZZ
        have cg := hr2.r.cell hm4
        have hxg := HX.out.2 k hlt
        rw [hv] at hxg
        generalize hy : bits .xor .u8 x (n8 (Z r)) = y at *
        have HV := Lib.hid hxg; clear hv hxk hxg
        have hsz := hr2.r.lt
        have hkm : k + 1 ≤ maxLen := by unfold maxLen; omega
        have hbk := Int.natCast_nonneg k
        have hkl : (k : Int) < (xs.length : Int) := by omega
        have hbr := Int.natCast_nonneg r
        go_region_held3 (fun w' => w'.cell? ⟨b', o' + k, none⟩ = some (.int .u8 x) ∧ w'.cell? ⟨B + 1 + 1, r, none⟩ = some (v8 (Z r))) (first | go_keep | (go_split_ands; exact ⟨by rw [hgrow.cell_far _ (by simp; omega) (Ne.symm ag)]; assumption, by rw [hgrow.cell_far _ (by simp; omega) (Ne.symm ak)]; assumption⟩))
          ((refine step_append_lies _ (by rfl) _ _ _ (by rfl) (B + 1 + 1 + 1) 5 i0 _ 1 1 Tryd.underlying24 hi hz0 hz1 hz2 rfl (by omega) u9 k (ints .u8 ((xrs key ct non xs).take k)) (by rfl) ((hown2.alloc _).drew) ⟨W2.heap.size, 0, none⟩ 1 1 [.int .u8 y] (by rfl) (by rfl) (World.news_of_block (cs := #[.int .u8 y]) (t := 5) (fr := (0, 0)) (heap_alloc_new W2 _)) (by simp [Value.oneCell']) (by omega) hkm (by omega) (by simp; omega) (W2.heap.size + 1) (by simp) ?_; intro gg cap1 w1 hown1 hgrow hat hlt'))
        rw [ints_snoc .u8 _ k y HV.out] at hown1
        have hb2 : Below (B + 1 + 1 + 1) W2 w1 := (((Below.refl _ W2).alloc (by omega) _).drew).grown hgrow (by simp; omega) (fun j hj => (hown2.lt j hj).1)
        have hr3 := hr2.below hb2
        clear hgrow hr2 hown2 hb2 hat hlt' hc cg
        go_wp2_with fail
        go_roundw
        case rel => exact ⟨k + 1, Z, by omega, by go_num, hr3, fun _ => by rw [HZ1.out]; exact HZZ.out.symm, hown1⟩
        case measure => simp [intOf]; omega
      · have hz' : ((r : Int) == 0) = false := by simp; omega
        have hz2 : z = ckB key (ct + BitVec.ofNat 32 q) non := by rw [HZ.out (by omega), show (k - 1) / 64 = q by omega]
        subst hz2
        have HQ := Lib.hid hqq; clear hqq
        have HR := Lib.hid hrr; clear hrr
        go_upto_region 8 with fail
        refine wp_world (fun W => RxAt w B key non (ckB key (ct + BitVec.ofNat 32 q) non) W ∧ W.ownsRow (B + 1 + 1 + 1) 5 1 u9 k (ints .u8 ((xrs key ct non xs).take k))) ⟨hr, hown⟩ ?_
        rintro W2 ⟨hr2, hown2⟩
        clear hr hown hwl
        have hbw : Below w.heap.size w W2 := by rw [HB.out]; exact hr2.b
        obtain ⟨b', o', x, hAe, hc0, hxk⟩ := hA.at_ hlt
        have hlb := World.block_lt_of_cell? w _ hc0
        subst hAe
        obtain ⟨b2, o2, x2, hAe, hc, hxk2⟩ := (hA.below hbw).at_ hlt
        obtain ⟨rfl, rfl⟩ : b' = b2 ∧ o' = o2 := by simpa using hAe
        obtain rfl : x = x2 := by rw [hxk] at hxk2; exact Option.some.inj hxk2
        simp only [HB.out] at hlb
        have ag : u9.ownBlock ≠ some b' := fun e => by have := (hown2.lt _ e).1; omega
        have ak : u9.ownBlock ≠ some (B + 1 + 1) := fun e => by have := (hown2.lt _ e).1; omega
        clear hbw hc0 hAe hxk2
        have hv : xr key ct non xs k = bits .xor .u8 x (n8 (ckB key (ct + BitVec.ofNat 32 q) non r)) := by unfold xr; rw [HR.out, HQ.out]; simp [hxk]
        generalize hZZ : ckB key (ct + BitVec.ofNat 32 q) non = Z at *
        have HZZ := Lib.hid hZZ; clear hZZ
        have cg := hr2.r.cell hm4
        have hxg := HX.out.2 k hlt
        rw [hv] at hxg
        generalize hy : bits .xor .u8 x (n8 (Z r)) = y at *
        have HV := Lib.hid hxg; clear hv hxk hxg
        have hsz := hr2.r.lt
        have hkm : k + 1 ≤ maxLen := by unfold maxLen; omega
        have hbk := Int.natCast_nonneg k
        have hkl : (k : Int) < (xs.length : Int) := by omega
        have hbr := Int.natCast_nonneg r
        go_region_held3 (fun w' => w'.cell? ⟨b', o' + k, none⟩ = some (.int .u8 x) ∧ w'.cell? ⟨B + 1 + 1, r, none⟩ = some (v8 (Z r))) (first | go_keep | (go_split_ands; exact ⟨by rw [hgrow.cell_far _ (by simp; omega) (Ne.symm ag)]; assumption, by rw [hgrow.cell_far _ (by simp; omega) (Ne.symm ak)]; assumption⟩))
          ((refine step_append_lies _ (by rfl) _ _ _ (by rfl) (B + 1 + 1 + 1) 5 i0 _ 1 1 Tryd.underlying24 hi hz0 hz1 hz2 rfl (by omega) u9 k (ints .u8 ((xrs key ct non xs).take k)) (by rfl) ((hown2.alloc _).drew) ⟨W2.heap.size, 0, none⟩ 1 1 [.int .u8 y] (by rfl) (by rfl) (World.news_of_block (cs := #[.int .u8 y]) (t := 5) (fr := (0, 0)) (heap_alloc_new W2 _)) (by simp [Value.oneCell']) (by omega) hkm (by omega) (by simp; omega) (W2.heap.size + 1) (by simp) ?_; intro gg cap1 w1 hown1 hgrow hat hlt'))
        rw [ints_snoc .u8 _ k y HV.out] at hown1
        have hb2 : Below (B + 1 + 1 + 1) W2 w1 := (((Below.refl _ W2).alloc (by omega) _).drew).grown hgrow (by simp; omega) (fun j hj => (hown2.lt j hj).1)
        have hr3 := hr2.below hb2
        clear hgrow hr2 hown2 hb2 hat hlt' hc cg
        go_wp2_with fail
        go_roundw
        case rel => exact ⟨k + 1, Z, by omega, by go_num, hr3, fun _ => by rw [HZ1.out]; exact HZZ.out.symm, hown1⟩
        case measure => simp [intOf]; omega
    · have hkl : k = xs.length := by omega
      have hfin : (xrs key ct non xs).take k = xrs key ct non xs := by rw [List.take_of_length_le]; rw [HX.out.1]; omega
      rw [hfin, hkl] at hown
      have hown2 := World.ownsRow.mono hown (show B ≤ B + 1 + 1 + 1 by omega)
      have hbb := hr.b
      clear hfin hr hown
      go_wp2_with fail
      go_ret
      exact ⟨_, rfl, by rw [HB.out]; exact hown2, by rw [HB.out]; exact hbb⟩
end Go.Proofs.YtpegihfocnchnaaDoor
