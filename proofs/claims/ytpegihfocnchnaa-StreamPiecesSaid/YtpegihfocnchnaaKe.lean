import Derived.Test.YtpegihfocnchnaaKd
namespace Go.Proofs.Ytpegihfocnchnaa
open Go.RowKit

/-- a byte under the stream -/
def xr (key : Nat → BitVec 8) (ct : BitVec 32) (non : Nat → BitVec 8) (xs : List Int) (i : Nat) : Int :=
  bits .xor .u8 (xs.getD i 0) (n8 (ckB key (ct + BitVec.ofNat 32 (i / 64)) non (i % 64)))
def xrTo (key : Nat → BitVec 8) (ct : BitVec 32) (non : Nat → BitVec 8) (xs : List Int) (m : Nat) : Nat → Value := fun i => .int .u8 (if i < m then xr key ct non xs i else 0)

structure XrAt (w : World) (B : Nat) (key non : Nat → BitVec 8) (n : Nat) (f : Nat → Value) (W : World) : Prop where
  k : W.rowIs B 31 32 (fun i => v8 (key i))
  nn : W.rowIs (B + 1) 36 12 (fun i => v8 (non i))
  o : W.rowIs (B + 1 + 1) 5 n f
  b : Below B w W
theorem XrAt.below {w : World} {B : Nat} {key non : Nat → BitVec 8} {n : Nat} {f : Nat → Value} {W W' : World} (h : XrAt w B key non n f W) (hb : Below W.heap.size W W') : XrAt w B key non n f W' :=
  ⟨h.k.of_block (hb.block _ h.k.lt), h.nn.of_block (hb.block _ h.nn.lt), h.o.of_block (hb.block _ h.o.lt), h.b.trans (hb.mono (Nat.le_of_lt h.k.lt))⟩
theorem XrAt.alloc {w : World} {B : Nat} {key non : Nat → BitVec 8} {n : Nat} {f : Nat → Value} {W : World} (h : XrAt w B key non n f W) (o : Obj) : XrAt w B key non n f (W.alloc o) :=
  h.below ((Below.refl _ _).alloc (Nat.le_refl _) o)

theorem XrAt.drew {w : World} {B : Nat} {key non : Nat → BitVec 8} {n : Nat} {f : Nat → Value} {W : World} (h : XrAt w B key non n f W) : XrAt w B key non n f W.drew := ⟨h.k, h.nn, h.o, h.b.drew⟩
theorem XrAt.congr {w : World} {B : Nat} {key non : Nat → BitVec 8} {n : Nat} {f g : Nat → Value} {W : World} (h : XrAt w B key non n f W) (e : ∀ i, i < n → f i = g i) : XrAt w B key non n g W := ⟨h.k, h.nn, h.o.congr e, h.b⟩
theorem XrAt.put {w : World} {B : Nat} {key non : Nat → BitVec 8} {xs : List Int} {ct : BitVec 32} {W : World} {m : Nat} {v : Int} (h : XrAt w B key non xs.length (xrTo key ct non xs m) W) (_hm : m < xs.length) (hv : xr key ct non xs m = v) :
    XrAt w B key non xs.length (xrTo key ct non xs (m + 1)) (W.setCell ⟨B + 1 + 1, m, none⟩ (.int .u8 v)) := by
  refine ⟨h.k.setOther (a := ⟨B + 1 + 1, m, none⟩) (by simp only; omega) _, h.nn.setOther (a := ⟨B + 1 + 1, m, none⟩) (by simp only; omega) _, ?_, h.b.setCell (by simp only; omega) _⟩
  refine (h.o.set m _).congr fun i hi => ?_
  unfold xrTo
  by_cases e : i = m
  · subst e; simp [hv]
  · rw [if_neg e]
    by_cases hlt : i < m
    · rw [if_pos hlt, if_pos (by omega)]
    · rw [if_neg hlt, if_neg (by omega)]

set_option maxRecDepth 100000 in
set_option maxHeartbeats 800000 in
theorem xor_any (key non : Nat → BitVec 8) (ct : BitVec 32) (A : Option Addr) (xs : List Int) (cap : Nat) (w : World) (hA : SlRead w A (ints .u8 xs)) (hx : xs.length ≤ 1000) :
    Calls Try.prog 14 #[.agg (arr8 32 key), v32 ct, .agg (arr8 12 non), .slice A xs.length cap] w fun e w' => ∃ O, e = .returned (.slice (some ⟨O, 0, none⟩) xs.length xs.length) ∧ w'.rowIs O 5 xs.length (fun i => .int .u8 (xr key ct non xs i)) ∧ w.heap.size ≤ O ∧ Below w.heap.size w w' := by
  obtain ⟨i0, hi, hz0, hz1, hz2⟩ := info_parts Try.info5
  go_enter Try.func14, Try.ntmps14
  go_upto_region 2 with (at_make; refine wpList_make_row _ rfl _ _ 22 rfl 5 i0 (.int .u8 0) Try.underlying22 hi hz0 hz1 rfl .i64 .i64 xs.length rfl rfl (by rw [hz2]; omega) (by omega) ?_)
  refine wp_world (XrAt w w.heap.size key non xs.length (xrTo key ct non xs 0)) ?_ ?_
  · refine ⟨?_, ?_, ?_, ?_⟩
    · exact ((rowIs_new _ _ _ _ _ _ (by simp) (by simp) (fun i hi => arr8_get 32 key i hi)).alloc _).alloc _
    · exact (rowIs_new _ _ _ _ _ _ (by simp) (by simp) (fun i hi => arr8_get 12 non i hi)).alloc _
    · have := (World.rowIs_made ((w.alloc (.cells (arr8 32 key) 31)).alloc (.cells (arr8 12 non) 36)) (.int .u8 0) xs.length 5).congr (g := xrTo key ct non xs 0) (fun i hi => by simp [xrTo])
      simpa using this
    · go_grown
  intro W hW
  have hA' := hA.below hW.b
  generalize hB : w.heap.size = B at hW ⊢
  have HB := Lib.hid hB; clear hB
  go_wp2_with fail
  go_loopw [1, 10] (fun c f wr => ∃ k F : Nat, F = 64 * k ∧ F ≤ xs.length + 63 ∧ f = .int .i64 F ∧ c = v32 (ct + BitVec.ofNat 32 k) ∧ XrAt w B key non xs.length (xrTo key ct non xs F) wr) (fun _ f _ => xs.length - (intOf f).toNat)
  case atStart => exact ⟨0, 0, rfl, by omega, rfl, by simp, hW⟩
  clear hW
  case round =>
    obtain ⟨k, F, hF, hFx, rfl, rfl, hb⟩ := hrel
    have HF := Lib.hid hF; clear hF
    by_cases hlt : F < xs.length
    · have hk := rowIs_heap8 hb.k
      have hn := rowIs_heap8 hb.nn
      go_upto_region 6 with (first | (refine wpList_load_row rfl 31 _ rfl _ rfl _ _ _ _ hk Try.underlying31 rfl (by kernel_rfl) ?_) | (refine wpList_load_row rfl 36 _ rfl _ rfl _ _ _ _ hn Try.underlying36 rfl (by kernel_rfl) ?_) | (go_at_call 16; refine (ckb_any key non _ _).mono ?_; rintro e W1 ⟨rfl, hb1⟩) | (refine wpList_store_row rfl 42 _ _ rfl _ _ rfl rfl _ _ (heap_alloc_new _ _) (by kernel_rfl) (by simp) (arr8_one _ _) ?_; rw [alloc_setRow]))
      have hb2 := (hb.below hb1)
      refine wp_world (fun W => XrAt w B key non xs.length (xrTo key ct non xs F) W ∧ W.rowIs W1.heap.size 42 64 (fun i => v8 (ckB key (ct + BitVec.ofNat 32 k) non i)) ∧ B + 1 + 1 < W1.heap.size) ⟨hb2.alloc _, rowIs_new _ _ _ _ _ _ rfl (by simp) (fun i hi => arr8_get 64 _ i hi), hb2.o.lt⟩ ?_
      rintro W2 ⟨hb3, hg3, hgB⟩
      generalize W1.heap.size = g at hg3 hgB ⊢
      clear hb hb1 hb2 hk hn
      have hbk : ∀ t, t < 64 → F + t < xs.length → xr key ct non xs (F + t) = bits .xor .u8 (xs.getD (F + t) 0) (n8 (ckB key (ct + BitVec.ofNat 32 k) non t)) := fun t ht _ => by
        have hF := HF.out
        unfold xr
        rw [show (F + t) / 64 = k by omega, show (F + t) % 64 = t by omega]
      have HBK := Lib.hid hbk; clear hbk
      generalize ckB key (ct + BitVec.ofNat 32 k) non = z at hg3 HBK ⊢
      by_cases hm : F + 64 ≤ xs.length
      all_goals
        go_wp2_with fail
        go_loopw [12] (fun i wr => ∃ t : Nat, t ≤ 64 ∧ F + t ≤ xs.length ∧ i = .int .i64 ((F : Int) + t) ∧ XrAt w B key non xs.length (xrTo key ct non xs (F + t)) wr ∧ wr.rowIs g 42 64 (fun i => v8 (z i))) (fun i _ => xs.length + 64 - (intOf i).toNat)
        case atStart => exact ⟨0, by omega, by omega, by simp, hb3, hg3⟩
        clear hb3 hg3
        case round =>
          obtain ⟨t, ht, hFt, rfl, hb, hg⟩ := hrel
          by_cases hlt2 : t < 64 ∧ F + t < xs.length
          · obtain ⟨ht64, hFt2⟩ := hlt2
            have hbw : Below w.heap.size w wr := by rw [HB.out]; exact hb.b
            obtain ⟨b', o', x, hAe, hc, hxk⟩ := (hA.below hbw).at_ hFt2
            subst hAe
            clear hbw
            have hv : xr key ct non xs (F + t) = bits .xor .u8 x (n8 (z t)) := by rw [HBK.out t ht64 hFt2]; simp [hxk]
            have hput := hb.put hFt2 hv
            have hg1 : World.rowIs _ g 42 64 _ := hg.setOther (a := ⟨B + 1 + 1, F + t, none⟩) (by simp only; omega) (.int .u8 (bits .xor .u8 x (n8 (z t))))
            have hsub : IntKind.i64.wrap ((F : Int) + t - F) = t := by rw [IntWalk.i64_in _ (by omega)]; omega
            have hsub2 : (F : Int) + t - F = t := by omega
            have cg := hg.cell ht64
            have co := hb.o.cell hFt2
            have fo := hb.o.frozen (F + t)
            clear hxk hv hb hg
            go_wp2
            go_region
            go_wp2
            go_roundw
            case rel => exact ⟨t + 1, by omega, by omega, by go_num, by first | exact hput | exact hput.drew, hg1⟩
            case measure => simp [intOf]; omega
          · have hb4 : XrAt w B key non xs.length (xrTo key ct non xs (F + 64)) wr := hb.congr fun i hi => by
              unfold xrTo
              by_cases h1 : i < F + t
              · rw [if_pos h1, if_pos (by omega)]
              · rw [if_neg h1, if_neg (by omega)]
            have hct : (n32 (ct + BitVec.ofNat 32 k) + 1) % 4294967296 = n32 (ct + BitVec.ofNat 32 (k + 1)) := by
              have h1 := n32_add (ct + BitVec.ofNat 32 k) 1#32
              rw [show n32 1#32 = 1 from rfl] at h1
              rw [h1, BitVec.add_assoc, show BitVec.ofNat 32 k + 1#32 = BitVec.ofNat 32 (k + 1) from (BitVec.ofNat_add k 1).symm]
            have hF64 : F + 64 = 64 * (k + 1) := by have := HF.out; omega
            have HF2 := Lib.hid hF64
            clear hb hg hF64
            go_wp2
            go_roundw
            case rel => exact ⟨k + 1, F + 64, HF2.out, by omega, by go_num, by first | rfl | rw [hct], hb4⟩
            case measure => simp [intOf]; omega
    · have hfin : wr.rowIs (B + 1 + 1) 5 xs.length (fun i => .int .u8 (xr key ct non xs i)) := hb.o.congr fun i hi => by simp [xrTo, show i < F by omega]
      have hbb := hb.b
      clear hb
      go_wp2
      go_ret
      exact ⟨_, rfl, hfin, by rw [HB.out]; omega, by rw [HB.out]; exact hbb⟩
end Go.Proofs.Ytpegihfocnchnaa
