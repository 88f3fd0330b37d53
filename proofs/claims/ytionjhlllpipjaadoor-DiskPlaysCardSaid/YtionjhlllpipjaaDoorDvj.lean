import Derived.Test.YtionjhlllpipjaaDoorDvh
/-
  DiskPlays: both disks, method by method.
-/
namespace Go.Proofs.YtionjhlllpipjaaDoor
open Go.RowKit

section
variable {w : World} {n D R : Nat} {ss : List Sec} {off : Bool} {fuse : Int} {pv : Nat → Value}
set_option maxRecDepth 100000 in
set_option maxHeartbeats 800000 in
theorem sync_fail (E : Nat → Addr) (hE : ErrsAt E w) (h : DkS w n D R ss false 0 pv) : Calls Tryd.prog 15 #[.pointer (some ⟨D, 0, none⟩)] w fun e w' =>
    e = .returned (errV (E 0)) ∧ DkS w' n D R ss true 0 pv ∧ Turn (· = D) w w' := by
  have hc := h.offc
  have hdr := draw_any E hE h
  rw [show drawV E 0 = errV (E 0) from if_pos rfl, show drawO false 0 = true from rfl, show drawF 0 = 0 from rfl] at hdr
  clear h hE
  go_enter Tryd.func15, Tryd.ntmps15
  go_wp2_with (go_at_call 32; refine hdr.mono ?_; rintro e wd ⟨rfl, hd, ht⟩; have HD := Lib.hid hd; have HT := Lib.hid ht; clear hd ht)
  go_ret
  exact ⟨rfl, HD.out, HT.out⟩
end
/-- what stands behind a pair of methods -/
def BothP (w0 V1 : World) (D R X T cT : Nat) (i : Nat) (e2 : Ending) (r : Value) (V2 : World) : Prop :=
  e2 = .returned r ∧ Turn (fun q => q = X ∨ q = T) V1 V2 ∧ ∃ ss' pv' off' fuse', BothS w0 V2 D R X T cT ss' pv' off' fuse' i
section
variable {w0 V : World} {D R X T cT : Nat} {ss : List Sec} {pv : Nat → Value} {off : Bool} {fuse : Int} {i : Nat} {E : Nat → Addr}
theorem drawF_burnL (f : Int) : drawF f = burnL f := rfl
theorem reads_nil : Reads E .nilIface 0 := .inl ⟨rfl, rfl⟩
theorem reads_0 : Reads E (errV (E 0)) 101 := .inr ⟨0, by decide, rfl, rfl⟩
theorem reads_1 : Reads E (errV (E 1)) 102 := .inr ⟨1, by decide, rfl, rfl⟩
theorem BothS.errs (h : BothS w0 V D R X T cT ss pv off fuse i) (hE : ErrsAt E w0) : ErrsAt E V := hE.below h.b
theorem foot_D {q : Nat} (hq : q = D ∨ q = R) : DFoot D R ss pv q := hq.elim .inl (fun h => .inr (.inl h))
theorem turn_low {W1 W2 : World} (h : Turn (fun q => q = X ∨ q = T) W1 W2) (hb : Below w0.heap.size w0 W1) (hX : w0.heap.size ≤ X) (hT : w0.heap.size ≤ T) : Below w0.heap.size w0 W2 :=
  h.below hb hb.size (fun q e => by rcases e with e | e <;> rw [e] <;> assumption)
theorem sync_both (hE : ErrsAt E w0) (h : BothS w0 V D R X T cT ss pv off fuse i) :
    Calls Tryd.prog 15 #[.pointer (some ⟨D, 0, none⟩)] V fun e V1 => ∃ v c, e = .returned v ∧ Reads E v c ∧ Below w0.heap.size w0 V1 ∧
      Calls Tryd.prog 16 #[.pointer (some ⟨X, 0, none⟩)] V1 fun e2 V2 => BothP w0 V1 D R X T cT (i + 1) e2 (.int .i64 c) V2 := by
  have hEV := h.errs hE
  cases off with
  | true =>
    refine (sync_off E hEV h.d).mono ?_
    rintro e V1 ⟨rfl, hb⟩
    have h1 := h.below hb
    refine ⟨_, _, rfl, reads_0, h1.b, (dsync_off h1.x).mono ?_⟩
    rintro e V2 ⟨rfl, rfl⟩
    exact ⟨rfl, Turn.of_below (Below.refl _ _), _, _, _, _, h1.mono⟩
  | false =>
    by_cases h0 : fuse = 0
    · subst h0
      refine (sync_fail E hEV h.d).mono ?_
      rintro e V1 ⟨rfl, hd, ht⟩
      obtain ⟨hx, nX, nT, hb1, _⟩ := h.mid (pv' := pv) (ss' := ss) hd (ht.mono fun q hq => .inl hq) (fresh_refl _ _) rfl
      refine ⟨_, _, rfl, reads_0, hb1, (dsync_fail hx).mono ?_⟩
      rintro e V2 ⟨rfl, hx2, ht2⟩
      have ht2' := ht2.mono (G := fun q => q = X ∨ q = T) fun q hq => .inl hq
      exact ⟨rfl, ht2', _, _, _, _, (BothS.fin nX nT hb1 hd hx2 ht2' h.pl).mono⟩
    · refine (sync_ok E hEV h.d h0).mono ?_
      rintro e V1 ⟨rfl, pv1, hd, ht, hl⟩
      obtain ⟨hx, nX, nT, hb1, _⟩ := h.mid hd (ht.mono fun q hq => foot_D hq) (fresh_less _ hl) (by simp)
      refine ⟨_, _, rfl, reads_nil, hb1, (dsync_ok hx h0).mono ?_⟩
      rintro e V2 ⟨rfl, hx2, ht2⟩
      rw [← allS_sync, ← drawF_burnL] at hx2
      exact ⟨rfl, ht2, _, _, _, _, (BothS.fin nX nT hb1 hd hx2 ht2 (pend_sync ss i)).mono⟩
theorem fuse_both (h : BothS w0 V D R X T cT ss pv off fuse i) (x : Int) (hx : x ≤ 9223372036854775807) :
    Calls Tryd.prog 17 #[.pointer (some ⟨D, 0, none⟩), .int .i64 x] V fun e V1 => e = .returned (.tuple #[]) ∧ Turn (DFoot D R ss pv) V V1 ∧
      Calls Tryd.prog 18 #[.pointer (some ⟨X, 0, none⟩), .int .i64 x] V1 fun e2 V2 => BothP w0 V1 D R X T cT (i + 1) e2 (.tuple #[]) V2 := by
  refine (fuse_any h.d x hx).mono ?_
  rintro e V1 ⟨rfl, hd, ht⟩
  have ht' := ht.mono (G := DFoot D R ss pv) fun q hq => .inl hq
  obtain ⟨hx1, nX, nT, hb1, _⟩ := h.mid (pv' := pv) (ss' := ss) hd ht' (fresh_refl _ _) rfl
  refine ⟨rfl, ht', (dfuse_any hx1 x hx).mono ?_⟩
  rintro e V2 ⟨rfl, hx2, ht2⟩
  have ht2' := ht2.mono (G := fun q => q = X ∨ q = T) fun q hq => .inl hq
  exact ⟨rfl, ht2', _, _, _, _, (BothS.fin nX nT hb1 hd hx2 ht2' h.pl).mono⟩
theorem pend_crash (keep : List Int) : ∀ s ∈ (crashTo ss keep ss.length).1, s.pend.length ≤ i := fun s hs => by
  obtain ⟨q, hq, e⟩ := List.getElem_of_mem hs
  rw [crashTo_len] at hq
  obtain ⟨j, _, e2⟩ := crash_each ss keep ss.length q hq ss[q] (List.getElem?_eq_getElem hq)
  rw [List.getElem?_eq_getElem (by rw [crashTo_len]; exact hq), e] at e2
  cases e2
  exact Nat.zero_le _
theorem crash_bothV (h : BothS w0 V D R X T cT ss pv off fuse i) (hi : i ≤ 60) (keep : List Int) (A : Option Addr) (ck : Nat) (hl : SlRead V A (ints .i64 keep)) (hlo : 0 < keep.length → ∀ a, A = some a → a.block < w0.heap.size) (hck : keep.length ≤ ck) (hkx : ∀ x ∈ keep, x ≤ 9223372036854775807) :
    Calls Tryd.prog 19 #[.pointer (some ⟨D, 0, none⟩), .slice A keep.length ck] V fun e V1 => e = .returned (.tuple #[]) ∧ Turn (DFoot D R ss pv) V V1 ∧
      Calls Tryd.prog 20 #[.pointer (some ⟨X, 0, none⟩), .slice A keep.length ck] V1 fun e2 V2 => BothP w0 V1 D R X T cT (i + 1) e2 (.tuple #[]) V2 := by
  have hkeep : KeepAt V R keep (.slice A keep.length ck) := ⟨A, ck, rfl, hck, hkx, fun hne => by
    have hp := List.length_pos_iff.2 hne
    obtain ⟨b, o, e, hb, hc⟩ := hl (by simpa using hp)
    have := hlo hp _ e
    exact ⟨b, o, e, by have := h.d.low.2; simp at *; omega, hb, hc⟩⟩
  refine (crash_any h.d keep _ hkeep (fun s hs => Nat.le_trans (h.pl s hs) (by omega))).mono ?_
  rintro e V1 ⟨rfl, pv1, hd, ht, hls⟩
  obtain ⟨hx, nX, nT, hb1, _⟩ := h.mid hd (ht.mono fun q hq => foot_D hq) (fresh_less _ hls) (crashTo_len _ _ _)
  have hl1 : SlRead V1 A (ints .i64 keep) := hl.turnM ht (fun hp a ha e => by
    have h1 := hlo (by simpa using hp) a ha
    have h2 := h.d.low
    rcases e with e | e <;> omega)
  refine ⟨rfl, ht.mono fun q hq => foot_D hq, (dcrash_any hx keep A ck hl1 (fun hp a ha => ?_) hkx).mono ?_⟩
  · have h1 := hlo hp a ha
    have h2 := hx.low
    exact ⟨by omega, by omega⟩
  rintro e V2 ⟨rfl, hx2, ht2⟩
  rw [allS_len, ← (crash_both ss keep ss.length).1] at hx2
  exact ⟨rfl, ht2, _, _, _, _, (BothS.fin nX nT hb1 hd hx2 ht2 (pend_crash keep)).mono⟩
theorem read_both (hE : ErrsAt E w0) (h : BothS w0 V D R X T cT ss pv off fuse i) (x : Int) :
    Calls Tryd.prog 21 #[.pointer (some ⟨D, 0, none⟩), .int .i64 x] V fun e V1 => ∃ A k l v c, e = .returned (.tuple #[.slice A l.length k, v]) ∧ Reads E v c ∧ l.length ≤ 128 ∧ SlRead V1 A (ints .u8 l) ∧ Below V.heap.size V V1 ∧
      Calls Tryd.prog 22 #[.pointer (some ⟨X, 0, none⟩), .int .i64 x] V1 fun e2 V2 => ∃ A2 k2, e2 = .returned (.tuple #[.slice A2 l.length k2, .int .i64 c]) ∧ SlRead V2 A2 (ints .u8 l) ∧ Below V1.heap.size V1 V2 := by
  have hEV := h.errs hE
  cases off with
  | true =>
    refine (read_off E hEV h.d x).mono ?_
    rintro e V1 ⟨rfl, hb⟩
    refine ⟨none, 0, [], _, _, rfl, reads_0, by simp, SlRead.nil_, hb, (dread_off (h.below hb).x x).mono ?_⟩
    rintro e V2 ⟨rfl, rfl⟩
    exact ⟨none, 0, rfl, SlRead.nil_, Below.refl _ _⟩
  | false =>
    by_cases hx : x < 0 ∨ (ss.length : Int) ≤ x
    · refine (read_out E hEV h.d x (by rw [Bool.and_eq_false_iff, decide_eq_false_iff_not, decide_eq_false_iff_not]; omega)).mono ?_
      rintro e V1 ⟨rfl, hb⟩
      refine ⟨none, 0, [], _, _, rfl, reads_1, by simp, SlRead.nil_, hb, (dread_out (h.below hb).x x (by rw [allS_len]; exact hx)).mono ?_⟩
      rintro e V2 ⟨rfl, rfl⟩
      exact ⟨none, 0, rfl, SlRead.nil_, Below.refl _ _⟩
    · obtain ⟨j, rfl⟩ : ∃ j : Nat, x = (j : Int) := ⟨x.toNat, by omega⟩
      have hj : j < ss.length := by omega
      obtain ⟨s, hs⟩ : ∃ s, ss[j]? = some s := ⟨_, List.getElem?_eq_getElem hj⟩
      refine (read_in h.d j s hs).mono ?_
      rintro e V1 ⟨g, rfl, hg, hc, hb⟩
      have hlt : (s.top.map fun b => (b.toNat : Int)).length = 128 := by rw [List.length_map]; exact s.top_len
      have hr := range_new hc
      refine ⟨some ⟨g, 0, none⟩, 128, s.top.map fun b => (b.toNat : Int), _, _, by rw [hlt], reads_nil, by omega, ?_, hb, (dread_in (h.below hb).x j s.all (allS_get ss j s hs) s.top (all_last s)).mono ?_⟩
      · rw [← bcells_ints]
        exact fun hp => ⟨g, 0, rfl, range_lt hr (by rw [bcells_len, s.top_len]; omega), fun q v hq => hr q v hq⟩
      rintro e V2 ⟨v2, rfl, ho, hb2⟩
      obtain ⟨A2, k2, rfl, _⟩ := own_slice ho
      refine ⟨A2, k2, by rw [hlt], ?_, hb2⟩
      rw [← bcells_ints]
      exact SlRead.of_own ho
/-- the row that is written -/
theorem write_both (hE : ErrsAt E w0) {V0 : World} (h0 : BothS w0 V0 D R X T cT ss pv off fuse i) (hi : i ≤ 60) (hb0 : Below V0.heap.size V0 V) (G : Nat) (hG : V0.heap.size ≤ G) (B : List UInt8) (hB : B.length = 128) (hr : V.rangeAt G 0 (bcells B)) (x : Int) (o m c : Nat) (hm : (o = 0 ∧ m = 128 ∧ c = 128) ∨ m ≠ 128) :
    Calls Tryd.prog 13 #[.pointer (some ⟨D, 0, none⟩), .int .i64 x, .slice (some ⟨G, o, none⟩) m c] V fun e V1 => ∃ v cc, e = .returned v ∧ Reads E v cc ∧ Turn (DFoot D R ss pv) V V1 ∧
      Calls Tryd.prog 14 #[.pointer (some ⟨X, 0, none⟩), .int .i64 x, .slice (some ⟨G, o, none⟩) m c] V1 fun e2 V2 => BothP w0 V1 D R X T cT (i + 1) e2 (.int .i64 cc) V2 := by
  have h := h0.below hb0
  have hEV := h.errs hE
  have hGl : G < V.heap.size := range_lt hr (by rw [bcells_len]; omega)
  have hGF : ¬ DFoot D R ss pv G := fun hh => by have := h0.d.ltF hh; omega
  cases off with
  | true =>
    refine (write_off E hEV h.d x _).mono ?_
    rintro e V1 ⟨rfl, hb⟩
    have h1 := h.below hb
    refine ⟨_, _, rfl, reads_0, Turn.of_below hb, (dwrite_off h1.x x _).mono ?_⟩
    rintro e V2 ⟨rfl, rfl⟩
    exact ⟨rfl, Turn.of_below (Below.refl _ _), _, _, _, _, h1.mono⟩
  | false =>
    by_cases hx : (x < 0 ∨ (ss.length : Int) ≤ x) ∨ m ≠ 128
    · refine (write_out E hEV h.d x _ m c (by rw [Bool.and_eq_false_iff, decide_eq_false_iff_not, decide_eq_false_iff_not]; omega)).mono ?_
      rintro e V1 ⟨rfl, hb⟩
      have h1 := h.below hb
      refine ⟨_, _, rfl, reads_1, Turn.of_below hb, (dwrite_out h1.x x _ m c (by rw [allS_len]; exact hx)).mono ?_⟩
      rintro e V2 ⟨rfl, rfl⟩
      exact ⟨rfl, Turn.of_below (Below.refl _ _), _, _, _, _, h1.mono⟩
    · have hm1 : m = 128 := by omega
      obtain ⟨rfl, rfl, rfl⟩ : o = 0 ∧ m = 128 ∧ c = 128 := hm.resolve_right (by omega)
      obtain ⟨j, rfl⟩ : ∃ j : Nat, x = (j : Int) := ⟨x.toNat, by omega⟩
      have hj : j < ss.length := by omega
      obtain ⟨s, hs⟩ : ∃ s, ss[j]? = some s := ⟨_, List.getElem?_eq_getElem hj⟩
      refine (write_in E w0 hE h.b h.d j s hs B hB G 0 128 hr (fun e => hGF (.inr (.inr ⟨j, hj, e⟩))) (Nat.le_trans (h.pl s (List.mem_of_getElem? hs)) (by omega))).mono ?_
      rintro e V1 ⟨rfl, pv1, hd, ht, hf⟩
      obtain ⟨hx1, nX, nT, hb1, hP⟩ := h.mid hd ht hf (by simp)
      have hr1 := ht.range hr hGl hGF
      have hG1 : G < V1.heap.size := Nat.lt_of_lt_of_le hGl ht.size
      refine ⟨_, if fuse = 0 then 101 else 0, rfl, ?_, ht, (dwrite_in hx1 hP j s.all (allS_get ss j s hs) ?_ (some ⟨G, 0, none⟩) 128 B hB (fun _ => ⟨G, 0, rfl, hG1, hr1⟩)).mono ?_⟩
      · unfold drawV
        split
        · exact reads_0
        · exact reads_nil
      · have := h.pl s (List.mem_of_getElem? hs)
        simp [Sec.all]
        omega
      rintro e V2 ⟨rfl, hx2, ht2⟩
      rw [← allS_add ss j s B hB, ← drawF_burnL, burnG_drawO] at hx2
      exact ⟨rfl, ht2, _, _, _, _, BothS.fin nX nT hb1 hd hx2 ht2 (pend_add h.pl j s hs B hB)⟩
end
end Go.Proofs.YtionjhlllpipjaaDoor
