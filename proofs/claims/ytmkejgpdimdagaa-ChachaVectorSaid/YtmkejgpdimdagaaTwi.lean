import Derived.Test.YtmkejgpdimdagaaApa
import Derived.StillTailTactics
namespace Go.Proofs.Ytmkejgpdimdagaa
open Go.RowKit

theorem wpList_load_row_g {P : Program} {ops : Array Oper} {rest : List Oper} {o : Oper} {a : Act} {w : World} {Q : Exit → Act → World → Prop} (hw : Region.wanted o (yielded ops a.tmps) = true) (ty : TypeId) (x : Operand) (ho : o.op = .load ty x)
    (g : Nat) (hx : a.eval x = .pointer (some ⟨g, 0, none⟩)) (t : TypeId) (cs : Array Value) (fr : Nat × Nat) (d : TypeDesc) (hg : w.heap[g]? = some (.cells cs t fr))
    (hu : P.underlying ty = some d) (hd : (match d with | .struct _ | .array _ _ => true | _ => false) = true) (hi : (P.info? ty).map (·.size) = some cs.size)
    (h : wpList P ops Q rest (a.put o.dst (.agg cs)) w) : wpList P ops Q (o :: rest) a w :=
  BigFrame.wpList_want hw fun _ hK => wp_load_row ty x ho g hx t cs fr d hg hu hd hi (hK _ _ h)

theorem wpStill_load_row {P : Program} {ops : Array Oper} {rest : List Oper} {o : Oper} {a : Act} {w : World} {Q : Act → Prop} (hgd : o.guard = none) (ty : TypeId) (x : Operand) (ho : o.op = .load ty x)
    (g : Nat) (hx : a.eval x = .pointer (some ⟨g, 0, none⟩)) (t : TypeId) (cs : Array Value) (fr : Nat × Nat) (d : TypeDesc) (hg : w.heap[g]? = some (.cells cs t fr))
    (hu : P.underlying ty = some d) (hd : (match d with | .struct _ | .array _ _ => true | _ => false) = true) (hi : (P.info? ty).map (·.size) = some cs.size)
    (h : wpStill P ops w Q rest (a.put o.dst (.agg cs))) : wpStill P ops w Q (o :: rest) a := by
  refine wpStill_step fun K hK => ?_
  simp only [Region.wanted, hgd, if_true]
  unfold Oper.still execOp
  simp only [ho, hx, Instr.loadAt, Instr.sureAddr, Sem.run_bind, Sem.run_pure, Result.andThen_ok, run_loadVar_row w g t ty cs fr d hg hu hd hi]
  exact ⟨rfl, hK _ h⟩

/-- a slice's address behind a cut -/
def cutA (A : Option Addr) (l cap : Nat) : Option Addr := if cap = l then A else A.map (·.add l)
theorem slice_sl_l {P : Program} {t e : TypeId} (hu : P.underlying t = some (.slice e)) (hs : (P.info? e).map (·.size) = some 1) (A : Option Addr) (n cap l : Nat) (z : Int) (hz : z = l) (h1 : l ≤ n) (w : World) :
    (Instr.slice t (.slice A n cap) (some (.int .i64 z)) none none).run P w = .ok (.slice (cutA A l cap) (n - l) (cap - l)) w := by
  subst hz
  have e2 : P.elem t = e := by simp [Program.elem, hu]
  rw [run_slice_l (P := P) w t A n cap (by rw [e2]; exact hu) .i64 (l : Int) (by omega) (by omega), e2]
  obtain ⟨i, hi, hz⟩ := Option.map_eq_some_iff.1 hs
  simp [sizeOf, typeInfo, hi, hz, Result.andThen, sliced, cutA]
theorem cutA_some {l cap n b o : Nat} (h : l < n) (hc : n ≤ cap) : cutA (some ⟨b, o, none⟩) l cap = some ⟨b, o + l, none⟩ := by
  unfold cutA
  rw [if_neg (by omega)]
  simp [add_eq]

theorem xor8_back (a c : Int) (ha : 0 ≤ a ∧ a < 256) (hc : 0 ≤ c ∧ c < 256) : bits .xor .u8 (bits .xor .u8 a c) c = a := by
  have h1 : 0 ≤ bits .xor .u8 a c ∧ bits .xor .u8 a c < 256 ∧ (bits .xor .u8 a c).toNat = a.toNat ^^^ c.toNat := by
    rw [u8_xor a c ha.1 ha.2 hc.1 hc.2]
    have : a.toNat ^^^ c.toNat < 2 ^ 8 := Nat.xor_lt_two_pow (by omega) (by omega)
    refine ⟨by omega, by omega, by omega⟩
  rw [u8_xor _ _ h1.1 h1.2.1 hc.1 hc.2, h1.2.2, Nat.xor_assoc, Nat.xor_self, Nat.xor_zero]
  omega

/-- all bytes under the stream -/
def xrs (key : Nat → BitVec 8) (ct : BitVec 32) (non : Nat → BitVec 8) (xs : List Int) : List Int := (List.range xs.length).map (xr key ct non xs)
theorem xrs_length (key : Nat → BitVec 8) (ct : BitVec 32) (non : Nat → BitVec 8) (xs : List Int) : (xrs key ct non xs).length = xs.length := by simp [xrs]
theorem xrs_get (key : Nat → BitVec 8) (ct : BitVec 32) (non : Nat → BitVec 8) (xs : List Int) (i : Nat) (h : i < xs.length) : (xrs key ct non xs).getD i 0 = xr key ct non xs i := by simp [xrs, h]
theorem xrs_twice (key : Nat → BitVec 8) (ct : BitVec 32) (non : Nat → BitVec 8) (xs : List Int) (hx : ∀ x ∈ xs, 0 ≤ x ∧ x < 256) : xrs key ct non (xrs key ct non xs) = xs := by
  apply List.ext_getElem
  · simp [xrs]
  · intro i h1 h2
    have hxi := hx _ (List.getElem_mem h2)
    have e1 : xr key ct non (xrs key ct non xs) i = xs[i] := by
      unfold xr
      rw [xrs_get key ct non xs i h2]
      unfold xr
      rw [xor8_back _ _ (by simpa [h2] using hxi) ⟨n8_lo _, n8_hi _⟩]
      simp [h2]
    simp [xrs] at h1 ⊢
    exact e1
theorem xrs_cut (key : Nat → BitVec 8) (ct : BitVec 32) (non : Nat → BitVec 8) (xs : List Int) (q : Nat) : (xrs key ct non xs).drop (64 * q) = xrs key (ct + BitVec.ofNat 32 q) non (xs.drop (64 * q)) := by
  apply List.ext_getElem
  · simp [xrs]
  · intro i h1 h2
    simp [xrs]
    unfold xr
    rw [show (64 * q + i) / 64 = q + i / 64 by omega, show (64 * q + i) % 64 = i % 64 by omega, BitVec.add_assoc, ← BitVec.ofNat_add]
    simp

theorem rows_read {w : World} {O n : Nat} {f : Nat → Int} {t : TypeId} (h : w.rowIs O t n (fun i => .int .u8 (f i))) : SlRead w (some ⟨O, 0, none⟩) (ints .u8 ((List.range n).map f)) := by
  intro _
  refine ⟨O, 0, rfl, h.lt, fun j u hu => ?_⟩
  have hj : j < n := by
    have := (List.getElem?_eq_some_iff.1 hu).1
    simpa using this
  have hc := h.cell hj
  rw [Nat.zero_add, hc, ← hu]
  simp [ints, hj]

theorem SlRead.cut {w : World} {A : Option Addr} {xs : List Int} {k : IntKind} (h : SlRead w A (ints k xs)) (c : Nat) (A' : Option Addr) (hA : c < xs.length → ∀ b o, A = some ⟨b, o, none⟩ → A' = some ⟨b, o + c, none⟩) : SlRead w A' (ints k (xs.drop c)) := by
  intro hn
  have hc : c < xs.length := by simp at hn; omega
  obtain ⟨b, o, rfl, hlt, hcell⟩ := h (by simp; omega)
  refine ⟨b, o + c, hA hc b o rfl, hlt, fun j u hu => ?_⟩
  rw [Nat.add_assoc]
  refine hcell (c + j) u ?_
  rw [← hu]
  simp [ints, List.getElem?_drop]

set_option maxRecDepth 100000 in
set_option maxHeartbeats 1600000 in
theorem twice_walk (key non : Nat → BitVec 8) (ct : BitVec 32) (A : Option Addr) (xs : List Int) (cap : Nat) (cut : Int) (w : World) (hA : SlRead w A (ints .u8 xs)) (hx : ∀ x ∈ xs, 0 ≤ x ∧ x < 256) (hmax : xs.length ≤ 9223372036854775807) (hcap : xs.length ≤ cap) :
    Calls Try.prog 4 #[.agg (arr8 32 key), v32 ct, .agg (arr8 12 non), .slice A xs.length cap, .int .i64 cut] w fun e w' => e = .returned (.bool true) ∧ Below w.heap.size w w' := by
  go_enter Try.func4, Try.ntmps4
  go_upto_region 1 with (fail)
  refine wp_world (KN w w.heap.size key non) ?_ ?_
  · refine ⟨?_, ?_, ?_⟩
    · exact (rowIs_new _ _ _ _ _ _ (by simp) (by simp) (fun i hi => arr8_get 32 key i hi)).alloc _
    · exact rowIs_new _ _ _ _ _ _ (by simp) (by simp) (fun i hi => arr8_get 12 non i hi)
    · go_grown
  intro W hW
  generalize hB : w.heap.size = B at hW ⊢
  have HB := Lib.hid hB; clear hB
  go_wp2_with fail
  refine (first_any _).mono ?_
  rintro e W1 ⟨rfl, hb1⟩
  have hW1 := hW.below hb1
  clear hW hb1
  by_cases hbig : 300 < xs.length
  · have hfin := hW1.b
    go_wp2_with fail
    go_ret
    exact ⟨rfl, by rw [HB.out]; exact hfin⟩
  have hA1 := hA.below (by rw [HB.out]; exact hW1.b)
  go_wp2_with fail
  refine (bytes_any A xs _ _ hA1 (by omega)).mono ?_
  rintro e W2 ⟨v, rfl, hown, hb2⟩
  have hW2 := hW1.below hb2
  obtain ⟨gA, cap2, hv⟩ : ∃ gA cap2, v = .slice gA xs.length cap2 := by
    rcases hown.2 with ⟨h1, h2⟩ | ⟨g, c, _, h1, _⟩
    · exact ⟨none, 0, by rw [h1, h2]⟩
    · exact ⟨_, _, h1⟩
  subst hv
  have hwas := SlRead.of_own hown
  have hk2 := rowIs_heap8 hW2.k
  have hn2 := rowIs_heap8 hW2.nn
  have hA2 := hA1.below hb2
  clear hA1 hown hW1 hb2
  go_upto_region 8 with (first | (refine wpList_load_row rfl 23 _ rfl _ rfl _ _ _ _ hk2 Try.underlying23 rfl (by kernel_rfl) ?_) | (refine wpList_load_row rfl 25 _ rfl _ rfl _ _ _ _ hn2 Try.underlying25 rfl (by kernel_rfl) ?_) | (go_at_call 12; refine (xor_any key non ct A xs cap _ hA2 (by omega)).mono ?_; rintro e W3 ⟨O1, rfl, ho1, hO1, hb3⟩))
  have hW3 := hW2.below hb3
  have hA3 := hA2.below hb3
  have hwas3 := hwas.below hb3
  have hx1 : SlRead W3 (some ⟨O1, 0, none⟩) (ints .u8 (xrs key ct non xs)) := rows_read ho1
  have hl1 := xrs_length key ct non xs
  have ht := xrs_twice key ct non xs hx
  have hcut := xrs_cut key ct non xs
  have hx2 := xor_any key non ct (some ⟨O1, 0, none⟩) (xrs key ct non xs) xs.length W3 hx1 (by rw [hl1]; omega)
  rw [hl1] at hx2
  have HH := Lib.hid (And.intro hl1 (And.intro ht hcut)); clear hl1 ht hcut ho1 hW2 hwas hA2 hk2 hn2 hb3
  have hk3 := rowIs_heap8 hW3.k
  have hn3 := rowIs_heap8 hW3.nn
  go_upto_region 10 with (first | (refine wpList_load_row_g rfl 23 _ rfl _ rfl _ _ _ _ hk3 Try.underlying23 rfl (by kernel_rfl) ?_) | (refine wpList_load_row_g rfl 25 _ rfl _ rfl _ _ _ _ hn3 Try.underlying25 rfl (by kernel_rfl) ?_))
  refine hx2.mono ?_
  rintro e W4 ⟨O2, rfl, ho2, hO2, hb4⟩
  have hW4 := hW3.below hb4
  have hA4 := hA3.below hb4
  have hwas4 := hwas3.below hb4
  have hx14 := hx1.below hb4
  have h2 : SlRead W4 (some ⟨O2, 0, none⟩) (ints .u8 xs) := by
    have := rows_read ho2
    have e : (List.range xs.length).map (xr key ct non (xrs key ct non xs)) = xs := by
      have h := HH.out.2.1
      unfold xrs at h
      rw [show (List.map (xr key ct non xs) (List.range xs.length)).length = xs.length by simp] at h
      exact h
    rwa [e] at this
  clear hx2 hk3 hn3 hW3 hA3 hwas3 hx1 ho2 hb4
  have hsame1 := sameBytes_any (some ⟨O2, 0, none⟩) A xs xs xs.length cap W4 h2 hA4 (by omega) (by omega)
  rw [show decide (xs = xs) = true by simp] at hsame1
  go_wp2_with fail
  refine hsame1.mono ?_
  rintro e W5 ⟨rfl, m5, rfl⟩
  have hsame2 := sameBytes_any A gA xs xs cap cap2 (W4.drewN m5) hA4 hwas4 (by omega) (by omega)
  rw [show decide (xs = xs) = true by simp] at hsame2
  go_wp2_with fail
  refine hsame2.mono ?_
  rintro e W6 ⟨rfl, m6, rfl⟩
  clear hsame1 hsame2 h2 hwas4
  obtain ⟨q0, hq0, hq6⟩ := exists_mod cut 6 (by omega)
  have HQ0 := Lib.hid hq0; clear hq0
  go_wp2_with fail
  refine (number_nat _ _ q0 _ (by omega) HQ0.out).mono ?_
  rintro e W7 ⟨rfl, m7, rfl⟩
  go_upto_region 11 with (fail)
  obtain ⟨q, hq⟩ : ∃ q : Nat, q = min q0 (xs.length / 64) := ⟨_, rfl⟩
  have hcv : (if (xs.length : Int) / 64 * 64 < 64 * (q0 : Int) then (xs.length : Int) / 64 * 64 else 64 * (q0 : Int)) = 64 * (q : Int) := by
    rw [hq]; split <;> omega
  rw [hcv]
  have hqn : 64 * q ≤ xs.length := by omega
  have hq5 : q ≤ 5 := by omega
  clear hq hcv hq6
  have hW7 : KN w B key non ((W4.drewN (m5 + m6 + m7)).drew) := ⟨hW4.k, hW4.nn, hW4.b.trans ((Below.drewNr _).drew)⟩
  have hk7 := rowIs_heap8 hW7.k
  have hn7 := rowIs_heap8 hW7.nn
  have hdiv : 64 * (q : Int) / 64 = q := by omega
  have hadd : (n32 ct + (q : Int)) % 4294967296 = n32 (ct + BitVec.ofNat 32 q) := by
    have h1 := n32_add ct (BitVec.ofNat 32 q)
    rw [show n32 (BitVec.ofNat 32 q) = (q : Int) from by unfold n32; rw [BitVec.toNat_ofNat]; omega] at h1
    exact h1
  refine wp_region_still_tail 10 (by kernel_rfl) (by kernel_rfl) ?_
  simp only [List.take_succ_cons, List.take_zero, List.drop_succ_cons, List.drop_zero]
  refine wpStill_load_row rfl 23 _ rfl _ rfl _ _ _ _ hk7 Try.underlying23 rfl (by kernel_rfl) ?_
  repeat still_step
  refine wpStill_load_row rfl 25 _ rfl _ rfl _ _ _ _ hn7 Try.underlying25 rfl (by kernel_rfl) ?_
  have hsl := slice_sl_l (P := Try.prog) Try.underlying26 (show (Try.prog.info? 5).map (·.size) = some 1 by kernel_rfl) A xs.length cap (64 * q) (64 * (q : Int)) (by omega) (by omega)
  repeat still_step
  try refine wpStill_nil ?_
  go_wp2_with fail
  rw [hadd]
  have hld : (xs.drop (64 * q)).length = xs.length - 64 * q := by simp
  have hA8 : SlRead W4 (cutA A (64 * q) cap) (ints .u8 (xs.drop (64 * q))) := hA4.cut (64 * q) _ (fun h b o e => by subst e; exact cutA_some h hcap)
  have hx3 := fun W (hW : SlRead W (cutA A (64 * q) cap) (ints .u8 (xs.drop (64 * q)))) => xor_any key non (ct + BitVec.ofNat 32 q) (cutA A (64 * q) cap) (xs.drop (64 * q)) (cap - 64 * q) W hW (by rw [hld]; omega)
  rw [hld] at hx3
  refine (hx3 _ (by exact hA8)).mono ?_
  rintro e W9 ⟨O3, rfl, ho3, hO3, hb9⟩
  have hb49 : Below W4.heap.size W4 W9 := (Below.refl _ W4).trans ⟨hb9.os, hb9.tape, hb9.output, hb9.size, hb9.block⟩
  have hx19 := hx14.below hb49
  have hc1 : SlRead W9 (cutA (some ⟨O1, 0, none⟩) (64 * q) xs.length) (ints .u8 ((xrs key ct non xs).drop (64 * q))) :=
    hx19.cut (64 * q) _ (fun h b o e => by rw [e]; exact cutA_some h (by rw [HH.out.1]; exact Nat.le_refl _))
  rw [HH.out.2.2 q] at hc1
  have hr3 := rows_read ho3
  have e3 : (List.range (xs.length - 64 * q)).map (xr key (ct + BitVec.ofNat 32 q) non (xs.drop (64 * q))) = xrs key (ct + BitVec.ofNat 32 q) non (xs.drop (64 * q)) := by
    unfold xrs; rw [hld]
  rw [e3] at hr3
  have hl3 : (xrs key (ct + BitVec.ofNat 32 q) non (xs.drop (64 * q))).length = xs.length - 64 * q := by rw [xrs_length, hld]
  have hsame3 := sameBytes_any _ _ _ _ (xs.length - 64 * q) (xs.length - 64 * q) W9 hc1 hr3 (by rw [hl3]; omega) (by rw [hl3]; omega)
  rw [show ∀ z : List Int, decide (z = z) = true from fun z => by simp, hl3] at hsame3
  have hfin := hW4.b.trans (hb49.mono (Nat.le_of_lt hW4.k.lt))
  have hsl2 := slice_sl_l (P := Try.prog) Try.underlying26 (show (Try.prog.info? 5).map (·.size) = some 1 by kernel_rfl) (some ⟨O1, 0, none⟩) xs.length xs.length (64 * q) (64 * (q : Int)) (by omega) (by omega)
  clear hx3 hA8 hld ho3 hb9 hb49 hx19 hc1 hr3 e3 hl3 hsl hadd hk7 hn7 hW7
  go_wp2_with fail
  refine hsame3.mono ?_
  rintro e W10 ⟨rfl, m10, rfl⟩
  go_wp2_with fail
  go_ret
  exact ⟨rfl, by rw [HB.out]; exact hfin.trans (Below.drewNr _)⟩
end Go.Proofs.Ytmkejgpdimdagaa
