import Derived.Test.YtegijahkiopncaaDoorMix
import Derived.StillTailTactics
namespace Go.Proofs.YtegijahkiopncaaDoor
open Go.RowKit

theorem wpList_copy_cells {P : Program} {w : World} {ops : Array Oper} {rest : List Oper} {o : Oper} {a : Act} {Q : Exit → Act → World → Prop} (hgd : o.guard = none) (d s : Operand) (dT sT : TypeId)
    (ho : o.op = .call { callee := .builtin .copy, args := #[d, s], argTypes := #[dT, sT] }) (elem : TypeId) (hu : P.underlying dT = some (.slice elem)) (hsz : (P.info? elem).map (·.size) = some 1)
    (g off dLen dCap : Nat) (ad : Addr) (sLen sCap : Nat) (hd : a.eval d = .slice (some ⟨g, off, none⟩) dLen dCap) (hs : a.eval s = .slice (some ad) sLen sCap)
    (cs : List Value) (hn : cs.length = Nat.min sLen dLen)
    (hsrc : ∀ j v, cs[j]? = some v → w.cell? (ad.add j) = some v) (hc : ∀ j, j < cs.length → (w.cell? ⟨g, off + j, none⟩).isSome = true) (hf : ∀ j, j < cs.length → w.frozen? ⟨g, off + j, none⟩ = false) (h1 : ∀ v ∈ cs, v.oneCell' = true)
    (h : wpList P ops Q rest (a.put o.dst (goInt cs.length)) (w.setCells g off cs)) : wpList P ops Q (o :: rest) a w := by
  refine wpList_plain hgd fun K hK => ?_
  have hrun := run_copy_cells (P := P) w dT sT o.type elem g off dLen dCap ad sLen sCap cs hu hsz hn hsrc hc hf h1
  unfold Oper.wp
  simp [execOp, ho, resolve, invoke, builtin, hd, hs, hrun, Result.andThen]
  exact hK _ _ h

/-- a slice's address behind a cut -/
def cutA (A : Option Addr) (l cap : Nat) : Option Addr := if cap = l then A else A.map (·.add l)
theorem slice_sl_l {P : Program} {t e : TypeId} (hu : P.underlying t = some (.slice e)) (hs : (P.info? e).map (·.size) = some 1) (A : Option Addr) (n cap l : Nat) (z : Int) (hz : z = l) (h1 : l ≤ n) (w : World) :
    (Instr.slice t (.slice A n cap) (some (.int .i64 z)) none none).run P w = .ok (.slice (cutA A l cap) (n - l) (cap - l)) w := by
  subst hz
  have e2 : P.elem t = e := by simp [Program.elem, hu]
  rw [run_slice_l (P := P) w t A n cap (by rw [e2]; exact hu) .i64 (l : Int) (by omega) (by omega), e2]
  obtain ⟨i, hi, hz⟩ := Option.map_eq_some_iff.1 hs
  simp [sizeOf, typeInfo, hi, hz, Result.andThen, sliced, cutA]
theorem cutA_some {l cap n b o : Nat} (h : l < n) (hc : n ≤ cap) : cutA (some ⟨b, o, none⟩) l cap = some ⟨b, o + l, none⟩ := by
  unfold cutA
  rw [if_neg (by omega)]
  simp [add_eq]

section
variable {P : Program} {t e : TypeId} {n : Nat}
/-- a slice of an array that lies in the midst of a block, to its end -/
theorem slice_mid_l (hu : P.underlying t = some (.array n e)) (hs : (P.info? e).map (·.size) = some 1) (b o : Nat) (kl : IntKind) (l : Int) (h0 : 0 ≤ l) (h3 : l < n) (w : World) :
    (Instr.sliceAt t (.pointer (some ⟨b, o, none⟩)) (some (.int kl l)) none none).run P w = .ok (.slice (some ⟨b, o + l.toNat, none⟩) (n - l.toNat) (n - l.toNat)) w := by
  have e1 : P.arrayLen t = n := by simp [Program.arrayLen, hu]
  have e2 : P.elem t = e := by simp [Program.elem, hu]
  have := run_sliceAt_array_l (P := P) w t ⟨b, o, none⟩ (by rw [e1, e2]; exact hu) kl l h0 (by rw [e1]; omega)
  rw [this, e1, e2]
  obtain ⟨i, hi, hz⟩ := Option.map_eq_some_iff.1 hs
  have hne : n ≠ l.toNat := by omega
  simp [sizeOf, typeInfo, hi, hz, Result.andThen, slicedAt, hne, Addr.add]
end

/-- bytes as numbers -/
def bys (ys : List (BitVec 8)) : List Int := ys.map fun y => n8 y
@[simp] theorem bys_length (ys : List (BitVec 8)) : (bys ys).length = ys.length := by simp [bys]
theorem bys_drop (ys : List (BitVec 8)) (n : Nat) : (bys ys).drop n = bys (ys.drop n) := by simp [bys, List.map_drop]
theorem bys_ints (ys : List (BitVec 8)) : ints .u8 (bys ys) = ys.map fun y => v8 y := by simp [ints, bys]

/-- a digest in the making -/
structure HSt where
  s : Nat → BitVec 32
  m : Nat → BitVec 8
  u : Nat
def feed1 (h : HSt) (x : BitVec 8) : HSt := if h.u + 1 = 64 then ⟨mixed h.s (updb h.m h.u x), updb h.m h.u x, 0⟩ else ⟨h.s, updb h.m h.u x, h.u + 1⟩
def feeds (h : HSt) (xs : List (BitVec 8)) : HSt := xs.foldl feed1 h
def updbs (m : Nat → BitVec 8) (u : Nat) : List (BitVec 8) → Nat → BitVec 8
  | [] => m
  | x :: r => updbs (updb m u x) (u + 1) r
theorem feeds_cons (h : HSt) (x : BitVec 8) (r : List (BitVec 8)) : feeds h (x :: r) = feeds (feed1 h x) r := rfl
theorem feeds_append (h : HSt) (xs ys : List (BitVec 8)) : feeds h (xs ++ ys) = feeds (feeds h xs) ys := by simp [feeds]
theorem feeds_short (xs : List (BitVec 8)) : ∀ (h : HSt), h.u + xs.length < 64 → feeds h xs = ⟨h.s, updbs h.m h.u xs, h.u + xs.length⟩ := by
  induction xs with
  | nil => intro h _; rfl
  | cons x r ih =>
    intro h hl
    simp at hl
    have e : feed1 h x = ⟨h.s, updb h.m h.u x, h.u + 1⟩ := by unfold feed1; rw [if_neg (by omega)]
    rw [feeds_cons, e, ih _ (by simp only; omega)]
    simp only [updbs, List.length_cons, HSt.mk.injEq, true_and]
    omega
theorem feeds_full (xs : List (BitVec 8)) : ∀ (h : HSt), h.u + xs.length = 64 → xs ≠ [] → feeds h xs = ⟨mixed h.s (updbs h.m h.u xs), updbs h.m h.u xs, 0⟩ := by
  induction xs with
  | nil => intro h _ hn; exact absurd rfl hn
  | cons x r ih =>
    intro h hl _
    simp at hl
    by_cases hr : r = []
    · subst hr
      simp at hl
      have e : feed1 h x = ⟨mixed h.s (updb h.m h.u x), updb h.m h.u x, 0⟩ := by unfold feed1; rw [if_pos (by omega)]
      rw [feeds_cons, e]; rfl
    · have hpos : 0 < r.length := by cases r <;> simp_all
      have e : feed1 h x = ⟨h.s, updb h.m h.u x, h.u + 1⟩ := by unfold feed1; rw [if_neg (by omega)]
      rw [feeds_cons, e, ih _ (by simp only; omega) hr]
      rfl
theorem feeds_u (xs : List (BitVec 8)) : ∀ (h : HSt), h.u < 64 → (feeds h xs).u < 64 := by
  induction xs with
  | nil => intro h hu; exact hu
  | cons x r ih =>
    intro h hu
    rw [feeds_cons]
    refine ih _ ?_
    unfold feed1
    split <;> simp only <;> omega

theorem HashR.setCells {b : Nat} {s : Nat → BitVec 32} {us tt : Int} : ∀ (xs : List (BitVec 8)) {w : World} {m : Nat → BitVec 8} (u : Nat), HashR w b s m us tt → u + xs.length ≤ 64 → HashR (w.setCells b (8 + u) (xs.map fun y => v8 y)) b s (updbs m u xs) us tt
  | [], _, _, _, h, _ => h
  | x :: r, w, m, u, h, hl => by
    simp at hl
    exact HashR.setCells r (u + 1) (h.setM u (by omega) x) (by omega)
theorem Only.setCells {g : Nat} {w : World} : ∀ (vs : List Value) (o : Nat) {w' : World}, Only g w w' → Only g w (w'.setCells g o vs)
  | [], _, _, h => h
  | v :: r, o, _, h => Only.setCells r (o + 1) (h.setCell o v)
theorem Only.cell {g : Nat} {w w' : World} (h : Only g w w') {b o : Nat} (hb : b < w.heap.size) (hne : b ≠ g) : w'.cell? ⟨b, o, none⟩ = w.cell? ⟨b, o, none⟩ :=
  World.cell?_of_block (h.block b hb hne)

theorem SlRead.cut {w : World} {A : Option Addr} {xs : List Int} {k : IntKind} (h : SlRead w A (ints k xs)) (c : Nat) (A' : Option Addr) (hA : c < xs.length → ∀ b o, A = some ⟨b, o, none⟩ → A' = some ⟨b, o + c, none⟩) : SlRead w A' (ints k (xs.drop c)) := by
  intro hn
  have hc : c < xs.length := by simp at hn; omega
  obtain ⟨b, o, rfl, hlt, hcell⟩ := h (by simp; omega)
  refine ⟨b, o + c, hA hc b o rfl, hlt, fun j u hu => ?_⟩
  rw [Nat.add_assoc]
  refine hcell (c + j) u ?_
  rw [← hu]
  simp [ints, List.getElem?_drop]

/-- not in that block -/
def OffB (A : Option Addr) (hb : Nat) : Prop := ∀ b o, A = some ⟨b, o, none⟩ → b ≠ hb
theorem SlRead.only {g : Nat} {w w' : World} {A : Option Addr} {xs : List Value} (h : SlRead w A xs) (ho : OffB A g) (hb : Only g w w') : SlRead w' A xs := by
  intro hn
  obtain ⟨b, o, rfl, hlt, hc⟩ := h hn
  exact ⟨b, o, rfl, Nat.lt_of_lt_of_le hlt hb.size, fun j u hu => (hb.cell hlt (ho b o rfl)).trans (hc j u hu)⟩

set_option maxRecDepth 100000 in
set_option maxHeartbeats 1600000 in
theorem write_any (hb : Nat) (h : HSt) (tt : Int) (A : Option Addr) (ys : List (BitVec 8)) (cap : Nat) (w : World) (hh : HashR w hb h.s h.m h.u tt) (hu : h.u < 64)
    (hk : KAt w) (hne : hb ≠ 7) (hA : SlRead w A (ints .u8 (bys ys))) (hO : 0 < ys.length → OffB A hb) (hcap : ys.length ≤ cap) (hlen : ys.length ≤ 4611686018427387904) :
    Calls Tryd.prog 41 #[.pointer (some ⟨hb, 0, none⟩), .slice A ys.length cap] w fun e w' => e = .returned (.tuple #[]) ∧ HashR w' hb (feeds h ys).s (feeds h ys).m (feeds h ys).u ((tt + ys.length) % 18446744073709551616) ∧ Only hb w w' := by
  have hblw := hh.lt
  have c3 := hh.t_
  have fz := hh.frozen 73
  have ht1 := hh.setT ((tt + ys.length) % 18446744073709551616)
  go_enter Tryd.func41, Tryd.ntmps41
  go_wp2_with fail
  refine wp_world (fun W => HashR W hb h.s h.m h.u ((tt + ys.length) % 18446744073709551616) ∧ Only hb w W) ⟨ht1, (Only.refl hb w).setCell _ _⟩ ?_
  rintro W ⟨hW, hon⟩
  clear ht1 fz c3 hh
  generalize hT : (tt + (ys.length : Int)) % 18446744073709551616 = T at *
  have HT := Lib.hid hT; clear hT
  go_loopw [1] (fun b wr => ∃ (k : Nat) (A' : Option Addr) (c' : Nat), k ≤ ys.length ∧ b = .slice A' (ys.length - k) c' ∧ ys.length - k ≤ c' ∧ SlRead w A' (ints .u8 (bys (ys.drop k))) ∧ (0 < ys.length → OffB A' hb) ∧ HashR wr hb (feeds h (ys.take k)).s (feeds h (ys.take k)).m (feeds h (ys.take k)).u T ∧ Only hb w wr) (fun b _ => match b with | .slice _ n _ => n | _ => 0)
  case atStart => exact ⟨0, A, cap, by omega, rfl, by omega, by simpa using hA, hO, by simpa [feeds] using hW, hon⟩
  clear hW hon hA hO
  case round =>
    obtain ⟨k, A', c', hk1, rfl, hc', hA, hO, hW, hon⟩ := hrel
    by_cases hlt : k < ys.length
    · have hHu := feeds_u (ys.take k) h hu
      generalize hH : feeds h (ys.take k) = H at *
      obtain ⟨n, hn⟩ : ∃ n, n = Nat.min (ys.length - k) (64 - H.u) := ⟨_, rfl⟩
      have hn1 : 0 < n ∧ n ≤ ys.length - k ∧ n ≤ 64 - H.u := by
        rw [hn]
        refine ⟨Nat.lt_min.2 ⟨by omega, by omega⟩, Nat.min_le_left _ _, Nat.min_le_right _ _⟩
      obtain ⟨cs, hcs⟩ : ∃ cs, cs = (ys.drop k).take n := ⟨_, rfl⟩
      have hcl : cs.length = n := by rw [hcs]; simp; omega
      have hnext : feeds h (ys.take (k + n)) = feeds H cs := by
        rw [← hH, ← feeds_append, hcs, List.take_add]
      obtain ⟨b, o, rfl, hblt, hcell⟩ := hA (by simp; omega)
      have hbne := hO (by omega) b o rfl
      have hsrc : ∀ (W : World), Only hb w W → ∀ j v, (cs.map fun y => v8 y)[j]? = some v → W.cell? ((⟨b, o, none⟩ : Addr).add j) = some v := by
        intro W hW j v hv
        rw [add_eq, hW.cell hblt hbne]
        refine hcell j v ?_
        rw [bys_ints, ← hv, hcs]
        have hj : j < n := by
          have := (List.getElem?_eq_some_iff.1 hv).1
          rw [List.length_map, hcl] at this
          exact this
        simp only [List.getElem?_map, List.getElem?_take]
        rw [if_pos hj]
      generalize hL : ys.length - k = L at *
      have HCS := Lib.hid hcs; clear hcs
      have HN := Lib.hid hn; clear hn
      have hL0 : (0 : Int) < (L : Int) := by omega
      have cu := hW.u_
      have hsl := slice_mid_l (P := Tryd.prog) Tryd.underlying81 (show (Tryd.prog.info? 5).map (·.size) = some 1 by kernel_rfl) hb 8 .i64 (H.u : Int) (by omega) (by omega)
      rw [show (H.u : Int).toNat = H.u by omega] at hsl
      have hHu0 : (0 : Int) ≤ (H.u : Int) := by omega
      go_wp2_with fail
      refine wp_region_still_tail 9 (by kernel_rfl) (by kernel_rfl) ?_
      simp only [List.take_succ_cons, List.take_zero, List.drop_succ_cons, List.drop_zero]
      repeat still_step
      refine wpStill_nil ?_
      refine wpList_copy_cells rfl (.tmp 25) (.tmp 26) 24 24 rfl 5 Tryd.underlying24 (by kernel_rfl) hb (8 + H.u) (64 - H.u) (64 - H.u) ⟨b, o, none⟩ L c' rfl rfl (cs.map fun y => v8 y) (by rw [List.length_map, hcl, HN.out]) (hsrc _ (hon.trans (Only.drewN 1))) ?c1 ?c2 ?c3 ?_
      case c1 =>
        intro j hj
        rw [List.length_map, hcl] at hj
        have := hW.m_ (H.u + j) (by omega)
        rw [← Nat.add_assoc] at this
        exact Option.isSome_of_eq_some this
      case c2 => exact fun j _ => hW.frozen _
      case c3 =>
        intro v hv
        obtain ⟨x, _, rfl⟩ := List.mem_map.1 hv
        rfl
      have hset := HashR.setCells (w := wr.drew) cs H.u hW (by omega)
      have hon2 := Only.setCells (w' := wr.drew) (cs.map fun y => v8 y) (8 + H.u) (hon.trans (Only.drewN 1))
      rw [List.length_map, hcl]
      go_upto_region 3 with (fail)
      refine wp_world (fun W => HashR W hb H.s (updbs H.m H.u cs) H.u T ∧ Only hb w W) ⟨hset, hon2⟩ ?_
      rintro W2 ⟨hW2, hon3⟩
      clear hset hon2 hW hon cu
      have cu := hW2.u_
      have fz := hW2.frozen 72
      have hset := hW2.setU ((H.u + n : Nat) : Int)
      have hon2 := hon3.setCell 72 (.int .i64 ((H.u + n : Nat) : Int))
      have hun : (H.u : Int) + (n : Int) = ((H.u + n : Nat) : Int) := by omega
      generalize hq : H.u + n = q at *
      have hsl2 := slice_sl_l (P := Tryd.prog) Tryd.underlying24 (show (Tryd.prog.info? 5).map (·.size) = some 1 by kernel_rfl) (some ⟨b, o, none⟩) L c' n (n : Int) rfl (by omega)
      go_upto_region 5 with (fail)
      refine wp_world (fun W => HashR W hb H.s (updbs H.m H.u cs) (q : Nat) T ∧ Only hb w W) ⟨hset, hon2⟩ ?_
      clear hset hon2 fz cu hW2 hon3 W2 hcell
      rintro W ⟨hW, hon⟩
      have cu := hW.u_
      have hA2 : SlRead w (cutA (some ⟨b, o, none⟩) n c') (ints .u8 (bys (ys.drop (k + n)))) := by
        rw [← List.drop_drop, ← bys_drop]
        refine SlRead.cut hA n _ fun hc b' o' e => ?_
        obtain ⟨rfl, rfl⟩ : b = b' ∧ o = o' := by simpa using e
        exact cutA_some hc (by simp; omega)
      have hO2 : OffB (cutA (some ⟨b, o, none⟩) n c') hb := by
        intro b' o' e
        unfold cutA at e
        split at e
        · exact hO (by omega) b' o' e
        · simp [add_eq] at e
          rw [← e.1]; exact hbne
      by_cases h64 : q = 64
      · subst h64
        have hkW := hon.kat hk hne
        go_wp2_with fail
        refine (mix_any hb H.s (updbs H.m H.u cs) (64 : Nat) T W hW (Nat.lt_of_lt_of_le hblw hon.size) hkW).mono ?_
        rintro e W3 ⟨rfl, hW3, hon3⟩
        have fz := hW3.frozen 72
        have cu3 := hW3.u_
        have hset := hW3.setU 0
        have hon2 := (hon.trans hon3).setCell 72 (.int .i64 0)
        clear hW hW3 hon hon3 cu
        go_wp2_with fail
        go_roundw
        case rel =>
          refine ⟨k + n, _, _, by omega, by rw [show L - n = ys.length - (k + n) by omega], by omega, hA2, fun _ => hO2, ?_, hon2⟩
          rw [hnext, feeds_full cs H (by omega) (by intro e; rw [e] at hcl; simp at hcl; omega)]
          exact hset
        case measure => simp only; omega
      · have h64b : ((q : Int) == 64) = false := by simp; omega
        go_wp2_with fail
        go_roundw
        case rel =>
          refine ⟨k + n, _, _, by omega, by rw [show L - n = ys.length - (k + n) by omega], by omega, hA2, fun _ => hO2, ?_, hon⟩
          rw [hnext, feeds_short cs H (by omega), hcl, hq]
          exact hW
        case measure => simp only; omega
    · have hk2 : k = ys.length := by omega
      subst hk2
      rw [List.take_length] at hW
      have hL0 : ys.length - ys.length = 0 := by omega
      go_wp2_with fail
      go_end0
      rw [HT.out]
      exact ⟨rfl, hW, hon⟩
end Go.Proofs.YtegijahkiopncaaDoor
