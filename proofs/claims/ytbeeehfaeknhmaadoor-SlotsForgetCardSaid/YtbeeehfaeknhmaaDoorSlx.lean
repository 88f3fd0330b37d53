import Derived.Test.YtbeeehfaeknhmaaDoorDks
import Derived.Lib.AppendStr
import Derived.Laws.IdiomStrings
import Derived.Test.YtbeeehfaeknhmaaDoorCpy
/-
  slots: a model of the disk, and of what slots do with it.
  slots: the disk's methods by the model.
  slots: words, the head.
  slots: the struct in memory, its head, its place.
  slots: its head.
  slots: what a head tells.
  slots: what a head tells.
  slots: write.
  slots: writeHead, wipe, Save.
  slots: Save.
  slots: wipeRest, Open.
  slots: Open, Load.
-/
namespace Go.Proofs.YtbeeehfaeknhmaaDoor
open Go.RowKit

/-- a sector's bytes -/
structure Blk where
  l : List UInt8
  h : l.length = 128
theorem Blk.ext {a b : Blk} (h : a.l = b.l) : a = b := by cases a; cases b; cases h; rfl
/-- a disk -/
structure DM where
  ss : List Sec
  off : Bool
  fuse : Int
/-- does the next Write, the next Sync fail? -/
def DM.bad (d : DM) : Bool := d.off || decide (d.fuse = 0)
def setS (ss : List Sec) (i : Nat) (B : Blk) : List Sec := match ss[i]? with
  | none => ss
  | some s => ss.set i (s.add B.l B.h)
def DM.wr (d : DM) (i : Nat) (B : Blk) : DM := if d.off then d else ⟨setS d.ss i B, drawO false d.fuse, drawF d.fuse⟩
def DM.sy (d : DM) : DM := if d.off then d else if d.fuse = 0 then ⟨d.ss, true, 0⟩ else ⟨d.ss.map Sec.sync, false, drawF d.fuse⟩
theorem setS_len (ss : List Sec) (i : Nat) (B : Blk) : (setS ss i B).length = ss.length := by unfold setS; split <;> simp
theorem wr_len (d : DM) (i : Nat) (B : Blk) : (d.wr i B).ss.length = d.ss.length := by unfold DM.wr; split <;> simp [setS_len]
theorem sy_len (d : DM) : d.sy.ss.length = d.ss.length := by unfold DM.sy; split; · rfl
                                                             split <;> simp
def PL (d : DM) (k : Nat) : Prop := ∀ s ∈ d.ss, s.pend.length ≤ k
theorem PL.mono {d : DM} {k k' : Nat} (h : PL d k) (hk : k ≤ k') : PL d k' := fun s hs => Nat.le_trans (h s hs) hk
theorem PL.wr {d : DM} {k : Nat} (h : PL d k) (i : Nat) (B : Blk) : PL (d.wr i B) (k + 1) := by
  unfold DM.wr
  split
  · exact h.mono (Nat.le_succ _)
  · intro s hs
    simp only [setS] at hs
    split at hs
    · exact Nat.le_succ_of_le (h s hs)
    · rename_i t ht
      rcases List.mem_or_eq_of_mem_set hs with h1 | h1
      · exact Nat.le_succ_of_le (h s h1)
      · rw [h1]
        have := h t (List.mem_of_getElem? ht)
        show (t.pend ++ [B.l]).length ≤ k + 1
        simp
        omega
theorem PL.sy {d : DM} {k : Nat} (h : PL d k) : PL d.sy k := by
  unfold DM.sy
  split
  · exact h
  · split
    · exact h
    · intro s hs
      obtain ⟨t, _, rfl⟩ := List.mem_map.1 hs
      exact Nat.zero_le _
/-- nil, or the error: no power -/
def ev (E : Nat → Addr) (b : Bool) : Value := if b then errV (E 0) else .nilIface

/-- a slots' struct -/
structure SM where
  saves : Nat
  half : Nat
  size : Nat
def needS (n : Nat) : Nat := (n + 127) / 128
def halfN (N : Nat) : Nat := (N - 1) / 2
def roomN (N : Nat) : Nat := halfN N * 128
def SM.from (m : SM) (N : Nat) : Nat := 1 + m.half * halfN N
def zB : Blk := ⟨List.replicate 128 0, by simp⟩
/-- sector k of a list of bytes -/
def blkOf (b : List UInt8) (k : Nat) : Blk := ⟨(b.drop (128 * k)).take 128 ++ List.replicate (128 - ((b.drop (128 * k)).take 128).length) 0, by
  have : ((b.drop (128 * k)).take 128).length ≤ 128 := by simp; omega
  simp only [List.length_append, List.length_replicate]
  omega⟩
def blks (b : List UInt8) : List Blk := (List.range (needS b.length)).map (blkOf b)
def le4 (n : Nat) : List UInt8 := [UInt8.ofNat (n % 256), UInt8.ofNat (n / 256 % 256), UInt8.ofNat (n / 65536 % 256), UInt8.ofNat (n / 16777216 % 256)]
def headL (m : SM) : List UInt8 := [67, 79, 85, 82] ++ le4 m.saves ++ [UInt8.ofNat m.half] ++ le4 m.size ++ List.replicate 115 0
def headB (m : SM) : Blk := ⟨headL m, by simp [headL, le4]⟩
/-- one behind the other, as long as there is power: did it fail, and the disk -/
def runW (d : DM) (i : Nat) : List Blk → Bool × DM
  | [] => (false, d)
  | B :: bs => if d.bad then (true, d.wr i B) else runW (d.wr i B) (i + 1) bs
def thenSy (r : Bool × DM) : Bool × DM := if r.1 then r else (r.2.bad, r.2.sy)
def writeM (d : DM) (m : SM) (b : List UInt8) : Bool × DM := thenSy (runW d (m.from d.ss.length) (blks b))
def writeHeadM (d : DM) (m : SM) : Bool × DM := thenSy (runW d 0 [headB m])
def wipeM (d : DM) (m : SM) : Bool × DM := if m.size = 0 then (false, d) else writeM d m (List.replicate m.size 0)
def SM.next (m : SM) (n : Nat) : SM := ⟨m.saves + 1, if 0 < m.saves then 1 - m.half else 0, n⟩
/-- Save: the error's number (0: no power, 6: no room), the disk, the struct -/
def saveM (d : DM) (m : SM) (b : List UInt8) : Option Nat × DM × SM :=
  if roomN d.ss.length < b.length ∨ m.saves = 4294967295 then (some 6, d, m)
  else
    let n := m.next b.length
    let r1 := writeM d n b
    if r1.1 then (some 0, r1.2, m) else
    let r2 := writeHeadM r1.2 n
    if r2.1 then (some 0, r2.2, m) else
    let r3 := wipeM r2.2 m
    (if r3.1 then some 0 else none, r3.2, n)
/-- what is read of sector i -/
def DM.top (d : DM) (i : Nat) : List UInt8 := match d.ss[i]? with
  | none => []
  | some s => s.top
def isZ (b : List UInt8) : Bool := b.all (· == 0)
/-- the sectors from i on that are not in use are written with zeros: did it fail, did it write, the disk -/
def wipeRestL (fr to N : Nat) (i : Nat) (d : DM) (wrote : Bool) : Nat → Option Bool × DM
  | 0 => (some wrote, d)
  | k + 1 =>
    if fr ≤ i ∧ i < to then wipeRestL fr to N (i + 1) d wrote k
    else if isZ (d.top i) then wipeRestL fr to N (i + 1) d wrote k
    else if d.bad then (none, d.wr i zB) else wipeRestL fr to N (i + 1) (d.wr i zB) true k
def wipeRestM (d : DM) (m : SM) : Bool × DM :=
  match wipeRestL (m.from d.ss.length) (m.from d.ss.length + needS m.size) d.ss.length 1 d false (d.ss.length - 1) with
  | (none, d') => (true, d')
  | (some false, d') => (false, d')
  | (some true, d') => (d'.bad, d'.sy)
def getW (b : List UInt8) (k : Nat) : Nat := (b.getD k 0).toNat + 256 * (b.getD (k + 1) 0).toNat + 65536 * (b.getD (k + 2) 0).toNat + 16777216 * (b.getD (k + 3) 0).toNat
/-- what the head tells, if it is of the form -/
def readHeadM (N : Nat) (b : List UInt8) : Option SM :=
  if isZ b then some ⟨0, 0, 0⟩
  else
    let m : SM := ⟨getW b 4, (b.getD 8 0).toNat, getW b 9⟩
    if m.saves = 0 ∨ 1 < m.half ∨ roomN N < m.size then none
    else if b = headL m then some m else none
/-- Open: the error's number (0: no power, 7: another form), the struct, the disk -/
def openM (d : DM) : Option Nat × SM × DM :=
  if d.off then (some 0, ⟨0, 0, 0⟩, d)
  else match readHeadM d.ss.length (d.top 0) with
    | none => (some 7, ⟨0, 0, 0⟩, d)
    | some m => let r := wipeRestM d m; (if r.1 then some 0 else none, m, r.2)
/-- Load -/
def loadL (d : DM) (m : SM) : List UInt8 := ((List.range (needS m.size)).flatMap fun k => d.top (m.from d.ss.length + k)).take m.size
theorem foot_len {D R : Nat} {ss ss' : List Sec} {pv : Nat → Value} (h : ss'.length = ss.length) {q : Nat} (hq : ¬ DFoot D R ss pv q) : ¬ DFoot D R ss' pv q := fun hh => hq (by
  rcases hh with e | e | ⟨j, hj, e⟩
  · exact .inl e
  · exact .inr (.inl e)
  · exact .inr (.inr ⟨j, by omega, e⟩))
theorem foot_less {D R : Nat} {ss : List Sec} {pv pv' : Nat → Value} (h : Less pv pv') {q : Nat} (hq : ¬ DFoot D R ss pv q) : ¬ DFoot D R ss pv' q := fun hh => hq (by
  rcases hh with e | e | ⟨j, hj, e⟩
  · exact .inl e
  · exact .inr (.inl e)
  · exact .inr (.inr ⟨j, hj, h j q e⟩))
theorem foot_fresh {D R : Nat} {ss : List Sec} {pv pv' : Nat → Value} {w : World} (h : Fresh w pv pv') {q : Nat} (hl : q < w.heap.size) (hq : ¬ DFoot D R ss pv q) : ¬ DFoot D R ss pv' q := fun hh => hq (by
  rcases hh with e | e | ⟨j, hj, e⟩
  · exact .inl e
  · exact .inr (.inl e)
  · rcases h j q e with e2 | e2
    · exact .inr (.inr ⟨j, hj, e2⟩)
    · omega)
theorem bcells_ints (l : List UInt8) : bcells l = ints .u8 (l.map fun b => (b.toNat : Int)) := by simp [bcells, ints, cellB]
theorem SlRead.turnM {F : Nat → Prop} {w w' : World} {A : Option Addr} {cs : List Value} (h : SlRead w A cs) (ht : Turn F w w') (hA : 0 < cs.length → ∀ a, A = some a → ¬ F a.block) : SlRead w' A cs := fun hn => by
  obtain ⟨b, o, e, hl, hc⟩ := h hn
  exact ⟨b, o, e, Nat.lt_of_lt_of_le hl ht.size, fun j u hj => (ht.cell hl (hA hn _ e)).trans (hc j u hj)⟩
section
variable {w : World} {n D R : Nat} {ss : List Sec} {off : Bool} {fuse : Int} {pv : Nat → Value}
set_option maxRecDepth 100000 in
set_option maxHeartbeats 800000 in
theorem sync_fail (E : Nat → Addr) (hE : ErrD E w) (h : DkS w n D R ss false 0 pv) : Calls Tryd.prog 33 #[.pointer (some ⟨D, 0, none⟩)] w fun e w' =>
    e = .returned (errV (E 0)) ∧ DkS w' n D R ss true 0 pv ∧ Turn (· = D) w w' := by
  have hc := h.offc
  have hdr := draw_any E hE h
  rw [show drawV E 0 = errV (E 0) from if_pos rfl, show drawO false 0 = true from rfl, show drawF 0 = 0 from rfl] at hdr
  clear h hE
  go_enter Tryd.func33, Tryd.ntmps33
  go_wp2_with (go_at_call 55; refine hdr.mono ?_; rintro e wd ⟨rfl, hd, ht⟩; have HD := Lib.hid hd; have HT := Lib.hid ht; clear hd ht)
  go_ret
  exact ⟨rfl, HD.out, HT.out⟩
end
/-- a disk in memory, by the model -/
abbrev DkM (w : World) (n D R : Nat) (d : DM) (pv : Nat → Value) : Prop := DkS w n D R d.ss d.off d.fuse pv
/-- what a method has made of it -/
structure DkT (w w' : World) (n D R : Nat) (d d' : DM) (pv pv' : Nat → Value) : Prop where
  dk : DkM w' n D R d' pv'
  t : Turn (DFoot D R d.ss pv) w w'
  f : Fresh w pv pv'
  l : d'.ss.length = d.ss.length
section
variable {w w' w1 w2 : World} {n D R : Nat} {d d' d1 d2 : DM} {pv pv' pv1 pv2 : Nat → Value}
theorem DkT.refl (h : DkM w n D R d pv) (hb : Below w.heap.size w w') : DkT w w' n D R d d pv pv := ⟨h.below hb, Turn.of_below hb, fun _ _ hq => .inl hq, rfl⟩
theorem foot_back {ss ss' : List Sec} (hf : Fresh w pv pv') (hl : ss'.length = ss.length) {q : Nat} (h : DFoot D R ss' pv' q) : DFoot D R ss pv q ∨ w.heap.size ≤ q := by
  rcases h with h | h | ⟨i, hi, h⟩
  · exact .inl (.inl h)
  · exact .inl (.inr (.inl h))
  · rcases hf i q h with h2 | h2
    · exact .inl (.inr (.inr ⟨i, by omega, h2⟩))
    · exact .inr h2
theorem DkT.trans (h : DkT w w1 n D R d d1 pv pv1) (k : DkT w1 w2 n D R d1 d2 pv1 pv2) : DkT w w2 n D R d d2 pv pv2 :=
  ⟨k.dk, h.t.trans k.t (fun _ hq => foot_back h.f h.l hq), fun j q hq => by
    rcases k.f j q hq with h1 | h1
    · exact h.f j q h1
    · exact .inr (Nat.le_trans h.t.size h1), k.l.trans h.l⟩
theorem DkT.below (h : DkT w w1 n D R d d1 pv pv1) (hb : Below w1.heap.size w1 w2) : DkT w w2 n D R d d1 pv pv1 :=
  ⟨h.dk.below hb, h.t.trans (Turn.of_below (F := fun _ => False) hb) (fun _ hq => hq.elim), h.f, h.l⟩
theorem DkT.ahead (hb : Below w.heap.size w w1) (h0 : DkM w n D R d pv) (k : DkT w1 w2 n D R d d2 pv pv2) : DkT w w2 n D R d d2 pv pv2 := (DkT.refl h0 hb).trans k
/-- what stays apart from the disk -/
theorem DkT.nF (h : DkT w w1 n D R d d1 pv pv1) {q : Nat} (hl : q < w.heap.size) (hq : ¬ DFoot D R d.ss pv q) : ¬ DFoot D R d1.ss pv1 q := foot_len h.l (foot_fresh h.f hl hq)
theorem DkT.base {w0 : World} (h : DkT w w1 w0.heap.size D R d d1 pv pv1) (h0 : DkM w w0.heap.size D R d pv) (hb : Below w0.heap.size w0 w) : Below w0.heap.size w0 w1 := h.t.below hb hb.size (fun _ hq => h0.lowF hq)
theorem bad_off (h : d.off = true) : d.bad = true := by unfold DM.bad; rw [h]; rfl
theorem wr_off (h : d.off = true) (i : Nat) (B : Blk) : d.wr i B = d := by unfold DM.wr; rw [if_pos h]
theorem wr_on (h : d.off = false) (i : Nat) (B : Blk) : d.wr i B = ⟨setS d.ss i B, drawO false d.fuse, drawF d.fuse⟩ := by unfold DM.wr; rw [h]; rfl
theorem sy_off (h : d.off = true) : d.sy = d := by unfold DM.sy; rw [if_pos h]
theorem write_m (E : Nat → Addr) (w0 : World) (hE : ErrD E w0) (hb : Below w0.heap.size w0 w) (h : DkM w w0.heap.size D R d pv) (hp : PL d 1999) (i : Nat) (hi : i < d.ss.length) (B : Blk) (g o c : Nat) (hr : w.rangeAt g o (bcells B.l)) (hg : ¬ DFoot D R d.ss pv g) :
    Calls Tryd.prog 32 #[.pointer (some ⟨D, 0, none⟩), .int .i64 (i : Int), .slice (some ⟨g, o, none⟩) 128 c] w fun e w' => e = .returned (ev E d.bad) ∧ ∃ pv', DkT w w' w0.heap.size D R d (d.wr i B) pv pv' := by
  obtain ⟨ss, off, fuse⟩ := d
  cases off with
  | true =>
    refine (write_off E (hE.below hb) h (i : Int) _).mono ?_
    rintro e w' ⟨rfl, hb'⟩
    refine ⟨?_, pv, ?_⟩
    · rw [bad_off rfl]; rfl
    · rw [wr_off rfl]; exact DkT.refl h hb'
  | false =>
    obtain ⟨s, hs⟩ : ∃ s, ss[i]? = some s := ⟨_, List.getElem?_eq_getElem hi⟩
    refine (write_in E w0 hE hb h i s hs B.l B.h g o c hr (fun e => hg (.inr (.inr ⟨i, hi, e⟩))) (Nat.le_trans (hp s (List.mem_of_getElem? hs)) (by omega))).mono ?_
    rintro e w' ⟨rfl, pv', hd, ht, hf⟩
    refine ⟨?_, pv', ?_⟩
    · unfold ev DM.bad drawV
      simp only [Bool.false_or, decide_eq_true_eq]
    · rw [wr_on rfl]
      have e2 : setS ss i B = ss.set i (s.add B.l B.h) := by unfold setS; rw [hs]
      refine ⟨?_, ht, hf, by simp [e2]⟩
      show DkS w' _ D R (setS ss i B) _ _ pv'
      rw [e2]
      exact hd
theorem sync_m (E : Nat → Addr) (hE : ErrD E w) (h : DkM w n D R d pv) :
    Calls Tryd.prog 33 #[.pointer (some ⟨D, 0, none⟩)] w fun e w' => e = .returned (ev E d.bad) ∧ ∃ pv', DkT w w' n D R d d.sy pv pv' := by
  obtain ⟨ss, off, fuse⟩ := d
  cases off with
  | true =>
    refine (sync_off E hE h).mono ?_
    rintro e w' ⟨rfl, hb'⟩
    refine ⟨?_, pv, ?_⟩
    · rw [bad_off rfl]; rfl
    · rw [sy_off rfl]; exact DkT.refl h hb'
  | false =>
    by_cases h0 : fuse = 0
    · subst h0
      refine (sync_fail E hE h).mono ?_
      rintro e w' ⟨rfl, hd, ht⟩
      exact ⟨rfl, pv, hd, ht.mono fun q hq => .inl hq, fun _ _ hq => .inl hq, rfl⟩
    · refine (sync_ok E hE h h0).mono ?_
      rintro e w' ⟨rfl, pv', hd, ht, hl⟩
      have es : (DM.mk ss false fuse).sy = ⟨ss.map Sec.sync, false, drawF fuse⟩ := by unfold DM.sy; simp [h0]
      refine ⟨?_, pv', ?_⟩
      · unfold ev DM.bad; simp [h0]
      · rw [es]
        exact ⟨hd, ht.mono fun q hq => hq.elim .inl (fun e => .inr (.inl e)), fun j q hq => .inl (hl j q hq), by simp⟩
theorem read_m (h : DkM w n D R d pv) (ho : d.off = false) (i : Nat) (hi : i < d.ss.length) :
    Calls Tryd.prog 34 #[.pointer (some ⟨D, 0, none⟩), .int .i64 (i : Int)] w fun e w' => ∃ g, e = .returned (.tuple #[.slice (some ⟨g, 0, none⟩) 128 128, .nilIface]) ∧ w.heap.size ≤ g ∧ w'.rangeAt g 0 (bcells (d.top i)) ∧ Below w.heap.size w w' := by
  obtain ⟨ss, off, fuse⟩ := d
  obtain rfl : off = false := ho
  obtain ⟨s, hs⟩ : ∃ s, ss[i]? = some s := ⟨_, List.getElem?_eq_getElem hi⟩
  have e : (DM.mk ss false fuse).top i = s.top := by unfold DM.top; rw [hs]
  refine (read_in h i s hs).mono ?_
  rintro e1 w' ⟨g, rfl, hg, hr, hb⟩
  rw [e]
  exact ⟨g, rfl, hg, range_new hr, hb⟩
theorem top_len (d : DM) (i : Nat) (hi : i < d.ss.length) : (d.top i).length = 128 := by
  unfold DM.top
  rw [List.getElem?_eq_getElem hi]
  exact d.ss[i].top_len
end
theorem or_low (a b : Nat) (k : Nat) (ha : a < 2 ^ k) : a ||| b * 2 ^ k = a + b * 2 ^ k := by
  rw [Nat.or_comm, ← Nat.shiftLeft_eq, ← Nat.shiftLeft_add_eq_or_of_lt ha b]; omega
theorem or4 (a b c d : Int) (ha : 0 ≤ a ∧ a < 256) (hb : 0 ≤ b ∧ b < 256) (hc : 0 ≤ c ∧ c < 256) (hd : 0 ≤ d ∧ d < 256) :
    bits .or .u32 (bits .or .u32 (bits .or .u32 a (b * 256)) (c * 65536)) (d * 16777216) = a + b * 256 + c * 65536 + d * 16777216 := by
  obtain ⟨a, rfl⟩ := Int.eq_ofNat_of_zero_le ha.1
  obtain ⟨b, rfl⟩ := Int.eq_ofNat_of_zero_le hb.1
  obtain ⟨c, rfl⟩ := Int.eq_ofNat_of_zero_le hc.1
  obtain ⟨d, rfl⟩ := Int.eq_ofNat_of_zero_le hd.1
  have h1 : bits .or .u32 (a : Int) ((b : Int) * 256) = ((a + b * 256 : Nat) : Int) := by
    rw [show ((b : Int) * 256) = ((b * 256 : Nat) : Int) by simp, u32_or_nat _ _ (by omega) (by omega), or_low a b 8 (by omega)]
  have h2 : bits .or .u32 ((a + b * 256 : Nat) : Int) ((c : Int) * 65536) = ((a + b * 256 + c * 65536 : Nat) : Int) := by
    rw [show ((c : Int) * 65536) = ((c * 65536 : Nat) : Int) by simp, u32_or_nat _ _ (by omega) (by omega), or_low _ c 16 (by omega)]
  have h3 : bits .or .u32 ((a + b * 256 + c * 65536 : Nat) : Int) ((d : Int) * 16777216) = ((a + b * 256 + c * 65536 + d * 16777216 : Nat) : Int) := by
    rw [show ((d : Int) * 16777216) = ((d * 16777216 : Nat) : Int) by simp, u32_or_nat _ _ (by omega) (by omega), or_low _ d 24 (by omega)]
  rw [h1, h2, h3]
  simp

theorem byte_cell {w : World} {g : Nat} {b : List UInt8} (hr : w.rangeAt g 0 (bcells b)) (j : Nat) (hj : j < b.length) : w.cell? ⟨g, j, none⟩ = some (.int .u8 (b.getD j 0).toNat) := by
  have h := hr j (cellB (b.getD j 0)) (by simp [bcells, List.getD, hj])
  rwa [Nat.zero_add] at h
set_option maxRecDepth 100000 in
set_option maxHeartbeats 800000 in
theorem word_any (w : World) (b : List UInt8) (g p n c : Nat) (hp : p + 4 ≤ b.length) (hn : 4 ≤ n) (hr : w.rangeAt g 0 (bcells b)) :
    Calls Tryd.prog 58 #[.slice (some ⟨g, p, none⟩) n c] w fun e w' => e = .returned (.int .u32 (getW b p : Nat)) ∧ Below w.heap.size w w' := by
  have k0 := byte_cell hr p (by omega)
  have k1 := byte_cell hr (p + 1) (by omega)
  have k2 := byte_cell hr (p + 2) (by omega)
  have k3 := byte_cell hr (p + 3) (by omega)
  have HV : Hid (((getW b p : Nat) : Int) = ((b.getD p 0).toNat : Int) + ((b.getD (p + 1) 0).toNat : Int) * 256 + ((b.getD (p + 2) 0).toNat : Int) * 65536 + ((b.getD (p + 3) 0).toNat : Int) * 16777216) := Lib.hid (by unfold getW; omega)
  have r0 := (b.getD p 0).toNat_lt
  have r1 := (b.getD (p + 1) 0).toNat_lt
  have r2 := (b.getD (p + 2) 0).toNat_lt
  have r3 := (b.getD (p + 3) 0).toNat_lt
  obtain ⟨x0, hx0⟩ : ∃ x : Int, x = ((b.getD p 0).toNat : Int) := ⟨_, rfl⟩
  obtain ⟨x1, hx1⟩ : ∃ x : Int, x = ((b.getD (p + 1) 0).toNat : Int) := ⟨_, rfl⟩
  obtain ⟨x2, hx2⟩ : ∃ x : Int, x = ((b.getD (p + 2) 0).toNat : Int) := ⟨_, rfl⟩
  obtain ⟨x3, hx3⟩ : ∃ x : Int, x = ((b.getD (p + 3) 0).toNat : Int) := ⟨_, rfl⟩
  rw [← hx0, ← hx1, ← hx2, ← hx3] at HV
  rw [← hx0] at k0
  rw [← hx1] at k1
  rw [← hx2] at k2
  rw [← hx3] at k3
  have hor := or4 x0 x1 x2 x3 (by omega) (by omega) (by omega) (by omega)
  have m0 : x0 % 4294967296 = x0 := by omega
  have m1 : x1 * 256 % 4294967296 = x1 * 256 := by omega
  have m2 : x2 * 65536 % 4294967296 = x2 * 65536 := by omega
  have m3 : x3 * 16777216 % 4294967296 = x3 * 16777216 := by omega
  have n0 : (0 : Int) < (n : Int) := by omega
  have n1 : (1 : Int) < (n : Int) := by omega
  have n2 : (2 : Int) < (n : Int) := by omega
  have n3 : (3 : Int) < (n : Int) := by omega
  clear hx0 hx1 hx2 hx3 r0 r1 r2 r3 hp hn hr
  go_enter Tryd.func58, Tryd.ntmps58
  go_wp2_with fail
  go_quiet (fail)
  go_wp2_with fail
  go_ret
  exact ⟨by rw [HV.out]; rfl, Below.drewNr _⟩
/-- a row of 128 bytes that is being written -/
def HeadAt (w : World) (g : Nat) (xs : List UInt8) : Prop := w.heap[g]? = some (.cells (bcells (xs ++ List.replicate (128 - xs.length) 0)).toArray 5)
theorem head_range {w : World} {g : Nat} {xs : List UInt8} (h : HeadAt w g xs) : w.rangeAt g 0 (bcells (xs ++ List.replicate (128 - xs.length) 0)) := range_new h
theorem head_row (w : World) (g : Nat) (xs ys : List UInt8) (h : HeadAt w g xs) : HeadAt (w.setRow g (((bcells (xs ++ List.replicate (128 - xs.length) 0)).toArray.toList.take xs.length ++ bcells ys ++ (bcells (xs ++ List.replicate (128 - xs.length) 0)).toArray.toList.drop (xs.length + ys.length))).toArray) g (xs ++ ys) := by
  unfold HeadAt at h ⊢
  rw [setRow_heap w g _ _ _ _ h]
  congr 3
  show List.take _ (bcells _) ++ bcells ys ++ List.drop _ (bcells _) = bcells _
  rw [bcells_app, bcells_app, bcells_app, List.take_left' (by rw [bcells_len]), ← List.drop_drop, List.drop_left' (by rw [bcells_len])]
  congr 1
  simp only [bcells, List.map_replicate, List.drop_replicate, List.length_append]
  congr 1
  omega
theorem only_setRow (w : World) (g : Nat) (cs : Array Value) : Only g w (w.setRow g cs) := ⟨rfl, rfl, rfl, by simp, fun k _ hk => setRow_other w g k _ hk⟩
theorem head_app (w : World) (g : Nat) (xs ys : List UInt8) (h : HeadAt w g xs) (hl : xs.length + ys.length ≤ 128) (b c : Nat) (hy : w.rangeAt b 0 (bcells ys)) :
    ∃ w', (Builtin.append_ #[41, 41] 41 #[.slice (some ⟨g, 0, none⟩) xs.length 128, .slice (some ⟨b, 0, none⟩) ys.length c]).run Tryd.prog w = .ok (.slice (some ⟨g, 0, none⟩) (xs ++ ys).length 128) w' ∧ HeadAt w' g (xs ++ ys) ∧ Only g w w' := by
  obtain ⟨i, hi, hz⟩ := Option.map_eq_some_iff.1 (show (Tryd.prog.info? 5).map (·.size) = some 1 by kernel_rfl)
  have hr := run_append_room (P := Tryd.prog) w 41 41 5 i Tryd.underlying41 hi g xs.length 128 _ h ⟨b, 0, none⟩ ys.length c (bcells ys) (by rw [bcells_len, hz, Nat.mul_one]) (fun j u hj => by rw [add_eq]; exact hy j u hj) (bcells_one ys) hl (by rw [hz, Nat.mul_one, bcells_len]; simp [bcells_len]; omega)
  rw [hz, Nat.mul_one, bcells_len] at hr
  exact ⟨_, by rw [hr, List.length_append], head_row w g xs ys h, only_setRow _ _ _⟩
theorem cellB_ofNat (n : Nat) (h : n < 256) : cellB (UInt8.ofNat n) = .int .u8 (n : Int) := by
  unfold cellB
  rw [UInt8.toNat_ofNat']
  congr 2
  omega
theorem le4_cells (x : Nat) (z : Int) (hz : z = (x : Int)) : bcells (le4 x) = [.int .u8 (z % 256), .int .u8 (z / 256 % 256), .int .u8 (z / 65536 % 256), .int .u8 (z / 16777216 % 256)] := by
  subst hz
  simp only [bcells, le4, List.map_cons, List.map_nil]
  rw [cellB_ofNat _ (by omega), cellB_ofNat _ (by omega), cellB_ofNat _ (by omega), cellB_ofNat _ (by omega)]
  simp
set_option maxRecDepth 100000 in
set_option maxHeartbeats 800000 in
theorem appendWord_any (w : World) (g x : Nat) (xs : List UInt8) (h : HeadAt w g xs) (hl : xs.length + 4 ≤ 128) (z : Int) (hz : z = (x : Int)) :
    Calls Tryd.prog 66 #[.slice (some ⟨g, 0, none⟩) xs.length 128, .int .u32 z] w fun e w' => e = .returned (.slice (some ⟨g, 0, none⟩) (xs ++ le4 x).length 128) ∧ HeadAt w' g (xs ++ le4 x) ∧ Only g w w' := by
  have hgl : g < w.heap.size := (Array.getElem?_eq_some_iff.1 h).1
  have hb := below_alc w (.cells (bcells (le4 x)).toArray 5)
  have h1 : HeadAt (w.alloc (.cells (bcells (le4 x)).toArray 5)) g xs := (hb.block g hgl).trans h
  obtain ⟨w', hap, hh, ho⟩ := head_app _ g xs (le4 x) h1 hl w.heap.size 4 (range_new (heap1_0 w _))
  rw [le4_cells x z hz] at hap ho h1 hb
  have HH := Lib.hid hh
  have HO := Lib.hid ((Only.of_below hb).trans ho)
  obtain ⟨n', hn'⟩ : ∃ n', n' = (xs ++ le4 x).length := ⟨_, rfl⟩
  rw [← hn'] at hap ⊢
  have hap' : (Builtin.append_ #[41, 41] 41 #[.slice (some ⟨g, 0, none⟩) xs.length 128, .slice (some ⟨w.heap.size, 0, none⟩) 4 4]).run Tryd.prog (w.alloc (.cells #[.int .u8 (z % 256), .int .u8 (z / 256 % 256), .int .u8 (z / 65536 % 256), .int .u8 (z / 16777216 % 256)] 5)) = .ok (.slice (some ⟨g, 0, none⟩) n' 128) w' := hap
  clear hap hh ho hb h1 h hz hn'
  go_enter Tryd.func66, Tryd.ntmps66
  go_wp2_with (at_builtin; refine wpList_run rfl _ _ (exec_append rfl rfl (by kernel_rfl) hap') ?_)
  go_ret
  exact ⟨rfl, HH.out, HO.out⟩
/-- a slots' struct in memory -/
structure SlC (w : World) (S D : Nat) (m : SM) : Prop where
  c0 : w.cell? ⟨S, 0, none⟩ = some (.pointer (some ⟨D, 0, none⟩))
  c1 : w.cell? ⟨S, 1, none⟩ = some (.int .u32 (m.saves : Int))
  c2 : w.cell? ⟨S, 2, none⟩ = some (.int .i64 (m.half : Int))
  c3 : w.cell? ⟨S, 3, none⟩ = some (.int .i64 (m.size : Int))
  fr : ∀ o, w.frozen? ⟨S, o, none⟩ = false
  bk : ∃ old, w.heap[S]? = some (.cells old 76 (0, 0)) ∧ old.size = 4
/-- numbers that can be -/
def SM.ok (m : SM) : Prop := m.saves ≤ 4294967295 ∧ m.half ≤ 255 ∧ m.size ≤ 1000000
theorem SlC.lt {w : World} {S D : Nat} {m : SM} (h : SlC w S D m) : S < w.heap.size := cell_lt h.c0
theorem SlC.turn {w w' : World} {S D : Nat} {m : SM} {F : Nat → Prop} (h : SlC w S D m) (ht : Turn F w w') (hF : ¬ F S) : SlC w' S D m :=
  ⟨(ht.cell h.lt hF).trans h.c0, (ht.cell h.lt hF).trans h.c1, (ht.cell h.lt hF).trans h.c2, (ht.cell h.lt hF).trans h.c3, fun o => (World.frozen?_of_block (ht.block S h.lt hF)).trans (h.fr o), by obtain ⟨old, h1, h2⟩ := h.bk; exact ⟨old, (ht.block S h.lt hF).trans h1, h2⟩⟩
/-- the cells -/
def SM.cells (D : Nat) (m : SM) : List Value := [.pointer (some ⟨D, 0, none⟩), .int .u32 (m.saves : Int), .int .i64 (m.half : Int), .int .i64 (m.size : Int)]
theorem SlC.new {w : World} {S D : Nat} {m : SM} (h : w.heap[S]? = some (.cells (SM.cells D m).toArray 76 (0, 0))) : SlC w S D m := by
  refine ⟨?_, ?_, ?_, ?_, fun o => ?_, _, h, rfl⟩ <;> simp [World.cell?, World.frozen?, h, SM.cells]
theorem SlC.range {w : World} {S D : Nat} {m : SM} (h : SlC w S D m) : w.rangeAt S 0 (SM.cells D m) := fun j v hv => by
  rw [Nat.zero_add]
  rcases j with _ | _ | _ | _ | j
  · simp [SM.cells] at hv; subst hv; exact h.c0
  · simp [SM.cells] at hv; subst hv; exact h.c1
  · simp [SM.cells] at hv; subst hv; exact h.c2
  · simp [SM.cells] at hv; subst hv; exact h.c3
  · simp [SM.cells] at hv
theorem SlC.below {w w' : World} {S D : Nat} {m : SM} (h : SlC w S D m) (hb : Below w.heap.size w w') : SlC w' S D m := h.turn (Turn.of_below (F := fun _ => False) hb) id
section
variable {w : World} {n D R S : Nat} {d : DM} {pv : Nat → Value} {m : SM}
set_option maxRecDepth 100000 in
set_option maxHeartbeats 1600000 in
theorem halfS_any (h : DkM w n D R d pv) (hs : SlC w S D m) : Calls Tryd.prog 53 #[.pointer (some ⟨S, 0, none⟩)] w fun e w' => e = .returned (.int .i64 (halfN d.ss.length : Nat)) ∧ Below w.heap.size w w' := by
  have hsz := size_any h
  have c0 := hs.c0
  have hlen := h.len
  have e1 : ((d.ss.length : Int) - 1) / 2 = ((halfN d.ss.length : Nat) : Int) := by unfold halfN; omega
  have hq : halfN d.ss.length ≤ 400 := by unfold halfN; omega
  obtain ⟨N, hN⟩ : ∃ N : Int, N = (d.ss.length : Int) := ⟨_, rfl⟩
  rw [← hN] at e1 hsz
  have hN2 : 0 < N ∧ N ≤ 400 := by omega
  have w1 : wrap64 (N - 1) = N - 1 := by unfold wrap64; omega
  have HE := Lib.hid e1
  clear h hs e1 hN hlen
  go_enter Tryd.func53, Tryd.ntmps53
  go_wp2_with (go_at_call 61; refine hsz.mono ?_; rintro e w1 ⟨rfl, hb1⟩; have HB := Lib.hid hb1; clear hb1 hsz)
  go_ret
  exact ⟨by rw [← HE.out]; rfl, HB.out⟩
set_option maxRecDepth 100000 in
set_option maxHeartbeats 1600000 in
theorem roomS_any (h : DkM w n D R d pv) (hs : SlC w S D m) : Calls Tryd.prog 31 #[.pointer (some ⟨S, 0, none⟩)] w fun e w' => e = .returned (.int .i64 (roomN d.ss.length : Nat)) ∧ Below w.heap.size w w' := by
  have hh := halfS_any h hs
  have hlen := h.len
  have hq : halfN d.ss.length ≤ 400 := by unfold halfN; omega
  have e2 : ((roomN d.ss.length : Nat) : Int) = (halfN d.ss.length : Int) * 128 := by unfold roomN; omega
  generalize halfN d.ss.length = k at *
  have w1 : wrap64 ((k : Int) * 128) = (k : Int) * 128 := by unfold wrap64; omega
  have HE := Lib.hid e2
  clear h hs hlen e2
  go_enter Tryd.func31, Tryd.ntmps31
  go_wp2_with (go_at_call 53; refine hh.mono ?_; rintro e w1 ⟨rfl, hb1⟩; have HB := Lib.hid hb1; clear hb1 hh)
  go_ret
  exact ⟨by rw [HE.out]; rfl, HB.out⟩
set_option maxRecDepth 100000 in
set_option maxHeartbeats 1600000 in
theorem seqS_any (hs : SlC w S D m) (hm : m.ok) : Calls Tryd.prog 30 #[.pointer (some ⟨S, 0, none⟩)] w fun e w' => e = .returned (.int .i64 (m.saves : Int)) ∧ Below w.heap.size w w' := by
  have c1 := hs.c1
  have hm1 := hm.1
  have hx : 0 ≤ (m.saves : Int) ∧ (m.saves : Int) ≤ 4294967295 := by omega
  generalize (m.saves : Int) = x at *
  have w1 : wrap64 x = x := by unfold wrap64; omega
  have HB := Lib.hid (Below.refl w.heap.size w)
  clear hs hm hm1 hx
  go_enter Tryd.func30, Tryd.ntmps30
  go_wp2_with fail
  go_ret
  refine ⟨?_, HB.out⟩
  show Ending.returned (.int .i64 (wrap64 x)) = _
  rw [w1]
theorem quo_128 (t : TypeId) (x y : Operand) (s n : Int) (hn : s / 128 = n) (hs : 0 ≤ s ∧ s ≤ 2000000) (w : World) : (do eqGuard .quo t x y (.int .i64 s) (.int .i64 128); binOp .quo t (.int .i64 s) (.int .i64 128) : Sem Value).run Tryd.prog w = .ok (.int .i64 n) w := by
  have e : Int.tdiv s 128 = n := by rw [Int.tdiv_eq_ediv_of_nonneg hs.1]; exact hn
  have e2 : IntKind.i64.wrap (Int.tdiv s 128) = n := by rw [e]; exact IntWalk.i64_in _ (by omega)
  simp [eqGuard, binOp, Op.intDiv, e2]
set_option maxRecDepth 100000 in
set_option maxHeartbeats 1600000 in
theorem place_any (h : DkM w n D R d pv) (hs : SlC w S D m) (hm : m.ok) : Calls Tryd.prog 47 #[.pointer (some ⟨S, 0, none⟩)] w fun e w' => e = .returned (.tuple #[.int .i64 (m.from d.ss.length : Nat), .int .i64 ((m.from d.ss.length + needS m.size : Nat) : Int)]) ∧ Below w.heap.size w w' := by
  have hh := fun W (hW : Below w.heap.size w W) => halfS_any (h.below hW) (hs.below hW)
  have hs2 := fun W (hW : Below w.heap.size w W) => (hs.below hW).c2
  have hs3 := fun W (hW : Below w.heap.size w W) => (hs.below hW).c3
  have hlen := h.len
  have hk : halfN d.ss.length ≤ 400 := by unfold halfN; omega
  have hmk : m.half * halfN d.ss.length ≤ 255 * 400 := Nat.mul_le_mul hm.2.1 hk
  have hsz := hm.2.2
  have hmh := hm.2.1
  obtain ⟨hf, ehf⟩ : ∃ x : Int, x = (m.half : Int) := ⟨_, rfl⟩
  obtain ⟨k, ek⟩ : ∃ x : Int, x = ((halfN d.ss.length : Nat) : Int) := ⟨_, rfl⟩
  obtain ⟨sz, esz⟩ : ∃ x : Int, x = (m.size : Int) := ⟨_, rfl⟩
  obtain ⟨a, ea⟩ : ∃ x : Int, x = ((m.half * halfN d.ss.length : Nat) : Int) := ⟨_, rfl⟩
  obtain ⟨b, eb⟩ : ∃ x : Int, x = ((m.from d.ss.length : Nat) : Int) := ⟨_, rfl⟩
  obtain ⟨c, ec⟩ : ∃ x : Int, x = ((m.from d.ss.length + needS m.size : Nat) : Int) := ⟨_, rfl⟩
  obtain ⟨nd, end_⟩ : ∃ x : Int, x = ((needS m.size : Nat) : Int) := ⟨_, rfl⟩
  obtain ⟨s1, es1⟩ : ∃ x : Int, x = sz + 128 := ⟨_, rfl⟩
  obtain ⟨s2, es2⟩ : ∃ x : Int, x = sz + 127 := ⟨_, rfl⟩
  have ha : hf * k = a := by rw [ehf, ek, ea]; exact (Int.natCast_mul _ _).symm
  have hb : 1 + a = b := by rw [ea, eb]; unfold SM.from; omega
  have h3 : s2 / 128 = nd := by rw [es2, esz, end_]; unfold needS; omega
  have hc : b + nd = c := by rw [eb, end_, ec]; omega
  have h1 : sz + 128 = s1 := es1.symm
  have h2 : s1 - 1 = s2 := by omega
  have r1 : 0 ≤ a ∧ a ≤ 1000000 := by omega
  have r2 : 0 ≤ sz ∧ sz ≤ 1000000 := by omega
  have r3 : 0 ≤ nd ∧ nd ≤ 1000000 := by omega
  rw [← ek] at hh
  rw [← ehf] at hs2
  rw [← esz] at hs3
  rw [← eb, ← ec]
  clear ehf ek esz ea eb ec end_ es1 es2 h hs hm hlen hk hmk hsz hmh
  go_enter Tryd.func47, Tryd.ntmps47
  go_upto_region 1 with (fail)
  refine wp_region_noPanic ?_
  refine wp_region_held_drew (S := fun W => Below w.heap.size w W) (by kernel_rfl) (Below.drewNr (w := w) 1) (fun hHeld => ?_)
  refine held_move 0 (Go.Operand.tmp 0) (some 5) (.pointer (some ⟨S, 0, none⟩)) (by kernel_rfl) (by kernel_rfl) (by kernel_rfl) (by kernel_rfl) (by kernel_rfl) (fun _ _ _ _ _ h => h) hHeld ?_
  refine held_nil 1 (Go.Operand.tmp 5) (some 6) ⟨S, 0, none⟩ (by kernel_rfl) (by kernel_rfl) (by kernel_rfl) (by kernel_rfl) (by kernel_rfl) (fun _ _ _ _ _ h => h) hHeld ?_
  refine held_field 2 76 (Go.Operand.tmp 6) 2 (some 7) (.pointer (some ⟨S, 0, none⟩)) (.pointer (some ⟨S, 2, none⟩)) (by kernel_rfl) (by kernel_rfl) (fun w => by kernel_rfl) (by kernel_rfl) (by kernel_rfl) (by kernel_rfl) (fun _ _ _ _ _ h => h) hHeld ?_
  refine held_cell 3 3 (Go.Operand.tmp 7) (some 8) (.pointer (some ⟨S, 2, none⟩)) (.int .i64 hf) (by kernel_rfl) (by kernel_rfl) (fun W hW => load_i64 S 2 W _ (hs2 W hW)) (by kernel_rfl) (by kernel_rfl) (by kernel_rfl) (fun _ _ _ _ _ h => h) hHeld ?_
  refine held_move 4 (Go.Operand.tmp 0) (some 9) (.pointer (some ⟨S, 0, none⟩)) (by kernel_rfl) (by kernel_rfl) (by kernel_rfl) (by kernel_rfl) (by kernel_rfl) (fun _ _ _ _ _ h => h) hHeld ?_
  refine held_call 5 53 #[Go.Operand.tmp 9] #[29] (some 10) #[.pointer (some ⟨S, 0, none⟩)] _ (by kernel_rfl) (by kernel_rfl) (by kernel_rfl) (by kernel_rfl) (hh _ hHeld) ?_
  rintro e w1 ⟨rfl, hb1⟩
  refine ⟨_, rfl, hHeld.trans (hb1.mono hHeld.size), fun hHeld => ?_⟩
  refine held_bin 6 Go.BinOp.mul 3 (Go.Operand.tmp 8) (Go.Operand.tmp 10) 3 (some 11) (.int .i64 hf) (.int .i64 k) (.int .i64 a) (by kernel_rfl) (by kernel_rfl) (fun W => mul_int _ _ _ W hf k a ha (by omega) (by omega)) (by kernel_rfl) (by kernel_rfl) (by kernel_rfl) (fun _ _ _ _ _ h => h) hHeld ?_
  refine held_bin 7 Go.BinOp.add 3 (Go.Operand.const (Go.Value.int Go.IntKind.i64 1)) (Go.Operand.tmp 11) 3 (some 12) (Go.Value.int Go.IntKind.i64 1) (.int .i64 a) (.int .i64 b) (by kernel_rfl) (by kernel_rfl) (fun W => add_int _ _ _ W 1 a b hb (by omega) (by omega)) (by kernel_rfl) (by kernel_rfl) (by kernel_rfl) (fun _ _ _ _ _ h => h) hHeld ?_
  refine held_assign 8 (Go.Operand.tmp 12) (some 4) (.int .i64 b) (by kernel_rfl) (by kernel_rfl) (by kernel_rfl) (by kernel_rfl) (by kernel_rfl) (fun _ _ _ _ _ h => h) hHeld ?_
  refine wpAnyH_done (by kernel_rfl) ?_ _
  refine NoPanic.normal ?_
  simp only [Act.put, List.setIfInBounds_toArray, List.set_cons_zero, List.set_cons_succ]
  go_upto_region 2 with (fail)
  refine wp_world (fun W => Below w.heap.size w W) hHeld ?_
  clear hHeld
  intro W1 hb1
  refine wp_region_noPanic ?_
  refine wp_region_held_drew (S := fun W => Below w.heap.size w W) (by kernel_rfl) (hb1.trans ((Below.drewNr (w := W1) 1).mono hb1.size)) (fun hHeld => ?_)
  refine held_move 0 (Go.Operand.tmp 4) (some 13) (.int .i64 b) (by kernel_rfl) (by kernel_rfl) (by kernel_rfl) (by kernel_rfl) (by kernel_rfl) (fun _ _ _ _ _ h => h) hHeld ?_
  refine held_move 1 (Go.Operand.tmp 4) (some 14) (.int .i64 b) (by kernel_rfl) (by kernel_rfl) (by kernel_rfl) (by kernel_rfl) (by kernel_rfl) (fun _ _ _ _ _ h => h) hHeld ?_
  refine held_move 2 (Go.Operand.tmp 0) (some 15) (.pointer (some ⟨S, 0, none⟩)) (by kernel_rfl) (by kernel_rfl) (by kernel_rfl) (by kernel_rfl) (by kernel_rfl) (fun _ _ _ _ _ h => h) hHeld ?_
  refine held_nil 3 (Go.Operand.tmp 15) (some 16) ⟨S, 0, none⟩ (by kernel_rfl) (by kernel_rfl) (by kernel_rfl) (by kernel_rfl) (by kernel_rfl) (fun _ _ _ _ _ h => h) hHeld ?_
  refine held_field 4 76 (Go.Operand.tmp 16) 3 (some 17) (.pointer (some ⟨S, 0, none⟩)) (.pointer (some ⟨S, 3, none⟩)) (by kernel_rfl) (by kernel_rfl) (fun w => by kernel_rfl) (by kernel_rfl) (by kernel_rfl) (by kernel_rfl) (fun _ _ _ _ _ h => h) hHeld ?_
  refine held_cell 5 3 (Go.Operand.tmp 17) (some 18) (.pointer (some ⟨S, 3, none⟩)) (.int .i64 sz) (by kernel_rfl) (by kernel_rfl) (fun W hW => load_i64 S 3 W _ (hs3 W hW)) (by kernel_rfl) (by kernel_rfl) (by kernel_rfl) (fun _ _ _ _ _ h => h) hHeld ?_
  refine held_bin 6 Go.BinOp.add 3 (Go.Operand.tmp 18) (Go.Operand.const (Go.Value.int Go.IntKind.i64 128)) 3 (some 19) (.int .i64 sz) (Go.Value.int Go.IntKind.i64 128) (.int .i64 s1) (by kernel_rfl) (by kernel_rfl) (fun W => add_int _ _ _ W sz 128 s1 h1 (by omega) (by omega)) (by kernel_rfl) (by kernel_rfl) (by kernel_rfl) (fun _ _ _ _ _ h => h) hHeld ?_
  refine held_bin 7 Go.BinOp.sub 3 (Go.Operand.tmp 19) (Go.Operand.const (Go.Value.int Go.IntKind.i64 1)) 3 (some 20) (.int .i64 s1) (Go.Value.int Go.IntKind.i64 1) (.int .i64 s2) (by kernel_rfl) (by kernel_rfl) (fun W => sub_int _ _ _ W s1 1 s2 h2 (by omega) (by omega)) (by kernel_rfl) (by kernel_rfl) (by kernel_rfl) (fun _ _ _ _ _ h => h) hHeld ?_
  refine held_bin 8 Go.BinOp.quo 3 (Go.Operand.tmp 20) (Go.Operand.const (Go.Value.int Go.IntKind.i64 128)) 3 (some 21) (.int .i64 s2) (Go.Value.int Go.IntKind.i64 128) (.int .i64 nd) (by kernel_rfl) (by kernel_rfl) (fun W => quo_128 _ _ _ s2 nd h3 (by omega) W) (by kernel_rfl) (by kernel_rfl) (by kernel_rfl) (fun _ _ _ _ _ h => h) hHeld ?_
  refine held_bin 9 Go.BinOp.add 3 (Go.Operand.tmp 14) (Go.Operand.tmp 21) 3 (some 22) (.int .i64 b) (.int .i64 nd) (.int .i64 c) (by kernel_rfl) (by kernel_rfl) (fun W => add_int _ _ _ W b nd c hc (by omega) (by omega)) (by kernel_rfl) (by kernel_rfl) (by kernel_rfl) (fun _ _ _ _ _ h => h) hHeld ?_
  refine held_assign 10 (Go.Operand.tmp 13) (some 2) (.int .i64 b) (by kernel_rfl) (by kernel_rfl) (by kernel_rfl) (by kernel_rfl) (by kernel_rfl) (fun _ _ _ _ _ h => h) hHeld ?_
  refine held_assign 11 (Go.Operand.tmp 22) (some 3) (.int .i64 c) (by kernel_rfl) (by kernel_rfl) (by kernel_rfl) (by kernel_rfl) (by kernel_rfl) (fun _ _ _ _ _ h => h) hHeld ?_
  refine wpAnyH_done (by kernel_rfl) ?_ _
  refine NoPanic.normal ?_
  simp only [Act.put, List.setIfInBounds_toArray, List.set_cons_zero, List.set_cons_succ]
  have HB := Lib.hid hHeld
  go_wp2_with fail
  go_ret2
  exact ⟨rfl, HB.out⟩
end
section
variable {w : World} {n D R S : Nat} {d : DM} {pv : Nat → Value} {m : SM}
theorem info_U8 : (Tryd.prog.info? 5).map (·.size) = some 1 := by kernel_rfl
theorem make_head (w : World) : (Instr.makeSlice 41 (.int .i64 0) (.int .i64 128)).run Tryd.prog w = .ok (.slice (some ⟨w.heap.size, 0, none⟩) 0 128) (w.alloc (.cells (bcells (List.replicate 128 0)).toArray 5)) := by kernel_rfl
theorem headAt_new (w : World) : HeadAt (w.alloc (.cells (bcells (List.replicate 128 0)).toArray 5)) w.heap.size [] := heap1_0 w _
theorem cour_cells : Lib.strCells ⟨#[67, 79, 85, 82]⟩ = bcells [67, 79, 85, 82] := by kernel_rfl
theorem head_cour (w : World) (g : Nat) (h : HeadAt w g []) :
    (Builtin.append_ #[41, 9] 41 #[.slice (some ⟨g, 0, none⟩) 0 128, .string ⟨#[67, 79, 85, 82]⟩]).run Tryd.prog w = .ok (.slice (some ⟨g, 0, none⟩) 4 128) (w.setRow g (((bcells (([] : List UInt8) ++ List.replicate (128 - ([] : List UInt8).length) 0)).toArray.toList.take 0 ++ bcells [67, 79, 85, 82] ++ (bcells (([] : List UInt8) ++ List.replicate (128 - ([] : List UInt8).length) 0)).toArray.toList.drop 4)).toArray) := by
  obtain ⟨i, hi, hz⟩ := Option.map_eq_some_iff.1 info_U8
  have hr := Lib.run_append_room_string (P := Tryd.prog) w 41 9 41 5 i Tryd.underlying41 Tryd.underlying9 hi hz g 0 128 _ h ⟨#[67, 79, 85, 82]⟩ (by decide) (by simp [bcells_len]; decide)
  rw [cour_cells] at hr
  exact hr
theorem head_one (w : World) (g x : Nat) (hx : x < 256) (xs : List UInt8) (k k' : Nat) (hk : xs.length = k) (hk' : k + 1 = k') (h : HeadAt w g xs) (hl : k' ≤ 128) :
    ∃ w', (Builtin.append_ #[41, 41] 41 #[.slice (some ⟨g, 0, none⟩) k 128, .slice (some ⟨w.heap.size, 0, none⟩) 1 1]).run Tryd.prog (w.alloc (.cells #[.int .u8 (x : Int)] 5)) = .ok (.slice (some ⟨g, 0, none⟩) k' 128) w' ∧ HeadAt w' g (xs ++ [UInt8.ofNat x]) ∧ Only g w w' := by
  subst hk hk'
  have hgl : g < w.heap.size := (Array.getElem?_eq_some_iff.1 h).1
  have hb := below_alc w (.cells #[.int .u8 (x : Int)] 5)
  have h1 : HeadAt (w.alloc (.cells #[.int .u8 (x : Int)] 5)) g xs := (hb.block g hgl).trans h
  obtain ⟨w', hap, hh, ho⟩ := head_app _ g xs [UInt8.ofNat x] h1 hl w.heap.size 1 (range_new (by rw [show bcells [UInt8.ofNat x] = [.int .u8 (x : Int)] from by show [cellB _] = _; rw [cellB_ofNat x hx]]; exact heap1_0 w _))
  exact ⟨w', by rw [List.length_append] at hap; exact hap, hh, (Only.of_below hb).trans ho⟩
theorem cvt_u8n (x : Nat) (hx : x < 256) (w : World) : (convert 3 5 (.int .i64 (x : Int))).run Tryd.prog w = .ok (.int .u8 (x : Int)) w := by
  rw [cvt_u8, show ((x : Int) % 256).toNat = x by omega, cellB_ofNat x hx]
theorem cvt_u32n (x : Nat) (hx : x < 4294967296) (w : World) : (convert 3 74 (.int .i64 (x : Int))).run Tryd.prog w = .ok (.int .u32 (x : Int)) w := by
  have e : IntKind.u32.wrap (x : Int) = x := by rw [IntKind.wrap_u32]; omega
  have h1 := Tryd.underlying3
  have h2 := Tryd.underlying74
  simp [convert, run_underlying h1, run_underlying h2, Conv.intToInt, e]
set_option maxRecDepth 100000 in
set_option maxHeartbeats 1600000 in
theorem bsl_1 (x : Int) (w : World) : (Instr.buildSlice 41 1 #[(0, .int .u8 x)]).run Tryd.prog w = .ok (.slice (some ⟨w.heap.size, 0, none⟩) 1 1) (w.alloc (.cells #[.int .u8 x] 5)) := by kernel_rfl
theorem appendWord_n (w : World) (g x k k' : Nat) (xs : List UInt8) (hk : xs.length = k) (hk' : k + 4 = k') (h : HeadAt w g xs) (hl : k' ≤ 128) (z : Int) (hz : z = (x : Int)) :
    Calls Tryd.prog 66 #[.slice (some ⟨g, 0, none⟩) k 128, .int .u32 z] w fun e w' => e = .returned (.slice (some ⟨g, 0, none⟩) k' 128) ∧ HeadAt w' g (xs ++ le4 x) ∧ Only g w w' := by
  subst hk
  have q := appendWord_any w g x xs h (by omega) z hz
  rw [List.length_append, show (le4 x).length = 4 from rfl, hk'] at q
  exact q
theorem slice_h128 (g n : Nat) (w : World) : (Instr.sliceAt 41 (.slice (some ⟨g, 0, none⟩) n 128) none (some (.int .i64 128)) none).run Tryd.prog w = .ok (.slice (some ⟨g, 0, none⟩) 128 128) w := by
  have hu := Tryd.underlying41
  have e2 : Tryd.prog.elem 41 = 5 := by simp [Program.elem, hu]
  have h1 := run_slice_h (P := Tryd.prog) w 41 (some ⟨g, 0, none⟩) n 128 (by rw [e2]; exact hu) .i64 ((128 : Nat) : Int) (by omega) (by omega)
  have h2 := run_sliceAt_slice (P := Tryd.prog) w 41 (.slice (some ⟨g, 0, none⟩) n 128) none (some (.int .i64 ((128 : Nat) : Int))) none (by rw [e2]; exact hu)
  have h3 : ∀ w, (sizeOf 5).run Tryd.prog w = .ok 1 w := fun w => by kernel_rfl
  rw [h1, e2, h3] at h2
  exact h2
set_option maxRecDepth 100000 in
set_option maxHeartbeats 1600000 in
theorem head_any (hs : SlC w S D m) (hm : m.ok) : Calls Tryd.prog 60 #[.pointer (some ⟨S, 0, none⟩)] w fun e w' => ∃ g, e = .returned (.slice (some ⟨g, 0, none⟩) 128 128) ∧ w.heap.size ≤ g ∧ w'.rangeAt g 0 (bcells (headL m)) ∧ Below w.heap.size w w' := by
  have hmk := make_head w
  have HSw := Lib.hid hs
  have hmh := hm.2.1
  have hms := hm.2.2
  go_enter Tryd.func60, Tryd.ntmps60
  go_upto_region 2 with (fail)
  obtain ⟨G, hG⟩ : ∃ G, G = w.heap.size := ⟨_, rfl⟩
  rw [← hG]
  refine wp_world (fun W => HeadAt W G [] ∧ SlC W S D m ∧ Below w.heap.size w W) ⟨by rw [hG]; exact headAt_new w, hs.below (below_alc w _), below_alc w _⟩ ?_
  have HGw := Lib.hid (show w.heap.size ≤ G by omega)
  clear hmk hG
  rintro W1 ⟨h1, hs1, hb1⟩
  have hap1 := head_cour W1 G h1
  have h2 := head_row W1 G [] [67, 79, 85, 82] h1
  have hb2 := (only_setRow W1 G (((bcells (([] : List UInt8) ++ List.replicate (128 - ([] : List UInt8).length) 0)).toArray.toList.take 0 ++ bcells [67, 79, 85, 82] ++ (bcells (([] : List UInt8) ++ List.replicate (128 - ([] : List UInt8).length) 0)).toArray.toList.drop 4)).toArray).below (B := w.heap.size) HGw.out hb1.size
  obtain ⟨W2, hW2⟩ : ∃ W2, W2 = W1.setRow G (((bcells (([] : List UInt8) ++ List.replicate (128 - ([] : List UInt8).length) 0)).toArray.toList.take 0 ++ bcells [67, 79, 85, 82] ++ (bcells (([] : List UInt8) ++ List.replicate (128 - ([] : List UInt8).length) 0)).toArray.toList.drop 4)).toArray := ⟨_, rfl⟩
  rw [← hW2] at hap1 hb2
  have h2' : HeadAt W2 G [67, 79, 85, 82] := by rw [hW2]; exact h2
  have hbb2 := hb1.trans hb2
  clear h2 hW2 hb2
  go_upto_region 3 with (at_builtin; refine wpList_run rfl _ _ (exec_append rfl rfl (by kernel_rfl) hap1) ?_)
  refine wp_world (fun W => HeadAt W G [67, 79, 85, 82] ∧ SlC W S D m ∧ Below w.heap.size w W) ⟨h2', hs.below hbb2, hbb2⟩ ?_
  clear hap1 h1 hs1 hb1 hbb2 h2'
  rintro W2 ⟨h2, hs2, hb2⟩
  obtain ⟨z, hz⟩ : ∃ z, z = (m.saves : Int) := ⟨_, rfl⟩
  have hw2 := appendWord_n W2 G m.saves 4 8 [67, 79, 85, 82] rfl rfl h2 (by decide) z hz
  have c1 := hs2.c1
  rw [← hz] at c1
  have HB2 := Lib.hid hb2
  clear h2 hs2 hb2 hz hs
  go_upto_region 4 with (go_at_call 66; refine hw2.mono ?_; rintro e W ⟨rfl, h3, ho3⟩; have H3 := Lib.hid (And.intro h3 ho3); clear h3 ho3)
  have hb3 := HB2.out.trans (H3.out.2.below (B := w.heap.size) HGw.out HB2.out.size)
  clear hw2 c1
  refine wp_world (fun W => HeadAt W G ([67, 79, 85, 82] ++ le4 m.saves) ∧ SlC W S D m ∧ Below w.heap.size w W) ⟨H3.out.1, HSw.out.below hb3, hb3⟩ ?_
  clear H3 hb3 HB2
  rintro W3 ⟨h3, hs3, hb3⟩
  obtain ⟨W4, hap4, h4, ho4⟩ := head_one W3 G m.half (by omega) _ 8 9 (by simp [le4]) rfl h3 (by decide)
  refine wp_region_lit ?_
  refine wpList_run (by kernel_rfl) (.slice (some ⟨G, 0, none⟩) 8 128) (W3) (exec_move rfl (by kernel_rfl)) ?_
  refine wpList_run (by kernel_rfl) (.pointer (some ⟨S, 0, none⟩)) (W3) (exec_move rfl (by kernel_rfl)) ?_
  refine wpList_run (by kernel_rfl) (.pointer (some ⟨S, 0, none⟩)) (W3) (exec_nil rfl (by kernel_rfl)) ?_
  refine wpList_run (by kernel_rfl) (.pointer (some ⟨S, 2, none⟩)) (W3) (exec_field (vx := .pointer (some ⟨S, 0, none⟩)) rfl (by kernel_rfl) (by kernel_rfl)) ?_
  simp only [put_list, List.set_cons_zero, List.set_cons_succ]
  refine wpList_run (by kernel_rfl) (.int .i64 (m.half : Int)) (W3) (exec_load (vx := .pointer (some ⟨S, 2, none⟩)) rfl (by kernel_rfl) (load_i64 S 2 W3 _ hs3.c2)) ?_
  refine wpList_run (by kernel_rfl) (.int .u8 (m.half : Int)) (W3) (exec_cvt (vx := .int .i64 (m.half : Int)) rfl (by kernel_rfl) (cvt_u8n m.half (by omega) W3)) ?_
  refine wpList_run (by kernel_rfl) (.slice (some ⟨W3.heap.size, 0, none⟩) 1 1) ((W3.alloc (.cells #[.int .u8 (m.half : Int)] 5))) (exec_bsl (vs := #[(0, .int .u8 (m.half : Int))]) rfl (by kernel_rfl) (bsl_1 _ W3)) ?_
  refine wpList_run (by kernel_rfl) (.slice (some ⟨G, 0, none⟩) 9 128) (W4) (exec_append rfl rfl (vs := .slice (some ⟨G, 0, none⟩) 8 128) (vx := .slice (some ⟨W3.heap.size, 0, none⟩) 1 1) (by kernel_rfl) (hap4)) ?_
  refine wpList_run (by kernel_rfl) (.slice (some ⟨G, 0, none⟩) 9 128) (W4) (exec_assign rfl (by kernel_rfl)) ?_
  refine wpList_nil ?_
  simp only [put_list, List.set_cons_zero, List.set_cons_succ]
  have hb4 := hb3.trans (ho4.below (B := w.heap.size) HGw.out hb3.size)
  go_upto_region 5 with (fail)
  refine wp_world (fun W => HeadAt W G ([67, 79, 85, 82] ++ le4 m.saves ++ [UInt8.ofNat m.half]) ∧ SlC W S D m ∧ Below w.heap.size w W) ⟨h4, HSw.out.below hb4, hb4⟩ ?_
  clear h4 ho4 hb4 h3 hs3 hb3 hap4
  rintro W4 ⟨h4, hs4, hb4⟩
  have hw5 := appendWord_n W4 G m.size 9 13 _ (by simp [le4]) rfl h4 (by decide) _ rfl
  have c3 := hs4.c3
  have hcv := fun w => cvt_u32n m.size (by omega) w
  go_upto_region 6 with (go_at_call 66; refine hw5.mono ?_; rintro e W ⟨rfl, h5, ho5⟩)
  have hb5 := hb4.trans (ho5.below (B := w.heap.size) HGw.out hb4.size)
  have hr5 := head_range h5
  have HR := Lib.hid (show W.rangeAt G 0 (bcells (headL m)) by
    have e : headL m = [67, 79, 85, 82] ++ le4 m.saves ++ [UInt8.ofNat m.half] ++ le4 m.size ++ List.replicate (128 - ([67, 79, 85, 82] ++ le4 m.saves ++ [UInt8.ofNat m.half] ++ le4 m.size).length) 0 := by simp [headL, le4]
    rw [e]
    exact hr5)
  have HB := Lib.hid hb5
  have hsl := fun w => slice_h128 G 13 w
  clear hw5 c3 hcv h4 hs4 hb4 h5 ho5 hb5 hr5
  go_wp2_with fail
  go_ret
  exact ⟨_, rfl, HGw.out, HR.out, HB.out⟩
end
theorem isZ_take (b : List UInt8) (k : Nat) (hk : k < b.length) : isZ (b.take (k + 1)) = (isZ (b.take k) && (b.getD k 0 == 0)) := by
  unfold isZ
  rw [List.take_add_one, List.getElem?_eq_getElem hk, List.all_append]
  simp [List.getD, hk]
theorem isZ_no (b : List UInt8) (k : Nat) (hk : k < b.length) (h : ¬ b.getD k 0 = 0) : isZ b = false := by
  unfold isZ
  rw [List.all_eq_false]
  refine ⟨b[k], List.getElem_mem hk, ?_⟩
  simpa [List.getD, hk] using h
set_option maxRecDepth 100000 in
set_option maxHeartbeats 1600000 in
theorem isZero_any (w : World) (b : List UInt8) (g c : Nat) (hb : b.length ≤ 1000000) (hr : w.rangeAt g 0 (bcells b)) :
    Calls Tryd.prog 57 #[.slice (some ⟨g, 0, none⟩) b.length c] w fun e w' => e = .returned (.bool (isZ b)) ∧ w' = w := by
  have hcell := fun j hj => byte_cell hr j hj
  clear hr
  go_enter Tryd.func57, Tryd.ntmps57
  go_wp2_with fail
  go_loopw [7] (fun x wr => ∃ k : Nat, k ≤ b.length ∧ x = .int .i64 (k : Int) ∧ wr = w ∧ isZ (b.take k) = true) (fun x _ => b.length - (intOf x).toNat)
  case atStart => exact ⟨0, by omega, rfl, rfl, rfl⟩
  case round =>
    obtain ⟨k, hk, rfl, rfl, hz⟩ := hrel
    by_cases hlt : k < b.length
    · have hkn : (k : Int) < (b.length : Int) := by omega
      have hc := hcell k hlt
      by_cases h0 : b.getD k 0 = 0
      · have HZ : Hid (isZ (b.take (k + 1)) = true) := Lib.hid (by rw [isZ_take b k hlt, hz, h0]; rfl)
        rw [h0] at hc
        have hc' : wr.cell? ⟨g, k, none⟩ = some (.int .u8 0) := hc
        clear hc hz hcell h0
        go_wp2_with fail
        go_roundw
        case rel => exact ⟨k + 1, by omega, by go_num, by first | rfl | trivial, HZ.out⟩
        case measure => simp [intOf] <;> omega
      · have HZ := Lib.hid (isZ_no b k hlt h0)
        have hx : ¬ ((b.getD k 0).toNat : Int) = 0 := fun e => h0 (by apply UInt8.toNat_inj.1; simpa using (show (b.getD k 0).toNat = 0 by omega))
        generalize ((b.getD k 0).toNat : Int) = x at *
        clear hz hcell h0
        go_wp2_with fail
        go_ret
        exact ⟨by rw [HZ.out]; rfl, by first | rfl | trivial⟩
    · obtain rfl : k = b.length := by omega
      rw [List.take_length] at hz
      clear hcell
      go_wp2_with fail
      go_ret
      exact ⟨by rw [hz]; rfl, by first | rfl | trivial⟩
theorem str_eq (t : TypeId) (x y : Operand) (a b : List UInt8) (w : World) : (do eqGuard .eql t x y (.string ⟨a.toArray⟩) (.string ⟨b.toArray⟩); binOp .eql t (.string ⟨a.toArray⟩) (.string ⟨b.toArray⟩) : Sem Value).run Tryd.prog w = .ok (.bool (decide (a = b))) w := by
  have e : (a == b) = decide (a = b) := by by_cases h : a = b <;> simp [h]
  simp [eqGuard, binOp_string_eql, e]
set_option maxRecDepth 100000 in
set_option maxHeartbeats 1600000 in
theorem equal_any (w : World) (a b : List UInt8) (g c h c' : Nat) (ha : w.rangeAt g 0 (bcells a)) (hb : w.rangeAt h 0 (bcells b)) :
    Calls Tryd.prog 59 #[.slice (some ⟨g, 0, none⟩) a.length c, .slice (some ⟨h, 0, none⟩) b.length c'] w fun e w' => e = .returned (.bool (decide (a = b))) ∧ w' = w := by
  have hca := run_convert_bytes_back (P := Tryd.prog) w 41 9 5 ⟨g, 0, none⟩ c a Tryd.underlying41 Tryd.underlying5 Tryd.underlying9 (fun j hj => by rw [add_eq, Nat.zero_add]; have := byte_cell ha j hj; rw [this]; simp [List.getD, hj])
  have hcb := run_convert_bytes_back (P := Tryd.prog) w 41 9 5 ⟨h, 0, none⟩ c' b Tryd.underlying41 Tryd.underlying5 Tryd.underlying9 (fun j hj => by rw [add_eq, Nat.zero_add]; have := byte_cell hb j hj; rw [this]; simp [List.getD, hj])
  go_enter Tryd.func59, Tryd.ntmps59
  go_upto_region 1 with (fail)
  refine wp_region_lit ?_
  refine wpList_run (by kernel_rfl) (.slice (some ⟨g, 0, none⟩) a.length c) (w) (exec_move rfl (by kernel_rfl)) ?_
  refine wpList_run (by kernel_rfl) (.string ⟨a.toArray⟩) (w) (exec_cvt (vx := .slice (some ⟨g, 0, none⟩) a.length c) rfl (by kernel_rfl) (hca)) ?_
  refine wpList_run (by kernel_rfl) (.slice (some ⟨h, 0, none⟩) b.length c') (w) (exec_move rfl (by kernel_rfl)) ?_
  refine wpList_run (by kernel_rfl) (.string ⟨b.toArray⟩) (w) (exec_cvt (vx := .slice (some ⟨h, 0, none⟩) b.length c') rfl (by kernel_rfl) (hcb)) ?_
  simp only [put_list, List.set_cons_zero, List.set_cons_succ]
  refine wpList_run (by kernel_rfl) (.bool (decide (a = b))) (w) (exec_bin (vx := .string ⟨a.toArray⟩) (vy := .string ⟨b.toArray⟩) rfl (by kernel_rfl) (str_eq _ _ _ a b w)) ?_
  refine wpList_run (by kernel_rfl) (.bool (decide (a = b))) (w) (exec_assign rfl (by kernel_rfl)) ?_
  refine wpList_nil ?_
  simp only [put_list, List.set_cons_zero, List.set_cons_succ]
  go_wp2_with fail
  go_ret
  exact ⟨rfl, rfl⟩
theorem set_same {w : World} {b o : Nat} {u : Value} (h : w.cell? ⟨b, o, none⟩ = some u) (v : Value) : (w.setCell ⟨b, o, none⟩ v).cell? ⟨b, o, none⟩ = some v := World.cell?_setCell_same _ _ _ h
theorem set_diff (w : World) (b o p : Nat) (v : Value) (h : p ≠ o) : (w.setCell ⟨b, o, none⟩ v).cell? ⟨b, p, none⟩ = w.cell? ⟨b, p, none⟩ := World.cell?_setCell_other _ _ _ _ (fun e => h (by cases e; rfl))
theorem set_blk {w : World} {b n : Nat} {t : TypeId} (h : ∃ old, w.heap[b]? = some (.cells old t (0, 0)) ∧ old.size = n) (k : Nat) (v : Value) : ∃ old, (w.setCell ⟨b, k, none⟩ v).heap[b]? = some (.cells old t (0, 0)) ∧ old.size = n := by
  obtain ⟨old, h1, h2⟩ := h
  refine ⟨old.setIfInBounds k v, ?_, by simpa using h2⟩
  have hlt := (Array.getElem?_eq_some_iff.1 h1).1
  simp only [World.setCell, Array.getElem?_modify, h1]
  simp
theorem setTurn (w : World) (g k : Nat) (v : Value) : Turn (· = g) w (w.setCell ⟨g, k, none⟩ v) := Turn.of_grown (grown_setCell _ _ _) (fun _ hk => (Option.some.inj hk).symm)
theorem SlC.set1 {w : World} {S D : Nat} {m : SM} (h : SlC w S D m) (x : Nat) (v : Int) (hv : v = (x : Int)) : SlC (w.setCell ⟨S, 1, none⟩ (.int .u32 v)) S D ⟨x, m.half, m.size⟩ := by
  subst hv
  refine ⟨?_, ?_, ?_, ?_, fun o => (frozen_setCell _ _ _ _).trans (h.fr o), set_blk h.bk _ _⟩
  · exact (set_diff w S 1 0 _ (by decide)).trans h.c0
  · exact set_same h.c1 _
  · exact (set_diff w S 1 2 _ (by decide)).trans h.c2
  · exact (set_diff w S 1 3 _ (by decide)).trans h.c3
theorem SlC.set2 {w : World} {S D : Nat} {m : SM} (h : SlC w S D m) (x : Nat) (v : Int) (hv : v = (x : Int)) : SlC (w.setCell ⟨S, 2, none⟩ (.int .i64 v)) S D ⟨m.saves, x, m.size⟩ := by
  subst hv
  refine ⟨?_, ?_, ?_, ?_, fun o => (frozen_setCell _ _ _ _).trans (h.fr o), set_blk h.bk _ _⟩
  · exact (set_diff w S 2 0 _ (by decide)).trans h.c0
  · exact (set_diff w S 2 1 _ (by decide)).trans h.c1
  · exact set_same h.c2 _
  · exact (set_diff w S 2 3 _ (by decide)).trans h.c3
theorem SlC.set3 {w : World} {S D : Nat} {m : SM} (h : SlC w S D m) (x : Nat) (v : Int) (hv : v = (x : Int)) : SlC (w.setCell ⟨S, 3, none⟩ (.int .i64 v)) S D ⟨m.saves, m.half, x⟩ := by
  subst hv
  refine ⟨?_, ?_, ?_, ?_, fun o => (frozen_setCell _ _ _ _).trans (h.fr o), set_blk h.bk _ _⟩
  · exact (set_diff w S 3 0 _ (by decide)).trans h.c0
  · exact (set_diff w S 3 1 _ (by decide)).trans h.c1
  · exact (set_diff w S 3 2 _ (by decide)).trans h.c2
  · exact set_same h.c3 _
theorem getW_lt (b : List UInt8) (k : Nat) : getW b k < 4294967296 := by
  unfold getW
  have h0 := (b.getD k 0).toNat_lt
  have h1 := (b.getD (k + 1) 0).toNat_lt
  have h2 := (b.getD (k + 2) 0).toNat_lt
  have h3 := (b.getD (k + 3) 0).toNat_lt
  omega
theorem cut_head (g l : Nat) (hl : l = 4 ∨ l = 9) (w : World) : (Instr.sliceAt 41 (.slice (some ⟨g, 0, none⟩) 128 128) (some (.int .i64 (l : Int))) none none).run Tryd.prog w = .ok (.slice (some ⟨g, l, none⟩) (128 - l) (128 - l)) w := by
  rcases hl with rfl | rfl <;> kernel_rfl
theorem cvt_8i (x : Nat) (hx : x < 256) (w : World) : (convert 5 3 (.int .u8 (x : Int))).run Tryd.prog w = .ok (.int .i64 (x : Int)) w := by
  have e : IntKind.i64.wrap (x : Int) = x := IntWalk.i64_in _ (by omega)
  have h1 := Tryd.underlying3
  have h2 := Tryd.underlying5
  simp [convert, run_underlying h1, run_underlying h2, Conv.intToInt, e]
theorem gtr_b (t : TypeId) (x y : Operand) (w : World) (a b : Int) (c : Bool) (h : decide (b < a) = c) : (do eqGuard .gtr t x y (.int .i64 a) (.int .i64 b); binOp .gtr t (.int .i64 a) (.int .i64 b) : Sem Value).run Tryd.prog w = .ok (.bool c) w := by rw [← h]; exact gtr_i64 t x y w a b
theorem load_u32 (b o : Nat) (w : World) (v : Value) (h : w.cell? ⟨b, o, none⟩ = some v) : (Instr.loadAt 74 (.pointer (some ⟨b, o, none⟩))).run Tryd.prog w = .ok v w := by
  have h2 := Tryd.underlying74
  go_simp
theorem cvt_32i (t : TypeId) (x : Nat) (hx : x < 4294967296) (ht : Tryd.prog.underlying t = some (.int .i64)) (w : World) : (convert 74 t (.int .u32 (x : Int))).run Tryd.prog w = .ok (.int .i64 (x : Int)) w := by
  have e : IntKind.i64.wrap (x : Int) = x := IntWalk.i64_in _ (by omega)
  have h1 := Tryd.underlying74
  simp [convert, run_underlying h1, run_underlying ht, Conv.intToInt, e]
section
variable {w : World} {n D R S : Nat} {d : DM} {pv : Nat → Value}
set_option maxRecDepth 100000 in
set_option maxHeartbeats 1600000 in
theorem readHead_any (h : DkM w n D R d pv) (hs : SlC w S D ⟨0, 0, 0⟩) (hnS : ¬ DFoot D R d.ss pv S) (b : List UInt8) (hb : b.length = 128) (g : Nat) (hg : g ≠ S) (hr : w.rangeAt g 0 (bcells b)) :
    Calls Tryd.prog 35 #[.pointer (some ⟨S, 0, none⟩), .slice (some ⟨g, 0, none⟩) 128 128] w fun e w' => e = .returned (.bool (readHeadM d.ss.length b).isSome) ∧ Turn (· = S) w w' ∧ ∀ m, readHeadM d.ss.length b = some m → SlC w' S D m := by
  have hgl : g < w.heap.size := range_lt hr (by rw [bcells_len]; omega)
  have hz := isZero_any w b g 128 (by omega) hr
  rw [hb] at hz
  unfold readHeadM
  cases hzz : isZ b with
  | true =>
    rw [hzz] at hz
    have HS := Lib.hid hs
    clear hs h hr hzz
    go_enter Tryd.func35, Tryd.ntmps35
    go_wp2_with (go_at_call 57; refine hz.mono ?_; rintro e w1 ⟨rfl, e1⟩; obtain rfl : w = w1 := e1.symm)
    go_ret
    exact ⟨rfl, Turn.of_below (Below.refl _ _), HS.out⟩
  | false =>
  rw [hzz] at hz
  rw [if_neg (by decide)]
  have Hh := Lib.hid h
  have hsl4 := fun w => cut_head g 4 (.inl rfl) w
  have hw4 := word_any w b g 4 124 124 (by omega) (by omega) hr
  have Hgl := Lib.hid hgl
  have HnS := Lib.hid hnS
  have Hb := Lib.hid hb
  obtain ⟨sv, hsv⟩ : ∃ sv, sv = getW b 4 := ⟨_, rfl⟩
  obtain ⟨ha, hha⟩ : ∃ ha, ha = (b.getD 8 0).toNat := ⟨_, rfl⟩
  obtain ⟨sz, hsz⟩ : ∃ sz, sz = getW b 9 := ⟨_, rfl⟩
  obtain ⟨zsv, hzsv⟩ : ∃ z : Int, z = (sv : Int) := ⟨_, rfl⟩
  obtain ⟨zha, hzha⟩ : ∃ z : Int, z = (ha : Int) := ⟨_, rfl⟩
  obtain ⟨zsz, hzsz⟩ : ∃ z : Int, z = (sz : Int) := ⟨_, rfl⟩
  have bsv : sv < 4294967296 := by rw [hsv]; exact getW_lt b 4
  have bha : ha < 256 := by rw [hha]; exact (b.getD 8 0).toNat_lt
  have bsz : sz < 4294967296 := by rw [hsz]; exact getW_lt b 9
  rw [← hsv] at hw4 ⊢
  rw [← hha]
  rw [← hsz]
  rw [← hzsv] at hw4
  obtain ⟨r, hr0⟩ : ∃ r, r = (if sv = 0 ∨ 1 < ha ∨ roomN d.ss.length < sz then none else if b = headL ⟨sv, ha, sz⟩ then some (⟨sv, ha, sz⟩ : SM) else none) := ⟨_, rfl⟩
  rw [← hr0]
  have HR0 := Lib.hid hr0
  clear hr0
  have HV := Lib.hid (And.intro hzsv (And.intro hzha (And.intro hzsz (And.intro hha (And.intro hsz (And.intro bsv (And.intro bha bsz)))))))
  clear hzsv hzha hzsz hha hsz hsv bsv bha bsz h hgl hnS hb hzz
  go_enter Tryd.func35, Tryd.ntmps35
  go_upto_region 3 with (go_at_call 57; refine hz.mono ?_; rintro e w1 ⟨rfl, e1⟩; obtain rfl : w = w1 := e1.symm)
  have HS := Lib.hid hs
  have HR := Lib.hid hr
  clear hz hs hr
  go_upto_region 4 with (go_at_call 58; refine hw4.mono ?_; rintro e w2 ⟨rfl, hb2⟩; have hs2 := HS.out.below hb2; have c1 := hs2.c1; have f1 := hs2.fr 1)
  refine wp_world (fun W => SlC W S D ⟨sv, 0, 0⟩ ∧ W.rangeAt g 0 (bcells b) ∧ Turn (· = S) w W) ⟨hs2.set1 sv zsv HV.out.1, ((Turn.of_below (F := (· = S)) hb2).trans (setTurn w2 S 1 _) (fun q hq => .inl hq)).range HR.out Hgl.out hg, (Turn.of_below (F := (· = S)) hb2).trans (setTurn w2 S 1 _) (fun q hq => .inl hq)⟩ ?_
  clear hs2 c1 f1 hb2 hw4 hsl4
  rintro W3 ⟨hs3, hr3, ht3⟩
  have k8 := byte_cell hr3 8 (by rw [Hb.out]; decide)
  rw [← HV.out.2.2.2.1, ← HV.out.2.1] at k8
  have c2 := hs3.c2
  have f2 := hs3.fr 2
  have cv8 : ∀ w, (convert 5 3 (.int .u8 zha)).run Tryd.prog w = .ok (.int .i64 zha) w := fun w => by rw [HV.out.2.1]; exact cvt_8i ha HV.out.2.2.2.2.2.2.1 w
  go_upto_region 5 with (fail)
  refine wp_world (fun W => SlC W S D ⟨sv, ha, 0⟩ ∧ W.rangeAt g 0 (bcells b) ∧ Turn (· = S) w W) ⟨hs3.set2 ha zha HV.out.2.1, (ht3.trans (setTurn W3 S 2 _) (fun q hq => .inl hq)).range HR.out Hgl.out hg, ht3.trans (setTurn W3 S 2 _) (fun q hq => .inl hq)⟩ ?_
  clear hs3 c2 f2 hr3 ht3 k8 cv8
  rintro W4 ⟨hs4, hr4, ht4⟩
  have hsl9 := fun w => cut_head g 9 (.inr rfl) w
  have hw9 := word_any W4 b g 9 119 119 (by rw [Hb.out]; decide) (by decide) hr4
  rw [← HV.out.2.2.2.2.1, ← HV.out.2.2.1] at hw9
  go_upto_region 6 with (go_at_call 58; refine hw9.mono ?_; rintro e w5 ⟨rfl, hb5⟩)
  refine wp_world (fun W => SlC W S D ⟨sv, ha, 0⟩ ∧ W.rangeAt g 0 (bcells b) ∧ Turn (· = S) w W) ⟨hs4.below hb5, (ht4.trans (Turn.of_below (F := (· = S)) hb5) (fun q hq => .inl hq)).range HR.out Hgl.out hg, ht4.trans (Turn.of_below (F := (· = S)) hb5) (fun q hq => .inl hq)⟩ ?_
  clear hs4 ht4 hr4 hb5 hw9 hsl9
  rintro W5 ⟨hs5, hr5, ht5⟩
  have c1 := hs5.c1
  have c2 := hs5.c2
  rw [← HV.out.1] at c1
  rw [← HV.out.2.1] at c2
  have cvs : ∀ w, (convert 74 2 (.int .u32 zsz)).run Tryd.prog w = .ok (.int .i64 zsz) w := fun w => by rw [HV.out.2.2.1]; exact cvt_32i _ sz HV.out.2.2.2.2.2.2.2 Tryd.underlying2 w
  have HS5 := Lib.hid hs5
  have HT5 := Lib.hid ht5
  by_cases q0 : sv = 0
  · have q0' : zsv = 0 := by rw [HV.out.1]; omega
    have er : r = none := HR0.out.trans (if_pos (.inl q0))
    clear hs5 ht5 hr5 q0 HR0
    rw [q0'] at c1
    have ER := Lib.hid er
    clear er
    go_wp2_with fail
    go_ret
    exact ⟨by rw [ER.out]; rfl, HT5.out, fun m hm => by rw [ER.out] at hm; cases hm⟩
  · have q0' : ¬ zsv = 0 := by rw [HV.out.1]; omega
    by_cases q1 : 1 < ha
    · have q1' : 1 < zha := by rw [HV.out.2.1]; omega
      have ER := Lib.hid (HR0.out.trans (if_pos (.inr (.inl q1))))
      clear hs5 ht5 hr5 q0 q1 HR0
      go_wp2_with fail
      go_ret
      exact ⟨by rw [ER.out]; rfl, HT5.out, fun m hm => by rw [ER.out] at hm; cases hm⟩
    · have q1' : ¬ 1 < zha := by rw [HV.out.2.1]; omega
      have hb5 : DkM W5 n D R d pv := DkS.other Hh.out ht5 (fun q hq e => HnS.out (by rw [← e]; exact hq))
      have hrm := roomS_any hb5 hs5
      have HB5 := Lib.hid hb5
      obtain ⟨rm, hrm0⟩ : ∃ rm, rm = roomN d.ss.length := ⟨_, rfl⟩
      rw [← hrm0] at hrm
      by_cases q2 : rm < sz
      · have q2' : (rm : Int) < zsz := by rw [HV.out.2.2.1]; omega
        have ER := Lib.hid (HR0.out.trans (if_pos (.inr (.inr (by rw [← hrm0]; exact q2)))))
        clear hs5 ht5 hr5 q0 q1 HR0 hb5 q2 hrm0
        go_wp2_with (go_at_call 31; refine hrm.mono ?_; rintro e W6 ⟨rfl, hb6⟩; have HB6 := Lib.hid hb6; clear hb6)
        go_ret
        exact ⟨by rw [ER.out]; rfl, HT5.out.trans (Turn.of_below (F := (· = S)) HB6.out) (fun q hq => .inl hq), fun m hm => by rw [ER.out] at hm; cases hm⟩
      · have q2' : ¬ (rm : Int) < zsz := by rw [HV.out.2.2.1]; omega
        have q0b : (zsv == 0) = false := by simpa using q0'
        have q2b : decide ((rm : Int) < zsz) = false := decide_eq_false q2'
        have ER := Lib.hid (HR0.out.trans (if_neg (by rw [← hrm0]; omega)))
        have hms : sz ≤ 51200 := by have := hb5.len; rw [hrm0] at q2; unfold roomN halfN at q2; omega
        have cvi : ∀ w, (convert 74 3 (.int .u32 zsz)).run Tryd.prog w = .ok (.int .i64 zsz) w := fun w => by rw [HV.out.2.2.1]; exact cvt_32i _ sz HV.out.2.2.2.2.2.2.2 Tryd.underlying3 w
        have HM : Hid (sz ≤ 51200 ∧ ha ≤ 1) := Lib.hid ⟨hms, by omega⟩
        clear hs5 ht5 hr5 q0 q1 HR0 hb5 q2 hrm0 hms
        go_upto_region 9 with (go_at_call 31; refine hrm.mono ?_; rintro e W6 ⟨rfl, hb6⟩; have hs6 := HS5.out.below hb6; have HS6 := Lib.hid hs6; have HB6 := Lib.hid hb6; have c3 := hs6.c3; have f3 := hs6.fr 3; clear hs6 hb6)
        have hs7 := HS6.out.set3 sz zsz HV.out.2.2.1
        have ht7 := (HT5.out.trans (Turn.of_below (F := (· = S)) HB6.out) (fun q hq => .inl hq)).trans (setTurn W6 S 3 (.int .i64 zsz)) (fun q hq => .inl hq)
        refine wp_world (fun W => SlC W S D ⟨sv, ha, sz⟩ ∧ W.rangeAt g 0 (bcells b) ∧ Turn (· = S) w W ∧ g < W.heap.size) ⟨hs7, ht7.range HR.out Hgl.out hg, ht7, Nat.lt_of_lt_of_le Hgl.out ht7.size⟩ ?_
        clear hs7 ht7 c3 f3 hrm q0' q1' q2' q0b q2b
        rintro W7 ⟨hs7, hr7, ht7, hgl7⟩
        have hhd := head_any hs7 ⟨by have := HV.out.2.2.2.2.2.1; show sv ≤ 4294967295; omega, by have := HM.out; show ha ≤ 255; omega, by have := HM.out; show sz ≤ 1000000; omega⟩
        have HS7 := Lib.hid hs7
        have HT7 := Lib.hid ht7
        have HR7 := Lib.hid hr7
        clear hs7 ht7 hr7
        go_wp2_with (first | (go_at_call 60; refine hhd.mono ?_; rintro e W8 ⟨g2, rfl, hg2, hr8, hb8⟩; have heq := equal_any W8 b (headL ⟨sv, ha, sz⟩) g 128 g2 128 (range_b HR7.out hb8 hgl7) hr8; rw [Hb.out, show (headL ⟨sv, ha, sz⟩).length = 128 from (headB ⟨sv, ha, sz⟩).h] at heq; have HB8 := Lib.hid hb8; clear hb8 hr8 hhd) | (go_at_call 59; refine heq.mono ?_; rintro e W9 ⟨rfl, e9⟩; obtain rfl : W8 = W9 := e9.symm; clear heq))
        go_ret
        have hT := HT7.out.trans (Turn.of_below (F := (· = S)) HB8.out) (fun q hq => .inl hq)
        by_cases hq : b = headL ⟨sv, ha, sz⟩
        · have e2 : r = some ⟨sv, ha, sz⟩ := ER.out.trans (if_pos hq)
          refine ⟨by rw [e2, decide_eq_true hq]; rfl, hT, fun m hm => ?_⟩
          rw [e2] at hm
          cases hm
          exact HS7.out.below HB8.out
        · have e2 : r = none := ER.out.trans (if_neg hq)
          exact ⟨by rw [e2, decide_eq_false hq]; rfl, hT, fun m hm => by rw [e2] at hm; cases hm⟩
end
theorem exec_copy {P : Program} {a : Act} {w : World} {o : Oper} {d s : Operand} {t u ty : TypeId} {vd vs v' : Value} {w' : World} (ho : o.op = .call { callee := .builtin .copy, args := #[d, s], argTypes := #[t, u] }) (hty : o.type = ty) (hx : (a.eval d, a.eval s) = (vd, vs))
    (he : (Builtin.copy_ #[t, u] ty #[vd, vs]).run P w = .ok v' w') : (execOp a.eval o).run P w = .ok (.value v') w' := by
  simp only [Prod.mk.injEq] at hx
  simp only [execOp, ho, resolve, invoke, builtin, Sem.run_bind, Sem.run_pure, Result.andThen_ok, List.map_toArray, List.map_cons, List.map_nil, hx.1, hx.2, hty, he]
theorem blk_row (b : List UInt8) (j : Nat) : (((bcells zc).toArray.toList.take 0 ++ bcells ((b.drop (128 * j)).take 128) ++ (bcells zc).toArray.toList.drop (0 + (bcells ((b.drop (128 * j)).take 128)).length)).toArray) = (bcells (blkOf b j).l).toArray := by
  congr 1
  show List.take 0 _ ++ bcells _ ++ List.drop _ (bcells zc) = bcells (_ ++ _)
  rw [bcells_app, bcells_len, List.take_zero, List.nil_append, Nat.zero_add]
  congr 1
  have e : bcells zc = List.replicate 128 (cellB 0) := by simp [bcells, zc]
  rw [e, List.drop_replicate]
  simp [bcells]
theorem needS_lt {n j : Nat} (h : j < needS n) : 128 * j < n := by unfold needS at h; omega
theorem needS_ge {n j : Nat} (h : ¬ j < needS n) : n ≤ 128 * j := by unfold needS at h; omega
theorem blks_len (b : List UInt8) : (blks b).length = needS b.length := by simp [blks]
theorem blks_drop (b : List UInt8) (j : Nat) (h : j < needS b.length) : (blks b).drop j = blkOf b j :: (blks b).drop (j + 1) := by
  rw [List.drop_eq_getElem_cons (by rw [blks_len]; exact h)]
  simp [blks]
theorem blks_all (b : List UInt8) (j : Nat) (h : ¬ j < needS b.length) : (blks b).drop j = [] := List.drop_eq_nil_of_le (by rw [blks_len]; omega)
theorem ev_true (E : Nat → Addr) : ev E true = errV (E 0) := rfl
theorem ev_false (E : Nat → Addr) : ev E false = .nilIface := rfl
/-- the bytes that are handed over -/
structure SrcB (w : World) (A : Option Addr) (c : Nat) (b : List UInt8) (gb ob : Nat) : Prop where
  a : A = some ⟨gb, ob, none⟩
  l : gb < w.heap.size
  r : w.rangeAt gb ob (bcells b)
  c : b.length ≤ c
theorem runW_next (d : DM) (i : Nat) (B : Blk) (bs : List Blk) : runW d i (B :: bs) = if d.bad = true then (true, d.wr i B) else runW (d.wr i B) (i + 1) bs := rfl
theorem slice_cut (A : Option Addr) (L c q : Nat) (h : q ≤ L) (w : World) : (Instr.sliceAt 41 (.slice A L c) (some (.int .i64 (q : Int))) none none).run Tryd.prog w = .ok (.slice (cutA A q c) (L - q) (c - q)) w := by
  have hu := Tryd.underlying41
  have e2 : Tryd.prog.elem 41 = 5 := by simp [Program.elem, hu]
  rw [run_sliceAt_slice (h := by rw [e2]; exact hu)]
  exact slice_sl_l hu info_U8 A L c q _ rfl h w
section
variable {w : World} {D R S : Nat} {d : DM} {pv : Nat → Value} {m : SM}
set_option maxRecDepth 100000 in
set_option maxHeartbeats 3200000 in
theorem writeS_any (E : Nat → Addr) (w0 : World) (hE : ErrD E w0) (hb : Below w0.heap.size w0 w) (h : DkM w w0.heap.size D R d pv) (hp : PL d 1000) (hs : SlC w S D m) (hm : m.ok) (hnS : ¬ DFoot D R d.ss pv S) (b : List UInt8) (hsz : m.size = b.length) (hfit : m.from d.ss.length + needS b.length ≤ d.ss.length) (A : Option Addr) (c gb ob : Nat) (hsrc : 0 < b.length → SrcB w A c b gb ob ∧ ¬ DFoot D R d.ss pv gb) :
    Calls Tryd.prog 49 #[.pointer (some ⟨S, 0, none⟩), .slice A b.length c] w fun e w' => e = .returned (ev E (writeM d m b).1) ∧ ∃ pv', DkT w w' w0.heap.size D R d (writeM d m b).2 pv pv' := by
  have hpl := place_any h hs hm
  have hlen := h.len.2
  have hmsz := hm.2.2
  rw [hsz] at hpl hmsz
  unfold writeM
  obtain ⟨fr, hfr⟩ : ∃ fr, fr = m.from d.ss.length := ⟨_, rfl⟩
  rw [← hfr] at hpl hfit ⊢
  obtain ⟨nd, hnd⟩ : ∃ nd, nd = needS b.length := ⟨_, rfl⟩
  rw [← hnd] at hpl hfit
  obtain ⟨rr, hrr⟩ : ∃ rr, rr = runW d fr (blks b) := ⟨_, rfl⟩
  rw [← hrr]
  have HS := Lib.hid hs
  have Hh := Lib.hid h
  have HN := Lib.hid hnd
  have HR := Lib.hid hrr
  have Hb := Lib.hid hb
  have HnS := Lib.hid hnS
  have Hsrc := Lib.hid hsrc
  have HP := Lib.hid hp
  have HM := Lib.hid hmsz
  clear hs h hnd hrr hb hnS hsrc hp hm hsz hfr hmsz
  go_enter Tryd.func49, Tryd.ntmps49
  go_upto_region 2 with (go_at_call 47; refine hpl.mono ?_; rintro e w1 ⟨rfl, hb1⟩)
  have HB1 := Lib.hid hb1
  clear hpl hb1
  obtain ⟨bl, hbl⟩ : ∃ bl, bl = b.length := ⟨_, rfl⟩
  rw [← hbl]
  have HBL := Lib.hid hbl
  clear hbl
  go_wp2_with fail
  go_loopw [1, 7] (fun x y wr => ∃ (j : Nat) (dj : DM) (pvj : Nat → Value) (Aj : Option Addr) (L cj oj : Nat), j ≤ nd ∧ y = .int .i64 ((fr + j : Nat) : Int) ∧ x = .slice Aj L cj ∧ L = b.length - 128 * j ∧ (0 < L → Aj = some ⟨gb, oj, none⟩ ∧ oj = ob + 128 * j ∧ L ≤ cj) ∧ DkT w wr w0.heap.size D R d dj pv pvj ∧ PL dj (1000 + j) ∧ rr = runW dj (fr + j) ((blks b).drop j)) (fun _ y _ => fr + nd - (intOf y).toNat)
  case atStart => exact ⟨0, d, pv, A, bl, c, ob, by omega, rfl, rfl, by rw [HBL.out]; rfl, fun h0 => ⟨(Hsrc.out (by rw [← HBL.out]; exact h0)).1.a, by omega, by rw [HBL.out]; exact (Hsrc.out (by rw [← HBL.out]; exact h0)).1.c⟩, DkT.refl Hh.out HB1.out, HP.out, HR.out⟩
  case round =>
    obtain ⟨j, dj, pvj, Aj, L, cj, oj, hj, rfl, rfl, hL, hAj, hT, hPj, hrun⟩ := hrel
    have HT := Lib.hid hT
    have HPj := Lib.hid hPj
    have Hrun := Lib.hid hrun
    have hTb := hT.base Hh.out Hb.out
    have HTb := Lib.hid hTb
    have hsj := HS.out.turn hT.t HnS.out
    have HSj := Lib.hid hsj
    clear hT hPj hrun hTb hsj
    by_cases hlt : j < nd
    · have hjb : 128 * j < b.length := needS_lt (by rw [← HN.out]; exact hlt)
      have hLp : 0 < L := by omega
      obtain ⟨rfl, hoj, hcj⟩ := hAj hLp
      obtain ⟨hSr, hnG⟩ := Hsrc.out (by omega)
      have hlt2 : ((fr + j : Nat) : Int) < ((fr + nd : Nat) : Int) := by omega
      have hmk := make_128 wr
      go_upto_region 6 with (fail)
      obtain ⟨G, hG⟩ : ∃ G, G = wr.heap.size := ⟨_, rfl⟩
      rw [← hG]
      have hb1 := below_alc wr (.cells (bcells zc).toArray 5)
      obtain ⟨W1, hW1⟩ : ∃ W1, W1 = wr.alloc (.cells (bcells zc).toArray 5) := ⟨_, rfl⟩
      rw [← hW1]
      have hG1 : W1.heap[G]? = some (.cells (bcells zc).toArray 5 (0, 0)) := by rw [hW1, hG]; exact heap1_0 wr _
      obtain ⟨q, hq⟩ : ∃ q, q = min L 128 := ⟨_, rfl⟩
      obtain ⟨cs, hcs⟩ : ∃ cs, cs = (b.drop (128 * j)).take 128 := ⟨_, rfl⟩
      have hcsl : cs.length = q := by rw [hcs, hq, hL, Nat.min_comm]; simp
      have hgbl : gb < wr.heap.size := Nat.lt_of_lt_of_le hSr.l HT.out.t.size
      have hsrcj : ∀ i v, (bcells cs)[i]? = some v → W1.cell? ((Addr.mk gb oj none).add i) = some v := fun i v hi => by
        rw [add_eq, hW1, hb1.cell (p := ⟨gb, oj + i, none⟩) hgbl, HT.out.t.cell hSr.l hnG, hoj, Nat.add_assoc]
        have h128 : i < 128 := by have := (List.getElem?_eq_some_iff.1 hi).1; rw [bcells_len, hcsl] at this; omega
        refine hSr.r (128 * j + i) v ?_
        rw [← hi, hcs]
        simp [bcells, h128]
      have hcp := run_copy_row (P := Tryd.prog) W1 41 41 3 5 G 0 128 128 ⟨gb, oj, none⟩ L cj _ 5 (bcells cs) Tryd.underlying41 info_U8 hG1 (by rw [bcells_len, hcsl, hq]) hsrcj (by rw [bcells_len, hcsl, hq]; simp [bcells_len, zc_len] <;> omega) (bcells_one cs)
      rw [hcs, blk_row b j, ← hcs, bcells_len, hcsl] at hcp
      obtain ⟨W2, hW2⟩ : ∃ W2, W2 = W1.setRow G (bcells (blkOf b j).l).toArray := ⟨_, rfl⟩
      rw [← hW2] at hcp
      have hcp : (Builtin.copy_ #[41, 41] 3 #[.slice (some ⟨G, 0, none⟩) 128 128, .slice (some ⟨gb, oj, none⟩) L cj]).run Tryd.prog W1 = .ok (.int .i64 (q : Int)) W2 := hcp
      have hW2e : W2 = wr.alloc (.cells (bcells (blkOf b j).l).toArray 5) := by rw [hW2, hW1, hG]; exact alloc_setRow _ _ _ _
      obtain ⟨A2, hA2⟩ : ∃ A2, A2 = cutA (some ⟨gb, oj, none⟩) q cj := ⟨_, rfl⟩
      obtain ⟨L2, hL2⟩ : ∃ L2, L2 = L - q := ⟨_, rfl⟩
      obtain ⟨c2, hc2⟩ : ∃ c2, c2 = cj - q := ⟨_, rfl⟩
      have hcut : ∀ w, (Instr.sliceAt 41 (.slice (some ⟨gb, oj, none⟩) L cj) (some (.int .i64 (q : Int))) none none).run Tryd.prog w = .ok (.slice A2 L2 c2) w := fun w => by rw [hA2, hL2, hc2]; exact slice_cut _ L cj q (by omega) w
      have HX : Hid (L2 = b.length - 128 * (j + 1) ∧ (0 < L2 → A2 = some ⟨gb, ob + 128 * (j + 1), none⟩ ∧ L2 ≤ c2)) := Lib.hid ⟨by omega, fun h0 => ⟨by rw [hA2, cutA_some (by omega) hcj, show oj + q = ob + 128 * (j + 1) by omega], by omega⟩⟩
      have HW := Lib.hid hW2e
      have HGe := Lib.hid hG
      have Hlt := Lib.hid hlt
      have Hfit := Lib.hid hfit
      have hi64 : fr + j < 10000 := by omega
      clear hmk hb1 hW1 hG1 hq hcs hcsl hsrcj hW2 hW2e hA2 hL2 hc2 hL hAj hG hjb hLp hcj hoj hlt hgbl
      refine wp_region_lit ?_
      refine wpList_run (by kernel_rfl) (.slice (some ⟨gb, oj, none⟩) L cj) (W1) (exec_move rfl (by kernel_rfl)) ?_
      refine wpList_run (by kernel_rfl) (.slice (some ⟨G, 0, none⟩) 128 128) (W1) (exec_move rfl (by kernel_rfl)) ?_
      refine wpList_run (by kernel_rfl) (.slice (some ⟨gb, oj, none⟩) L cj) (W1) (exec_move rfl (by kernel_rfl)) ?_
      refine wpList_run (by kernel_rfl) (.int .i64 (q : Int)) (W2) (exec_copy rfl rfl (by kernel_rfl) hcp) ?_
      simp only [put_list, List.set_cons_zero, List.set_cons_succ]
      refine wpList_run (by kernel_rfl) (.slice A2 L2 c2) (W2) (exec_slice (vx := .slice (some ⟨gb, oj, none⟩) L cj) (l := some (.int .i64 (q : Int))) (h := none) (m := none) rfl (by kernel_rfl) (hcut W2)) ?_
      refine wpList_run (by kernel_rfl) (.slice A2 L2 c2) (W2) (exec_assign rfl (by kernel_rfl)) ?_
      refine wpList_nil ?_
      simp only [put_list, List.set_cons_zero, List.set_cons_succ]
      go_upto_region 7 with (fail)
      rw [HW.out]
      have hbw := below_alc wr (.cells (bcells (blkOf b j).l).toArray 5)
      refine wp_world (fun W => DkT w W w0.heap.size D R d dj pv pvj ∧ W.rangeAt G 0 (bcells (blkOf b j).l) ∧ SlC W S D m ∧ Below w0.heap.size w0 W ∧ ¬ DFoot D R dj.ss pvj G) ⟨HT.out.below hbw, by rw [HGe.out]; exact range_new (heap1_0 wr _), HSj.out.below hbw, HTb.out.trans (hbw.mono HTb.out.size), fun hh => by have := HT.out.dk.ltF hh; rw [HGe.out] at this; exact Nat.lt_irrefl _ this⟩ ?_
      clear hcp hcut hbw
      rintro W3 ⟨hT3, hr3, hs3, hb3, hnG3⟩
      have hi : fr + j < dj.ss.length := by have := hT3.l; have := Hlt.out; have := Hfit.out; omega
      have hwr := write_m E w0 hE hb3 hT3.dk (HPj.out.mono (by have := Hlt.out; have := Hfit.out; omega)) (fr + j) hi (blkOf b j) G 0 128 hr3 hnG3
      have c0 := hs3.c0
      have HT3 := Lib.hid hT3
      clear hT3 hr3 hs3 hb3 hnG3 hi hfit
      have hnx := runW_next dj (fr + j) (blkOf b j) ((blks b).drop (j + 1))
      rw [← blks_drop b j (by rw [← HN.out]; exact Hlt.out), ← Hrun.out] at hnx
      cases hbad : dj.bad with
      | true =>
        rw [hbad, ev_true] at hwr
        rw [hbad, if_pos rfl] at hnx
        have HX2 := Lib.hid hnx
        clear hbad hnx
        go_wp2_with (go_at_call 32; refine hwr.mono ?_; rintro e W4 ⟨rfl, pv4, hT4⟩; have HT4 := Lib.hid (HT3.out.trans hT4); clear hT4)
        go_ret
        rw [HX2.out]
        exact ⟨rfl, pv4, HT4.out⟩
      | false =>
        rw [hbad, ev_false] at hwr
        rw [hbad, if_neg (by decide)] at hnx
        have HX2 := Lib.hid hnx
        clear hbad hnx
        go_wp2_with (go_at_call 32; refine hwr.mono ?_; rintro e W4 ⟨rfl, pv4, hT4⟩; have HT4 := Lib.hid (HT3.out.trans hT4); clear hT4)
        go_roundw
        case rel => exact ⟨j + 1, _, pv4, A2, L2, c2, ob + 128 * (j + 1), by have := Hlt.out; omega, by go_num, rfl, HX.out.1, fun h0 => ⟨(HX.out.2 h0).1, rfl, (HX.out.2 h0).2⟩, HT4.out, (HPj.out.wr _ _).mono (by omega), HX2.out⟩
        case measure => have := Hlt.out; simp [intOf] <;> omega
    · obtain rfl : j = nd := by omega
      have hsy := sync_m E (hE.below HTb.out) HT.out.dk
      have c0 := HSj.out.c0
      have e2 := Hrun.out
      rw [blks_all b j (by rw [← HN.out]; exact hlt)] at e2
      have HE2 := Lib.hid (show rr = (false, dj) from e2)
      have hge : ¬ ((fr + j : Nat) : Int) < ((fr + j : Nat) : Int) := by omega
      clear hlt hj hAj hL e2
      go_wp2_with (go_at_call 33; refine hsy.mono ?_; rintro e W4 ⟨rfl, pv4, hT4⟩; have HT4 := Lib.hid (HT.out.trans hT4); clear hT4)
      go_ret
      rw [HE2.out]
      exact ⟨rfl, pv4, HT4.out⟩
end
section
variable {w : World} {D R S : Nat} {d : DM} {pv : Nat → Value} {m : SM}
set_option maxRecDepth 100000 in
set_option maxHeartbeats 3200000 in
theorem writeHead_any (E : Nat → Addr) (w0 : World) (hE : ErrD E w0) (Hb : Below w0.heap.size w0 w) (h : DkM w w0.heap.size D R d pv) (hp : PL d 1000) (hs : SlC w S D m) (hm : m.ok) (hnS : ¬ DFoot D R d.ss pv S) :
    Calls Tryd.prog 50 #[.pointer (some ⟨S, 0, none⟩)] w fun e w' => e = .returned (ev E (writeHeadM d m).1) ∧ ∃ pv', DkT w w' w0.heap.size D R d (writeHeadM d m).2 pv pv' := by
  have hlen := h.len.1
  unfold writeHeadM
  obtain ⟨rr, hrr⟩ : ∃ rr, rr = runW d 0 [headB m] := ⟨_, rfl⟩
  rw [← hrr]
  have HR := Lib.hid hrr
  clear hrr
  go_enter Tryd.func50, Tryd.ntmps50
  go_upto_region 1 with (fail)
  refine wp_region_noPanic ?_
  refine wp_region_held_drew (S := fun W => SlC W S D m) (by kernel_rfl) (hs.below (Below.drewNr (w := w) 1)) (fun hHeld => ?_)
  refine held_move 0 (Go.Operand.tmp 0) (some 4) (.pointer (some ⟨S, 0, none⟩)) (by kernel_rfl) (by kernel_rfl) (by kernel_rfl) (by kernel_rfl) (by kernel_rfl) (fun _ _ _ _ _ h => h) hHeld ?_
  refine held_nil 1 (Go.Operand.tmp 4) (some 5) ⟨S, 0, none⟩ (by kernel_rfl) (by kernel_rfl) (by kernel_rfl) (by kernel_rfl) (by kernel_rfl) (fun _ _ _ _ _ h => h) hHeld ?_
  refine held_field 2 76 (Go.Operand.tmp 5) 0 (some 6) (.pointer (some ⟨S, 0, none⟩)) (.pointer (some ⟨S, 0, none⟩)) (by kernel_rfl) (by kernel_rfl) (fun w => by kernel_rfl) (by kernel_rfl) (by kernel_rfl) (by kernel_rfl) (fun _ _ _ _ _ h => h) hHeld ?_
  refine held_cell 3 25 (Go.Operand.tmp 6) (some 7) (.pointer (some ⟨S, 0, none⟩)) (.pointer (some ⟨D, 0, none⟩)) (by kernel_rfl) (by kernel_rfl) (fun W hW => load_slice S 0 W 25 (fun w => by kernel_rfl) _ hW.c0) (by kernel_rfl) (by kernel_rfl) (by kernel_rfl) (fun _ _ _ _ _ h => h) hHeld ?_
  refine held_move 4 (Go.Operand.tmp 0) (some 8) (.pointer (some ⟨S, 0, none⟩)) (by kernel_rfl) (by kernel_rfl) (by kernel_rfl) (by kernel_rfl) (by kernel_rfl) (fun _ _ _ _ _ h => h) hHeld ?_
  refine held_call 5 60 #[Go.Operand.tmp 8] #[29] (some 9) #[.pointer (some ⟨S, 0, none⟩)] _ (by kernel_rfl) (by kernel_rfl) (by kernel_rfl) (by kernel_rfl) (head_any hHeld hm) ?_
  rintro e W1 ⟨g, rfl, hg, hr1, hb1⟩
  have hbb : Below w.heap.size w W1 := below_dr hb1
  have hwr := write_m E w0 hE (Hb.trans (hbb.mono Hb.size)) (h.below hbb) (hp.mono (by omega)) 0 hlen (headB m) g 0 128 hr1 (fun hh => by have h1 := h.ltF hh; have h2 : w.heap.size ≤ g := hg; omega)
  refine ⟨_, rfl, hHeld.below hb1, fun hHeld => ?_⟩
  refine held_call 6 32 #[Go.Operand.tmp 7, Go.Operand.const (Go.Value.int Go.IntKind.i64 0), Go.Operand.tmp 9] #[25, 3, 41] (some 10) #[.pointer (some ⟨D, 0, none⟩), Go.Value.int Go.IntKind.i64 0, .slice (some ⟨g, 0, none⟩) 128 128] _ (by kernel_rfl) (by kernel_rfl) (by kernel_rfl) (by kernel_rfl) (hwr) ?_
  rintro e W2 ⟨rfl, pv2, hT2⟩
  have hT := DkT.ahead hbb h hT2
  refine ⟨_, rfl, hs.turn hT.t hnS, fun hHeld => ?_⟩
  refine held_assign 7 (Go.Operand.tmp 10) (some 3) (ev E d.bad) (by kernel_rfl) (by kernel_rfl) (by kernel_rfl) (by kernel_rfl) (by kernel_rfl) (fun _ _ _ _ _ h => h) hHeld ?_
  refine wpAnyH_done (by kernel_rfl) ?_ _
  refine NoPanic.normal ?_
  simp only [Act.put, List.setIfInBounds_toArray, List.set_cons_zero, List.set_cons_succ]
  have hnx := runW_next d 0 (headB m) []
  rw [← HR.out] at hnx
  have HT := Lib.hid hT
  have hsy := sync_m E (hE.below (hT.base h Hb)) hT.dk
  have c0 := hHeld.c0
  clear hT hT2 hwr hHeld
  cases hbad : d.bad with
  | true =>
    rw [hbad, if_pos rfl] at hnx
    rw [ev_true]
    have HX := Lib.hid hnx
    clear hbad hnx hsy
    go_wp2_with fail
    go_ret
    rw [HX.out]
    exact ⟨rfl, pv2, HT.out⟩
  | false =>
    rw [hbad, if_neg (by decide)] at hnx
    rw [ev_false]
    have HX := Lib.hid (show rr = (false, d.wr 0 (headB m)) from hnx)
    clear hbad hnx
    go_wp2_with (go_at_call 33; refine hsy.mono ?_; rintro e W4 ⟨rfl, pv4, hT4⟩; have HT4 := Lib.hid (HT.out.trans hT4); clear hT4)
    go_ret
    rw [HX.out]
    exact ⟨rfl, pv4, HT4.out⟩
theorem made_src (n : Nat) (w : World) : (w.alloc (.cells (madeCells #[.int .u8 0] n) 5)).rangeAt w.heap.size 0 (bcells (List.replicate n 0)) := fun j v hv => by
  have hj : j < n := by have := (List.getElem?_eq_some_iff.1 hv).1; simpa [bcells] using this
  have hr := World.rowIs_made w (.int .u8 0) n 5
  obtain ⟨c, h1, _, h3⟩ := hr
  rw [Nat.zero_add]
  have e : v = .int .u8 0 := by simp [bcells, hj, cellB] at hv; exact hv.symm
  rw [e]
  simp only [World.cell?, h1]
  exact h3 j hj
set_option maxRecDepth 100000 in
set_option maxHeartbeats 3200000 in
theorem wipe_any (E : Nat → Addr) (w0 : World) (hE : ErrD E w0) (Hb : Below w0.heap.size w0 w) (h : DkM w w0.heap.size D R d pv) (hp : PL d 1000) (hs : SlC w S D m) (hm : m.ok) (hnS : ¬ DFoot D R d.ss pv S) (hfit : m.from d.ss.length + needS m.size ≤ d.ss.length) :
    Calls Tryd.prog 51 #[.pointer (some ⟨S, 0, none⟩)] w fun e w' => e = .returned (ev E (wipeM d m).1) ∧ ∃ pv', DkT w w' w0.heap.size D R d (wipeM d m).2 pv pv' := by
  have c3 := hs.c3
  have hms := hm.2.2
  unfold wipeM
  by_cases h0 : m.size = 0
  · rw [h0] at c3
    rw [if_pos h0]
    have HT := Lib.hid (DkT.refl h (Below.refl _ _))
    clear h hs hms h0 hm hfit
    have c3' : w.cell? ⟨S, 3, none⟩ = some (.int .i64 0) := c3
    clear c3
    go_enter Tryd.func51, Tryd.ntmps51
    go_wp2_with fail
    go_ret
    exact ⟨rfl, pv, HT.out⟩
  · rw [if_neg h0]
    have hmk := run_make_row' (P := Tryd.prog) 41 5 (.int .u8 0) 1 Tryd.underlying41 info_U rfl .i64 .i64 m.size (by omega) (by omega) w
    have hbb := below_alc w (.cells (madeCells #[.int .u8 0] m.size) 5)
    have hsrc := made_src m.size w
    have hl : (List.replicate m.size (0 : UInt8)).length = m.size := List.length_replicate ..
    have hwr := writeS_any E w0 hE (Hb.trans (hbb.mono Hb.size)) (h.below hbb) hp (hs.below hbb) hm hnS (List.replicate m.size 0) hl.symm (by rw [hl]; exact hfit) (some ⟨w.heap.size, 0, none⟩) m.size w.heap.size 0 (fun _ => ⟨⟨rfl, by simp, hsrc, by rw [hl]; exact Nat.le_refl _⟩, fun hh => Nat.lt_irrefl _ (h.ltF hh)⟩)
    rw [hl] at hwr
    have HT := Lib.hid (fun w' pv' (k : DkT (w.alloc (.cells (madeCells #[.int .u8 0] m.size) 5)) w' w0.heap.size D R d (writeM d m (List.replicate m.size 0)).2 pv pv') => DkT.ahead hbb h k)
    have h0' : ¬ (m.size : Int) = 0 := by omega
    generalize madeCells #[.int .u8 0] m.size = MC at *
    clear h hs hms h0 hm hfit hsrc hl hbb
    go_enter Tryd.func51, Tryd.ntmps51
    go_wp2_with (go_at_call 49; refine hwr.mono ?_; rintro e W4 ⟨rfl, pv4, hT4⟩; have HT4 := Lib.hid (HT.out _ _ hT4); clear hT4)
    go_ret
    exact ⟨rfl, pv4, HT4.out⟩
end
theorem alloc_st (w : World) : (Instr.alloc 76 true (.tuple #[])).run Tryd.prog w = .ok (.pointer (some ⟨w.heap.size, 0, none⟩)) (w.alloc (.cells #[.pointer none, .int .u32 0, .int .i64 0, .int .i64 0] 76)) := by kernel_rfl
theorem store_st (w : World) (g : Nat) (old cs : Array Value) (hg : w.heap[g]? = some (.cells old 76 (0, 0))) (ho : old.size = 4) (hc : cs.size = 4) (h1 : cs.all (·.oneCell') = true) : (Instr.storeAt 76 (.pointer (some ⟨g, 0, none⟩)) (.agg cs)).run Tryd.prog w = .ok () (w.setRow g cs) := by
  have hi : (Tryd.prog.info? 76).map (·.size) = some 4 := by kernel_rfl
  simp only [Instr.storeAt, Instr.sureAddr, Sem.run_bind, Sem.run_pure, Result.andThen_ok, run_storeVar_row w g _ _ old cs hg (by rw [hc]; exact hi) (by rw [ho, hc]) h1]
theorem add_u32 (t : TypeId) (x y : Operand) (w : World) (a b : Int) (h : a + 1 = b) (hb : 0 ≤ b ∧ b ≤ 4294967295) : (do eqGuard .add t x y (.int .u32 a) (.int .u32 1); binOp .add t (.int .u32 a) (.int .u32 1) : Sem Value).run Tryd.prog w = .ok (.int .u32 b) w := by
  have e : IntKind.u32.wrap (a + 1) = b := by rw [h, IntKind.wrap_u32]; omega
  simp [eqGuard, binOp, Op.intArith, e]
theorem runW_len : ∀ (bs : List Blk) (d : DM) (i : Nat), (runW d i bs).2.ss.length = d.ss.length
  | [], _, _ => rfl
  | B :: bs, d, i => by
    rw [runW_next]
    split
    · exact wr_len d i B
    · rw [runW_len bs]; exact wr_len d i B
theorem thenSy_len (r : Bool × DM) : (thenSy r).2.ss.length = r.2.ss.length := by
  unfold thenSy
  split
  · rfl
  · exact sy_len r.2
theorem PL_runW : ∀ (bs : List Blk) (d : DM) (i k : Nat), PL d k → PL (runW d i bs).2 (k + bs.length)
  | [], _, _, _, h => h
  | B :: bs, d, i, k, h => by
    rw [runW_next]
    split
    · exact (h.wr i B).mono (by simp)
    · exact (PL_runW bs (d.wr i B) (i + 1) (k + 1) (h.wr i B)).mono (by simp; omega)
theorem PL_thenSy {r : Bool × DM} {k : Nat} (h : PL r.2 k) : PL (thenSy r).2 k := by
  unfold thenSy
  split
  · exact h
  · exact h.sy
theorem writeM_len (d : DM) (m : SM) (b : List UInt8) : (writeM d m b).2.ss.length = d.ss.length := by unfold writeM; rw [thenSy_len, runW_len]
theorem writeHeadM_len (d : DM) (m : SM) : (writeHeadM d m).2.ss.length = d.ss.length := by unfold writeHeadM; rw [thenSy_len, runW_len]
theorem wipeM_len (d : DM) (m : SM) : (wipeM d m).2.ss.length = d.ss.length := by
  unfold wipeM
  split
  · rfl
  · exact writeM_len d m _
theorem PL_writeM {d : DM} {k : Nat} (h : PL d k) (m : SM) (b : List UInt8) : PL (writeM d m b).2 (k + needS b.length) := by
  have := PL_thenSy (PL_runW (blks b) d (m.from d.ss.length) k h)
  rw [blks_len] at this
  exact this
theorem PL_writeHeadM {d : DM} {k : Nat} (h : PL d k) (m : SM) : PL (writeHeadM d m).2 (k + 1) := PL_thenSy (PL_runW [headB m] d 0 k h)
theorem PL_wipeM {d : DM} {k : Nat} (h : PL d k) (m : SM) : PL (wipeM d m).2 (k + needS m.size) := by
  unfold wipeM
  split
  · exact h.mono (by omega)
  · have := PL_writeM h m (List.replicate m.size 0)
    rwa [List.length_replicate] at this
/-- the error's value -/
def eo (E : Nat → Addr) : Option Nat → Value
  | none => .nilIface
  | some k => errV (E k)
/-- a struct that fits its disk -/
def SM.fits (m : SM) (N : Nat) : Prop := m.saves ≤ 4294967295 ∧ m.half ≤ 1 ∧ m.size ≤ roomN N
theorem fit_from {m : SM} {N : Nat} (h : m.half ≤ 1) (hs : m.size ≤ roomN N) (hN : 0 < N) : m.from N + needS m.size ≤ N := by
  have h1 : needS m.size ≤ halfN N := by unfold needS; unfold roomN at hs; omega
  have h2 : m.half * halfN N ≤ 1 * halfN N := Nat.mul_le_mul_right _ h
  unfold SM.from
  unfold halfN at h1 h2 ⊢
  omega
theorem SM.fits.ok {m : SM} {N : Nat} (h : m.fits N) (hN : N ≤ 400) : m.ok := ⟨h.1, by have := h.2.1; omega, by have := h.2.2; unfold roomN halfN at this; omega⟩
/-- what Save has made of disk and struct -/
structure DkU (w w' : World) (n D R S : Nat) (d d' : DM) (pv pv' : Nat → Value) : Prop where
  dk : DkM w' n D R d' pv'
  t : Turn (fun q => DFoot D R d.ss pv q ∨ q = S) w w'
  f : Fresh w pv pv'
  l : d'.ss.length = d.ss.length
section
variable {w : World} {D R S : Nat} {d : DM} {pv : Nat → Value} {m : SM}
theorem DkT.toU {w' : World} {n : Nat} {d' : DM} {pv' : Nat → Value} (h : DkT w w' n D R d d' pv pv') (S : Nat) : DkU w w' n D R S d d' pv pv' := ⟨h.dk, h.t.mono fun _ hq => .inl hq, h.f, h.l⟩
theorem next_half {m : SM} (h : m.half ≤ 1) (n : Nat) : (m.next n).half ≤ 1 := by
  unfold SM.next
  show (if 0 < m.saves then 1 - m.half else 0) ≤ 1
  split <;> omega
set_option maxRecDepth 100000 in
set_option maxHeartbeats 3200000 in
theorem save_any (E : Nat → Addr) (w0 : World) (hE : ErrD E w0) (hlS : w0.heap.size ≤ S) (Hb : Below w0.heap.size w0 w) (h : DkM w w0.heap.size D R d pv) (hp : PL d 500) (hs : SlC w S D m) (hm : m.fits d.ss.length) (hnS : ¬ DFoot D R d.ss pv S) (b : List UInt8) (A : Option Addr) (c gb ob : Nat) (hsrc : 0 < b.length → SrcB w A c b gb ob ∧ ¬ DFoot D R d.ss pv gb) :
    Calls Tryd.prog 25 #[.pointer (some ⟨S, 0, none⟩), .slice A b.length c] w fun e w' => e = .returned (eo E (saveM d m b).1) ∧ (∃ pv', DkU w w' w0.heap.size D R S d (saveM d m b).2.1 pv pv') ∧ SlC w' S D (saveM d m b).2.2 := by
  have hlen := h.len
  have hrm := roomS_any h hs
  have hoE := (hE.below Hb)
  have hfull : w.cell? ⟨1, 0, none⟩ = some (errV (E 6)) := hoE.c 6 (by decide)
  have hfl := hoE.ltG (i := 6) (by decide)
  obtain ⟨zsv, hzsv⟩ : ∃ z : Int, z = (m.saves : Int) := ⟨_, rfl⟩
  obtain ⟨rm, hrm0⟩ : ∃ rm, rm = roomN d.ss.length := ⟨_, rfl⟩
  obtain ⟨bl, hbl⟩ : ∃ bl, bl = b.length := ⟨_, rfl⟩
  have c1 := hs.c1
  rw [← hzsv] at c1
  obtain ⟨zrm, hzrm⟩ : ∃ z : Int, z = (rm : Int) := ⟨_, rfl⟩
  rw [← hrm0, ← hzrm] at hrm
  rw [← hbl]
  obtain ⟨rs, hrs⟩ : ∃ rs, rs = saveM d m b := ⟨_, rfl⟩
  rw [← hrs]
  have HRS := Lib.hid hrs
  have Hh := Lib.hid h
  have HS := Lib.hid hs
  have HB := Lib.hid Hb
  have HM := Lib.hid hm
  have HnS := Lib.hid hnS
  have HP := Lib.hid hp
  have Hsrc := Lib.hid hsrc
  have HZ := Lib.hid hzsv
  have HBL := Lib.hid hbl
  have HRM := Lib.hid hrm0
  have HE := Lib.hid hE
  clear hrs h hs Hb hm hnS hp hsrc hzsv hbl hrm0 hE hoE
  by_cases hbig : rm < bl
  · have hd1 : zrm < (bl : Int) := by omega
    have er : rs = (some 6, d, m) := HRS.out.trans (if_pos (.inl (by rw [← HRM.out, ← HBL.out]; exact hbig)))
    have ER := Lib.hid er
    clear er hbig HRS hzrm
    go_enter Tryd.func25, Tryd.ntmps25
    go_wp2_with (go_at_call 31; refine hrm.mono ?_; rintro e W1 ⟨rfl, hb1⟩; have HB1 := Lib.hid hb1; have hfull1 := (hb1.cell (p := ⟨1, 0, none⟩) hfl).trans hfull; clear hb1 hrm)
    go_ret
    rw [ER.out]
    exact ⟨rfl, ⟨pv, (DkT.refl Hh.out HB1.out).toU S⟩, HS.out.below HB1.out⟩
  have hd1 : ¬ zrm < (bl : Int) := by omega
  by_cases hmx : m.saves = 4294967295
  · have hz : zsv = 4294967295 := by rw [HZ.out]; omega
    have er : rs = (some 6, d, m) := HRS.out.trans (if_pos (.inr hmx))
    have ER := Lib.hid er
    rw [hz] at c1
    clear er hbig HRS hmx hz hzrm
    go_enter Tryd.func25, Tryd.ntmps25
    go_wp2_with (go_at_call 31; refine hrm.mono ?_; rintro e W1 ⟨rfl, hb1⟩; have HB1 := Lib.hid hb1; have c11 := (hb1.cell (p := ⟨S, 1, none⟩) HS.out.lt).trans c1; have hfull1 := (hb1.cell (p := ⟨1, 0, none⟩) hfl).trans hfull; clear hb1 hrm)
    go_ret
    rw [ER.out]
    exact ⟨rfl, ⟨pv, (DkT.refl Hh.out HB1.out).toU S⟩, HS.out.below HB1.out⟩
  have hz : (zsv == 4294967295) = false := by rw [HZ.out]; simp; omega
  obtain ⟨n, hn⟩ : ∃ n, n = m.next b.length := ⟨_, rfl⟩
  have hfit : b.length ≤ roomN d.ss.length := by rw [← HRM.out, ← HBL.out]; omega
  have hrs : rs = (let r1 := writeM d n b; if r1.1 then (some 0, r1.2, m) else let r2 := writeHeadM r1.2 n; if r2.1 then (some 0, r2.2, m) else let r3 := wipeM r2.2 m; (if r3.1 then some 0 else none, r3.2, n)) := by rw [hn]; exact HRS.out.trans (if_neg (fun e => e.elim (fun e => by omega) hmx))
  have HRS := Lib.hid hrs
  have HF := Lib.hid hfit
  have HMX : Hid (m.saves < 4294967295) := Lib.hid (by have := HM.out.1; omega)
  have HNN := Lib.hid hn
  clear hrs hfit hmx hbig hn hzrm
  go_enter Tryd.func25, Tryd.ntmps25
  go_upto_region 3 with (go_at_call 31; refine hrm.mono ?_; rintro e W1 ⟨rfl, hb1⟩; have HB1 := Lib.hid hb1; have c11 := (hb1.cell (p := ⟨S, 1, none⟩) HS.out.lt).trans c1; clear hb1 hrm)
  have hs1 := HS.out.below HB1.out
  have hbL := below_alc W1 (.cells (SM.cells D m).toArray 76)
  clear c11 c1 hfull hfl hd1 hz
  refine wp_region_lit ?_
  refine wpList_run (by kernel_rfl) (.pointer (some ⟨S, 0, none⟩)) (W1) (exec_move rfl (by kernel_rfl)) ?_
  refine wpList_run (by kernel_rfl) (.pointer (some ⟨S, 0, none⟩)) (W1) (exec_nil rfl (by kernel_rfl)) ?_
  refine wpList_run (by kernel_rfl) (.agg (SM.cells D m).toArray) (W1) (exec_load (vx := .pointer (some ⟨S, 0, none⟩)) rfl (by kernel_rfl) (load_row (P := Tryd.prog) 76 S 0 (SM.cells D m) _ Tryd.underlying76 rfl (by kernel_rfl) W1 hs1.range)) ?_
  simp only [put_list, List.set_cons_zero, List.set_cons_succ]
  refine wpList_allocV (by kernel_rfl) 76 (by kernel_rfl) (#[.pointer none, .int .u32 0, .int .i64 0, .int .i64 0]) (fun _ => by kernel_rfl) ?_
  refine wpList_store_row (by kernel_rfl) 76 (Go.Operand.tmp 5) (Go.Operand.tmp 24) (by kernel_rfl) W1.heap.size ((SM.cells D m).toArray) (by kernel_rfl) (by kernel_rfl) _ _ (heap_alloc_new _ _) (by kernel_rfl) (by rfl) (by simp [SM.cells, Value.oneCell']) ?_
  rw [alloc_setRow]
  refine wpList_nil ?_
  simp only [put_list, put_none, List.set_cons_zero, List.set_cons_succ]
  go_upto_region 4 with (fail)
  obtain ⟨L, hL⟩ : ∃ L, L = W1.heap.size := ⟨_, rfl⟩
  rw [← hL]
  refine wp_world (fun W => Below w.heap.size w W ∧ W.heap[L]? = some (.cells (SM.cells D m).toArray 76 (0, 0))) ⟨HB1.out.trans (hbL.mono HB1.out.size), by rw [hL]; exact heap1_0 W1 _⟩ ?_
  have HLw : Hid (w.heap.size ≤ L) := Lib.hid (by rw [hL]; exact HB1.out.size)
  clear hs1 hbL hL
  rintro W2 ⟨hb2, hL2⟩
  have hs2 := HS.out.below hb2
  have hc2 : ∀ W, Below W2.heap.size W2 W → W.cell? ⟨S, 1, none⟩ = some (.int .u32 zsv) := fun W hW => by rw [HZ.out]; exact (hs2.below hW).c1
  obtain ⟨zs1, hz1⟩ : ∃ z : Int, zsv + 1 = z := ⟨_, rfl⟩
  have hz2 : 0 ≤ zs1 ∧ zs1 ≤ 4294967295 := by rw [← hz1, HZ.out]; have := HMX.out; omega
  refine wp_region_noPanic ?_
  refine wp_region_held_drew (S := fun W => Below W2.heap.size W2 W) (by kernel_rfl) (Below.drewNr (w := W2) 1) (fun hHeld => ?_)
  refine held_move 0 (Go.Operand.tmp 0) (some 25) (.pointer (some ⟨S, 0, none⟩)) (by kernel_rfl) (by kernel_rfl) (by kernel_rfl) (by kernel_rfl) (by kernel_rfl) (fun _ _ _ _ _ h => h) hHeld ?_
  refine held_nil 1 (Go.Operand.tmp 25) (some 26) ⟨S, 0, none⟩ (by kernel_rfl) (by kernel_rfl) (by kernel_rfl) (by kernel_rfl) (by kernel_rfl) (fun _ _ _ _ _ h => h) hHeld ?_
  refine held_field 2 76 (Go.Operand.tmp 26) 0 (some 27) (.pointer (some ⟨S, 0, none⟩)) (.pointer (some ⟨S, 0, none⟩)) (by kernel_rfl) (by kernel_rfl) (fun w => by kernel_rfl) (by kernel_rfl) (by kernel_rfl) (by kernel_rfl) (fun _ _ _ _ _ h => h) hHeld ?_
  refine held_cell 3 25 (Go.Operand.tmp 27) (some 28) (.pointer (some ⟨S, 0, none⟩)) (.pointer (some ⟨D, 0, none⟩)) (by kernel_rfl) (by kernel_rfl) (fun W hW => load_slice S 0 W 25 (fun w => by kernel_rfl) _ (hs2.below hW).c0) (by kernel_rfl) (by kernel_rfl) (by kernel_rfl) (fun _ _ _ _ _ h => h) hHeld ?_
  refine held_move 4 (Go.Operand.tmp 0) (some 29) (.pointer (some ⟨S, 0, none⟩)) (by kernel_rfl) (by kernel_rfl) (by kernel_rfl) (by kernel_rfl) (by kernel_rfl) (fun _ _ _ _ _ h => h) hHeld ?_
  refine held_nil 5 (Go.Operand.tmp 29) (some 30) ⟨S, 0, none⟩ (by kernel_rfl) (by kernel_rfl) (by kernel_rfl) (by kernel_rfl) (by kernel_rfl) (fun _ _ _ _ _ h => h) hHeld ?_
  refine held_field 6 76 (Go.Operand.tmp 30) 1 (some 31) (.pointer (some ⟨S, 0, none⟩)) (.pointer (some ⟨S, 1, none⟩)) (by kernel_rfl) (by kernel_rfl) (fun w => by kernel_rfl) (by kernel_rfl) (by kernel_rfl) (by kernel_rfl) (fun _ _ _ _ _ h => h) hHeld ?_
  refine held_cell 7 74 (Go.Operand.tmp 31) (some 32) (.pointer (some ⟨S, 1, none⟩)) (.int .u32 zsv) (by kernel_rfl) (by kernel_rfl) (fun W hW => load_u32 S 1 W _ (hc2 W hW)) (by kernel_rfl) (by kernel_rfl) (by kernel_rfl) (fun _ _ _ _ _ h => h) hHeld ?_
  refine held_bin 8 Go.BinOp.add 74 (Go.Operand.tmp 32) (Go.Operand.const (Go.Value.int Go.IntKind.u32 1)) 74 (some 33) (.int .u32 zsv) (Go.Value.int Go.IntKind.u32 1) (.int .u32 zs1) (by kernel_rfl) (by kernel_rfl) (fun W => add_u32 _ _ _ W zsv zs1 hz1 hz2) (by kernel_rfl) (by kernel_rfl) (by kernel_rfl) (fun _ _ _ _ _ h => h) hHeld ?_
  refine held_move 9 (Go.Operand.tmp 1) (some 34) (.slice A bl c) (by kernel_rfl) (by kernel_rfl) (by kernel_rfl) (by kernel_rfl) (by kernel_rfl) (fun _ _ _ _ _ h => h) hHeld ?_
  refine held_any 10 (Go.Op.call { callee := Go.Callee.builtin Go.Builtin.len, args := #[Go.Operand.tmp 34], argTypes := #[41] }) (some 35) (.int .i64 (bl : Int)) (by kernel_rfl) (by kernel_rfl) (by kernel_rfl) (by kernel_rfl) (fun _ _ _ _ _ h => h) hHeld (fun o ho w _ => exec_lenA (vx := .slice A bl c) ho (by kernel_rfl) (fun _ => len_slice _ 5 _ Tryd.underlying41 _ _ _ _)) ?_
  refine held_build 11 76 #[(0, Go.Operand.tmp 28), (1, Go.Operand.tmp 33), (3, Go.Operand.tmp 35)] (some 36) #[(0, .pointer (some ⟨D, 0, none⟩)), (1, .int .u32 zs1), (3, .int .i64 (bl : Int))] (.agg #[.pointer (some ⟨D, 0, none⟩), .int .u32 zs1, .int .i64 0, .int .i64 (bl : Int)]) (by kernel_rfl) (by kernel_rfl) (fun w => by kernel_rfl) (by kernel_rfl) (by kernel_rfl) (by kernel_rfl) (fun _ _ _ _ _ h => h) hHeld ?_
  obtain ⟨W3, hW3⟩ : ∃ W3, W3 = W2.drew := ⟨_, rfl⟩
  rw [← hW3] at hHeld ⊢
  obtain ⟨X, hX⟩ : ∃ X, X = W3.heap.size := ⟨_, rfl⟩
  have hba := below_alc W3 (.cells #[.pointer none, .int .u32 0, .int .i64 0, .int .i64 0] 76)
  have hbX := below_alc W3 (.cells #[.pointer (some ⟨D, 0, none⟩), .int .u32 zs1, .int .i64 0, .int .i64 (bl : Int)] 76)
  have hb3x := hHeld.trans (hbX.mono hHeld.size)
  have hal := alloc_st W3
  rw [← hX] at hal
  have hst := store_st (W3.alloc (.cells #[.pointer none, .int .u32 0, .int .i64 0, .int .i64 0] 76)) X _ #[.pointer (some ⟨D, 0, none⟩), .int .u32 zs1, .int .i64 0, .int .i64 (bl : Int)] (by rw [hX]; exact heap1_0 W3 _) rfl rfl (by simp [Value.oneCell'])
  rw [hX, alloc_setRow, ← hX] at hst
  refine held_run 12 (Go.Op.alloc 76) 0 (some 6) (.pointer (some ⟨X, 0, none⟩)) (W3.alloc (.cells #[.pointer none, .int .u32 0, .int .i64 0, .int .i64 0] 76)) (by kernel_rfl) (by kernel_rfl) (by kernel_rfl) (fun o ho ht => exec_alloc ho hal) (hHeld.trans (hba.mono hHeld.size)) ?_
  intro hHeld
  refine held_skip 13 (Go.Op.store 76 (Go.Operand.tmp 6) (Go.Operand.tmp 36)) none (W3.alloc (.cells #[.pointer (some ⟨D, 0, none⟩), .int .u32 zs1, .int .i64 0, .int .i64 (bl : Int)] 76)) (by kernel_rfl) (by kernel_rfl) (fun o ho => exec_store (vx := .pointer (some ⟨X, 0, none⟩)) (vy := .agg #[.pointer (some ⟨D, 0, none⟩), .int .u32 zs1, .int .i64 0, .int .i64 (bl : Int)]) ho (by kernel_rfl) hst) (hb3x) ?_
  intro hHeld
  refine wpAnyH_done (by kernel_rfl) ?_ _
  refine NoPanic.normal ?_
  simp only [Act.put, List.setIfInBounds_toArray, List.set_cons_zero, List.set_cons_succ]
  go_upto_region 5 with (fail)
  have hb3 : Below w.heap.size w W3 := hb2.trans ((show Below W2.heap.size W2 W3 by rw [hW3]; exact Below.drewNr (w := W2) 1).mono hb2.size)
  have h23 : Below W2.heap.size W2 W3 := by rw [hW3]; exact Below.drewNr (w := W2) 1
  have eX : (SM.cells D ⟨m.saves + 1, 0, bl⟩).toArray = #[.pointer (some ⟨D, 0, none⟩), .int .u32 zs1, .int .i64 0, .int .i64 (bl : Int)] := by simp [SM.cells, ← hz1, HZ.out]
  have hLl2 := (Array.getElem?_eq_some_iff.1 hL2).1
  have hLX : L < X := by rw [hX]; exact Nat.lt_of_lt_of_le hLl2 h23.size
  have hL4 : (W3.alloc (.cells #[.pointer (some ⟨D, 0, none⟩), .int .u32 zs1, .int .i64 0, .int .i64 (bl : Int)] 76)).heap[L]? = some (.cells (SM.cells D m).toArray 76 (0, 0)) := (hbX.block L (by rw [← hX]; exact hLX)).trans ((h23.block L hLl2).trans hL2)
  refine wp_world (fun W => SlC W X D ⟨m.saves + 1, 0, bl⟩ ∧ W.heap[L]? = some (.cells (SM.cells D m).toArray 76 (0, 0)) ∧ Below w.heap.size w W) ⟨SlC.new (by rw [eX, hX]; exact heap1_0 W3 _), hL4, hb3.trans (hbX.mono hb3.size)⟩ ?_
  have HXw : Hid (w.heap.size ≤ X) := Lib.hid (by rw [hX]; exact hb3.size)
  have HLX := Lib.hid hLX
  clear hX hb3 hbX hHeld h23 hba hb3x hal hst hL2 hs2 hc2 hz1 hz2 hb2 hW3 eX hLl2 hLX hL4
  rintro W4 ⟨hx4, hl4, hb4⟩
  have hs4 := HS.out.below hb4
  have c1 := hs4.c1
  rw [← HZ.out] at c1
  by_cases h0 : 0 < m.saves
  · have h0' : 0 < zsv := by rw [HZ.out]; omega
    obtain ⟨zh, hzh⟩ : ∃ z : Int, z = (m.half : Int) := ⟨_, rfl⟩
    have c2 := hs4.c2
    rw [← hzh] at c2
    have hx2 := hx4.c2
    have hxf := hx4.fr 2
    have hwz : wrap64 (1 - zh) = 1 - zh := by have := HM.out.2.1; unfold wrap64; omega
    have en : (⟨m.saves + 1, 1 - m.half, bl⟩ : SM) = n := by rw [HNN.out]; unfold SM.next; rw [if_pos h0, ← HBL.out]
    have hx5 := hx4.set2 (1 - m.half) (1 - zh) (by have := HM.out.2.1; omega)
    rw [show (⟨(⟨m.saves + 1, 0, bl⟩ : SM).saves, 1 - m.half, (⟨m.saves + 1, 0, bl⟩ : SM).size⟩ : SM) = n from en] at hx5
    have hb5 := (setTurn W4 X 2 (.int .i64 (1 - zh))).below hb4 hb4.size (fun q e => by rw [e]; exact HXw.out)
    have hl5 : (W4.setCell ⟨X, 2, none⟩ (.int .i64 (1 - zh))).heap[L]? = some (.cells (SM.cells D m).toArray 76 (0, 0)) := ((setTurn W4 X 2 (.int .i64 (1 - zh))).block L (Array.getElem?_eq_some_iff.1 hl4).1 (fun e => by have := HLX.out; omega)).trans hl4
    have HH := Lib.hid (And.intro hx5 (And.intro hl5 hb5))
    clear hx5 hl5 hb5 en hx4 hl4 hb4 hs4 hzh h0
    go_upto_region 7 with (fail)
    obtain ⟨hx5, hl5, hb5⟩ := HH.out
    clear HH c1 c2 hx2 hxf hwz h0'
    refine wp_world (fun W => SlC W X D n ∧ W.heap[L]? = some (.cells (SM.cells D m).toArray 76 (0, 0)) ∧ Below w.heap.size w W) ⟨hx5, hl5, hb5⟩ ?_
    clear hx5 hl5 hb5
    rintro W5 ⟨hx5, hl5, hb5⟩
    have hnn : n.fits d.ss.length := by rw [HNN.out]; exact ⟨by have := HMX.out; show m.saves + 1 ≤ _; omega, next_half HM.out.2.1 _, HF.out⟩
    have hns : n.size = b.length := by rw [HNN.out]; rfl
    have hnXf : ¬ DFoot D R d.ss pv X := fun hh => by have h1 := Hh.out.ltF hh; have h2 := HXw.out; omega
    have hwr := writeS_any E w0 HE.out (HB.out.trans (hb5.mono HB.out.size)) (Hh.out.below hb5) (HP.out.mono (by decide)) hx5 (hnn.ok hlen.2) hnXf b hns (by rw [← hns]; exact fit_from hnn.2.1 hnn.2.2 hlen.1) A c gb ob (fun h0 => ⟨⟨(Hsrc.out h0).1.a, Nat.lt_of_lt_of_le (Hsrc.out h0).1.l hb5.size, range_b (Hsrc.out h0).1.r hb5 (Hsrc.out h0).1.l, (Hsrc.out h0).1.c⟩, (Hsrc.out h0).2⟩)
    rw [← HBL.out] at hwr
    have hnd : needS b.length ≤ 200 := by have := HF.out; unfold roomN halfN at this; unfold needS; omega
    have hPL1 := PL_writeM HP.out n b
    obtain ⟨r1, hr1⟩ : ∃ r1, r1 = writeM d n b := ⟨_, rfl⟩
    have hr1l : r1.2.ss.length = d.ss.length := by rw [hr1]; exact writeM_len d n b
    rw [← hr1] at hwr hPL1
    have HR1 := Lib.hid hr1
    have HNf := Lib.hid hnn
    have HXf := Lib.hid hnXf
    have HX5 := Lib.hid hx5
    have HL5 := Lib.hid hl5
    have HB5 := Lib.hid hb5
    have HRL := Lib.hid hr1l
    have HP1 := Lib.hid (hPL1.mono (show 500 + needS b.length ≤ 700 by omega))
    clear hr1 hnn hns hnXf hx5 hl5 hb5 hnd hPL1 hr1l
    cases hb1 : r1.1 with
    | true =>
      rw [hb1, ev_true] at hwr
      have er : rs = (some 0, r1.2, m) := by rw [HRS.out, ← HR1.out]; exact if_pos hb1
      have ER := Lib.hid er
      clear er hb1
      go_wp2_with (go_at_call 49; refine hwr.mono ?_; rintro e W6 ⟨rfl, pv6, hT6⟩; have HT6 := Lib.hid (DkT.ahead HB5.out Hh.out hT6); clear hT6)
      go_ret
      rw [ER.out]
      exact ⟨rfl, ⟨pv6, HT6.out.toU S⟩, HS.out.turn HT6.out.t HnS.out⟩
    | false =>
    rw [hb1, ev_false] at hwr
    have er : rs = (let r2 := writeHeadM r1.2 n; if r2.1 then (some 0, r2.2, m) else let r3 := wipeM r2.2 m; (if r3.1 then some 0 else none, r3.2, n)) := by rw [HRS.out, ← HR1.out]; exact if_neg (by rw [hb1]; decide)
    have ER1 := Lib.hid er
    clear er hb1 HRS
    go_upto_region 10 with (go_at_call 49; refine hwr.mono ?_; rintro e W6 ⟨rfl, pv6, hT56⟩; have H56 := Lib.hid hT56; clear hT56)
    have hT6 := DkT.ahead HB5.out Hh.out H56.out
    have hx6 := HX5.out.turn H56.out.t HXf.out
    have hLf : ¬ DFoot D R d.ss pv L := fun hh => by have h1 := Hh.out.ltF hh; have h2 := HLw.out; omega
    have hL5l := (Array.getElem?_eq_some_iff.1 HL5.out).1
    have hl6 := (H56.out.t.block L hL5l hLf).trans HL5.out
    have hnX6 := H56.out.nF HX5.out.lt HXf.out
    have hnL6 := H56.out.nF hL5l hLf
    have hwh := writeHead_any E w0 HE.out (hT6.base Hh.out HB.out) hT6.dk (HP1.out.mono (by decide)) hx6 (HNf.out.ok hlen.2) hnX6
    have hPL2 := PL_writeHeadM HP1.out n
    obtain ⟨r2, hr2⟩ : ∃ r2, r2 = writeHeadM r1.2 n := ⟨_, rfl⟩
    have hr2l : r2.2.ss.length = d.ss.length := by rw [hr2, writeHeadM_len]; exact HRL.out
    rw [← hr2] at hwh hPL2
    have HR2 := Lib.hid hr2
    have HT6 := Lib.hid hT6
    have HX6 := Lib.hid hx6
    have HL6 := Lib.hid (And.intro hl6 (And.intro hnX6 hnL6))
    have HP2 := Lib.hid hPL2
    have HRL2 := Lib.hid hr2l
    clear hwr hT6 hx6 hl6 hLf hL5l hnX6 hnL6 hPL2 hr2 hr2l H56 HX5 HL5 HXf
    cases hb2 : r2.1 with
    | true =>
      rw [hb2, ev_true] at hwh
      have er : rs = (some 0, r2.2, m) := by rw [ER1.out, ← HR2.out]; exact if_pos hb2
      have ER := Lib.hid er
      clear er hb2
      go_wp2_with (go_at_call 50; refine hwh.mono ?_; rintro e W7 ⟨rfl, pv7, hT67⟩; have HT7 := Lib.hid (HT6.out.trans hT67); clear hT67)
      go_ret
      rw [ER.out]
      exact ⟨rfl, ⟨pv7, HT7.out.toU S⟩, HS.out.turn HT7.out.t HnS.out⟩
    | false =>
    rw [hb2, ev_false] at hwh
    have er : rs = (let r3 := wipeM r2.2 m; (if r3.1 then some 0 else none, r3.2, n)) := by rw [ER1.out, ← HR2.out]; exact if_neg (by rw [hb2]; decide)
    have ER2 := Lib.hid er
    clear er hb2 ER1
    go_upto_region 13 with (go_at_call 50; refine hwh.mono ?_; rintro e W7 ⟨rfl, pv7, hT67⟩; have H67 := Lib.hid hT67; clear hT67)
    have hT7 := HT6.out.trans H67.out
    have hx7 := HX6.out.turn H67.out.t HL6.out.2.1
    have hL6l := (Array.getElem?_eq_some_iff.1 HL6.out.1).1
    have hl7 := (H67.out.t.block L hL6l HL6.out.2.2).trans HL6.out.1
    have hnL7 := H67.out.nF hL6l HL6.out.2.2
    have hs7 := HS.out.turn hT7.t HnS.out
    have hnS7 := hT7.nF HS.out.lt HnS.out
    obtain ⟨old6, hold6, hold6s⟩ := hs7.bk
    have HT7 := Lib.hid hT7
    have HQ := Lib.hid (And.intro hl7 (And.intro hnL7 hnS7))
    clear hwh hT7 hL6l hl7 hnL7 hnS7 hs7 HX6 HL6
    refine wp_region_lit ?_
    refine wpList_run (by kernel_rfl) (.pointer (some ⟨S, 0, none⟩)) (W7) (exec_move rfl (by kernel_rfl)) ?_
    refine wpList_run (by kernel_rfl) (.agg (SM.cells D n).toArray) (W7) (exec_load (vx := .pointer (some ⟨X, 0, none⟩)) rfl (by kernel_rfl) (load_row (P := Tryd.prog) 76 X 0 (SM.cells D n) _ Tryd.underlying76 rfl (by kernel_rfl) W7 hx7.range)) ?_
    refine wpList_run (by kernel_rfl) (.pointer (some ⟨S, 0, none⟩)) (W7) (exec_nil rfl (by kernel_rfl)) ?_
    simp only [put_list, List.set_cons_zero, List.set_cons_succ]
    refine wpList_store_row rfl 76 (Go.Operand.tmp 59) (Go.Operand.tmp 58) rfl S (SM.cells D n).toArray (by kernel_rfl) (by kernel_rfl) _ _ hold6 (by kernel_rfl) (by rw [hold6s]; rfl) (by simp [SM.cells, Value.oneCell']) ?_
    refine wpList_nil ?_
    simp only [put_none]
    have hs8 : SlC (W7.setRow S (SM.cells D n).toArray) S D n := SlC.new (setRow_heap _ _ _ _ _ _ hold6)
    have ht8 : Turn (· = S) W7 (W7.setRow S (SM.cells D n).toArray) := Turn.of_grown (row := some S) ⟨rfl, rfl, rfl, by simp, fun k _ hk => setRow_other W7 S k _ (fun e => hk (by simp [e]))⟩ (fun _ hk => (Option.some.inj hk).symm)
    go_upto_region 14 with (fail)
    refine wp_world (fun W => SlC W S D n ∧ Turn (· = S) W7 W) ⟨hs8, ht8⟩ ?_
    clear hs8 ht8 hx7 hold6 hold6s
    rintro W8 ⟨hs8, ht8⟩
    have hSL : ¬ L = S := fun e => by have h1 := HS.out.lt; have h2 := HLw.out; omega
    have hL7l := (Array.getElem?_eq_some_iff.1 HQ.out.1).1
    have hl8 : SlC W8 L D m := SlC.new ((ht8.block L hL7l hSL).trans HQ.out.1)
    have hdk8 : DkM W8 w0.heap.size D R r2.2 pv7 := DkS.other HT7.out.dk ht8 (fun q hq e => HQ.out.2.2 (by rw [← e]; exact hq))
    have hb8 : Below w0.heap.size w0 W8 := ht8.below (HT7.out.base Hh.out HB.out) (HT7.out.base Hh.out HB.out).size (fun q e => by rw [e]; exact hlS)
    have hwp := wipe_any E w0 HE.out hb8 hdk8 (HP2.out.mono (by decide)) hl8 (HM.out.ok hlen.2) HQ.out.2.1 (by rw [HRL2.out]; exact fit_from HM.out.2.1 HM.out.2.2 hlen.1)
    obtain ⟨r3, hr3⟩ : ∃ r3, r3 = wipeM r2.2 m := ⟨_, rfl⟩
    rw [← hr3] at hwp
    have er : rs = (if r3.1 then some 0 else none, r3.2, n) := by rw [ER2.out, ← hr3]
    have ER := Lib.hid er
    have HS8 := Lib.hid (And.intro hs8 ht8)
    clear hr3 er ER2 hs8 ht8 hSL hL7l hl8 hdk8 hb8
    go_wp2_with (go_at_call 51; refine hwp.mono ?_; rintro e W9 ⟨rfl, pv9, hT9⟩; have HT9 := Lib.hid hT9; clear hT9)
    go_ret
    rw [ER.out]
    have hfb : ∀ q, DFoot D R r2.2.ss pv7 q → DFoot D R d.ss pv q ∨ w.heap.size ≤ q := fun q hq => foot_back HT7.out.f HT7.out.l hq
    refine ⟨by cases r3.1 <;> rfl, ⟨pv9, HT9.out.dk, ?_, ?_, HT9.out.l.trans HT7.out.l⟩, HS8.out.1.turn HT9.out.t HQ.out.2.2⟩
    · exact ((HT7.out.t.mono (G := fun q => DFoot D R d.ss pv q ∨ q = S) fun _ hq => .inl hq).trans HS8.out.2 (fun q e => .inl (.inr e))).trans HT9.out.t (fun q hq => (hfb q hq).imp .inl id)
    · intro j q hq
      rcases HT9.out.f j q hq with h1 | h1
      · exact HT7.out.f j q h1
      · exact .inr (Nat.le_trans HT7.out.t.size (Nat.le_trans HS8.out.2.size h1))
  · have h0' : ¬ 0 < zsv := by rw [HZ.out]; omega
    have en : (⟨m.saves + 1, 0, bl⟩ : SM) = n := by rw [HNN.out]; unfold SM.next; rw [if_neg h0, ← HBL.out]
    rw [en] at hx4
    have HH := Lib.hid (And.intro hx4 (And.intro hl4 hb4))
    clear en hx4 hl4 hb4 hs4 h0
    go_upto_region 7 with (fail)
    obtain ⟨hx5, hl5, hb5⟩ := HH.out
    clear HH c1 h0'
    refine wp_world (fun W => SlC W X D n ∧ W.heap[L]? = some (.cells (SM.cells D m).toArray 76 (0, 0)) ∧ Below w.heap.size w W) ⟨hx5, hl5, hb5⟩ ?_
    clear hx5 hl5 hb5
    rintro W5 ⟨hx5, hl5, hb5⟩
    have hnn : n.fits d.ss.length := by rw [HNN.out]; exact ⟨by have := HMX.out; show m.saves + 1 ≤ _; omega, next_half HM.out.2.1 _, HF.out⟩
    have hns : n.size = b.length := by rw [HNN.out]; rfl
    have hnXf : ¬ DFoot D R d.ss pv X := fun hh => by have h1 := Hh.out.ltF hh; have h2 := HXw.out; omega
    have hwr := writeS_any E w0 HE.out (HB.out.trans (hb5.mono HB.out.size)) (Hh.out.below hb5) (HP.out.mono (by decide)) hx5 (hnn.ok hlen.2) hnXf b hns (by rw [← hns]; exact fit_from hnn.2.1 hnn.2.2 hlen.1) A c gb ob (fun h0 => ⟨⟨(Hsrc.out h0).1.a, Nat.lt_of_lt_of_le (Hsrc.out h0).1.l hb5.size, range_b (Hsrc.out h0).1.r hb5 (Hsrc.out h0).1.l, (Hsrc.out h0).1.c⟩, (Hsrc.out h0).2⟩)
    rw [← HBL.out] at hwr
    have hnd : needS b.length ≤ 200 := by have := HF.out; unfold roomN halfN at this; unfold needS; omega
    have hPL1 := PL_writeM HP.out n b
    obtain ⟨r1, hr1⟩ : ∃ r1, r1 = writeM d n b := ⟨_, rfl⟩
    have hr1l : r1.2.ss.length = d.ss.length := by rw [hr1]; exact writeM_len d n b
    rw [← hr1] at hwr hPL1
    have HR1 := Lib.hid hr1
    have HNf := Lib.hid hnn
    have HXf := Lib.hid hnXf
    have HX5 := Lib.hid hx5
    have HL5 := Lib.hid hl5
    have HB5 := Lib.hid hb5
    have HRL := Lib.hid hr1l
    have HP1 := Lib.hid (hPL1.mono (show 500 + needS b.length ≤ 700 by omega))
    clear hr1 hnn hns hnXf hx5 hl5 hb5 hnd hPL1 hr1l
    cases hb1 : r1.1 with
    | true =>
      rw [hb1, ev_true] at hwr
      have er : rs = (some 0, r1.2, m) := by rw [HRS.out, ← HR1.out]; exact if_pos hb1
      have ER := Lib.hid er
      clear er hb1
      go_wp2_with (go_at_call 49; refine hwr.mono ?_; rintro e W6 ⟨rfl, pv6, hT6⟩; have HT6 := Lib.hid (DkT.ahead HB5.out Hh.out hT6); clear hT6)
      go_ret
      rw [ER.out]
      exact ⟨rfl, ⟨pv6, HT6.out.toU S⟩, HS.out.turn HT6.out.t HnS.out⟩
    | false =>
    rw [hb1, ev_false] at hwr
    have er : rs = (let r2 := writeHeadM r1.2 n; if r2.1 then (some 0, r2.2, m) else let r3 := wipeM r2.2 m; (if r3.1 then some 0 else none, r3.2, n)) := by rw [HRS.out, ← HR1.out]; exact if_neg (by rw [hb1]; decide)
    have ER1 := Lib.hid er
    clear er hb1 HRS
    go_upto_region 10 with (go_at_call 49; refine hwr.mono ?_; rintro e W6 ⟨rfl, pv6, hT56⟩; have H56 := Lib.hid hT56; clear hT56)
    have hT6 := DkT.ahead HB5.out Hh.out H56.out
    have hx6 := HX5.out.turn H56.out.t HXf.out
    have hLf : ¬ DFoot D R d.ss pv L := fun hh => by have h1 := Hh.out.ltF hh; have h2 := HLw.out; omega
    have hL5l := (Array.getElem?_eq_some_iff.1 HL5.out).1
    have hl6 := (H56.out.t.block L hL5l hLf).trans HL5.out
    have hnX6 := H56.out.nF HX5.out.lt HXf.out
    have hnL6 := H56.out.nF hL5l hLf
    have hwh := writeHead_any E w0 HE.out (hT6.base Hh.out HB.out) hT6.dk (HP1.out.mono (by decide)) hx6 (HNf.out.ok hlen.2) hnX6
    have hPL2 := PL_writeHeadM HP1.out n
    obtain ⟨r2, hr2⟩ : ∃ r2, r2 = writeHeadM r1.2 n := ⟨_, rfl⟩
    have hr2l : r2.2.ss.length = d.ss.length := by rw [hr2, writeHeadM_len]; exact HRL.out
    rw [← hr2] at hwh hPL2
    have HR2 := Lib.hid hr2
    have HT6 := Lib.hid hT6
    have HX6 := Lib.hid hx6
    have HL6 := Lib.hid (And.intro hl6 (And.intro hnX6 hnL6))
    have HP2 := Lib.hid hPL2
    have HRL2 := Lib.hid hr2l
    clear hwr hT6 hx6 hl6 hLf hL5l hnX6 hnL6 hPL2 hr2 hr2l H56 HX5 HL5 HXf
    cases hb2 : r2.1 with
    | true =>
      rw [hb2, ev_true] at hwh
      have er : rs = (some 0, r2.2, m) := by rw [ER1.out, ← HR2.out]; exact if_pos hb2
      have ER := Lib.hid er
      clear er hb2
      go_wp2_with (go_at_call 50; refine hwh.mono ?_; rintro e W7 ⟨rfl, pv7, hT67⟩; have HT7 := Lib.hid (HT6.out.trans hT67); clear hT67)
      go_ret
      rw [ER.out]
      exact ⟨rfl, ⟨pv7, HT7.out.toU S⟩, HS.out.turn HT7.out.t HnS.out⟩
    | false =>
    rw [hb2, ev_false] at hwh
    have er : rs = (let r3 := wipeM r2.2 m; (if r3.1 then some 0 else none, r3.2, n)) := by rw [ER1.out, ← HR2.out]; exact if_neg (by rw [hb2]; decide)
    have ER2 := Lib.hid er
    clear er hb2 ER1
    go_upto_region 13 with (go_at_call 50; refine hwh.mono ?_; rintro e W7 ⟨rfl, pv7, hT67⟩; have H67 := Lib.hid hT67; clear hT67)
    have hT7 := HT6.out.trans H67.out
    have hx7 := HX6.out.turn H67.out.t HL6.out.2.1
    have hL6l := (Array.getElem?_eq_some_iff.1 HL6.out.1).1
    have hl7 := (H67.out.t.block L hL6l HL6.out.2.2).trans HL6.out.1
    have hnL7 := H67.out.nF hL6l HL6.out.2.2
    have hs7 := HS.out.turn hT7.t HnS.out
    have hnS7 := hT7.nF HS.out.lt HnS.out
    obtain ⟨old6, hold6, hold6s⟩ := hs7.bk
    have HT7 := Lib.hid hT7
    have HQ := Lib.hid (And.intro hl7 (And.intro hnL7 hnS7))
    clear hwh hT7 hL6l hl7 hnL7 hnS7 hs7 HX6 HL6
    refine wp_region_lit ?_
    refine wpList_run (by kernel_rfl) (.pointer (some ⟨S, 0, none⟩)) (W7) (exec_move rfl (by kernel_rfl)) ?_
    refine wpList_run (by kernel_rfl) (.agg (SM.cells D n).toArray) (W7) (exec_load (vx := .pointer (some ⟨X, 0, none⟩)) rfl (by kernel_rfl) (load_row (P := Tryd.prog) 76 X 0 (SM.cells D n) _ Tryd.underlying76 rfl (by kernel_rfl) W7 hx7.range)) ?_
    refine wpList_run (by kernel_rfl) (.pointer (some ⟨S, 0, none⟩)) (W7) (exec_nil rfl (by kernel_rfl)) ?_
    simp only [put_list, List.set_cons_zero, List.set_cons_succ]
    refine wpList_store_row rfl 76 (Go.Operand.tmp 59) (Go.Operand.tmp 58) rfl S (SM.cells D n).toArray (by kernel_rfl) (by kernel_rfl) _ _ hold6 (by kernel_rfl) (by rw [hold6s]; rfl) (by simp [SM.cells, Value.oneCell']) ?_
    refine wpList_nil ?_
    simp only [put_none]
    have hs8 : SlC (W7.setRow S (SM.cells D n).toArray) S D n := SlC.new (setRow_heap _ _ _ _ _ _ hold6)
    have ht8 : Turn (· = S) W7 (W7.setRow S (SM.cells D n).toArray) := Turn.of_grown (row := some S) ⟨rfl, rfl, rfl, by simp, fun k _ hk => setRow_other W7 S k _ (fun e => hk (by simp [e]))⟩ (fun _ hk => (Option.some.inj hk).symm)
    go_upto_region 14 with (fail)
    refine wp_world (fun W => SlC W S D n ∧ Turn (· = S) W7 W) ⟨hs8, ht8⟩ ?_
    clear hs8 ht8 hx7 hold6 hold6s
    rintro W8 ⟨hs8, ht8⟩
    have hSL : ¬ L = S := fun e => by have h1 := HS.out.lt; have h2 := HLw.out; omega
    have hL7l := (Array.getElem?_eq_some_iff.1 HQ.out.1).1
    have hl8 : SlC W8 L D m := SlC.new ((ht8.block L hL7l hSL).trans HQ.out.1)
    have hdk8 : DkM W8 w0.heap.size D R r2.2 pv7 := DkS.other HT7.out.dk ht8 (fun q hq e => HQ.out.2.2 (by rw [← e]; exact hq))
    have hb8 : Below w0.heap.size w0 W8 := ht8.below (HT7.out.base Hh.out HB.out) (HT7.out.base Hh.out HB.out).size (fun q e => by rw [e]; exact hlS)
    have hwp := wipe_any E w0 HE.out hb8 hdk8 (HP2.out.mono (by decide)) hl8 (HM.out.ok hlen.2) HQ.out.2.1 (by rw [HRL2.out]; exact fit_from HM.out.2.1 HM.out.2.2 hlen.1)
    obtain ⟨r3, hr3⟩ : ∃ r3, r3 = wipeM r2.2 m := ⟨_, rfl⟩
    rw [← hr3] at hwp
    have er : rs = (if r3.1 then some 0 else none, r3.2, n) := by rw [ER2.out, ← hr3]
    have ER := Lib.hid er
    have HS8 := Lib.hid (And.intro hs8 ht8)
    clear hr3 er ER2 hs8 ht8 hSL hL7l hl8 hdk8 hb8
    go_wp2_with (go_at_call 51; refine hwp.mono ?_; rintro e W9 ⟨rfl, pv9, hT9⟩; have HT9 := Lib.hid hT9; clear hT9)
    go_ret
    rw [ER.out]
    have hfb : ∀ q, DFoot D R r2.2.ss pv7 q → DFoot D R d.ss pv q ∨ w.heap.size ≤ q := fun q hq => foot_back HT7.out.f HT7.out.l hq
    refine ⟨by cases r3.1 <;> rfl, ⟨pv9, HT9.out.dk, ?_, ?_, HT9.out.l.trans HT7.out.l⟩, HS8.out.1.turn HT9.out.t HQ.out.2.2⟩
    · exact ((HT7.out.t.mono (G := fun q => DFoot D R d.ss pv q ∨ q = S) fun _ hq => .inl hq).trans HS8.out.2 (fun q e => .inl (.inr e))).trans HT9.out.t (fun q hq => (hfb q hq).imp .inl id)
    · intro j q hq
      rcases HT9.out.f j q hq with h1 | h1
      · exact HT7.out.f j q h1
      · exact .inr (Nat.le_trans HT7.out.t.size (Nat.le_trans HS8.out.2.size h1))
end
theorem exec_make {P : Program} {a : Act} {w : World} {o : Oper} {t : TypeId} {x y : Operand} {vx vy v' : Value} {w' : World} (ho : o.op = .makeSlice t x y) (hx : (a.eval x, a.eval y) = (vx, vy))
    (he : (Instr.makeSlice t vx vy).run P w = .ok v' w') : (execOp a.eval o).run P w = .ok (.value v') w' := by
  simp only [Prod.mk.injEq] at hx
  unfold execOp
  simp only [ho, hx.1, hx.2, Sem.run_bind, he]
  rfl
theorem wipeRest_step (fr to N i : Nat) (d : DM) (wrote : Bool) (h : i < N) : wipeRestL fr to N i d wrote (N - i) =
    if fr ≤ i ∧ i < to then wipeRestL fr to N (i + 1) d wrote (N - (i + 1))
    else if isZ (d.top i) = true then wipeRestL fr to N (i + 1) d wrote (N - (i + 1))
    else if d.bad = true then (none, d.wr i zB) else wipeRestL fr to N (i + 1) (d.wr i zB) true (N - (i + 1)) := by
  obtain ⟨k, hk⟩ : ∃ k, N - i = k + 1 := ⟨N - i - 1, by omega⟩
  rw [hk, show N - (i + 1) = k by omega]
  rfl
theorem wr_good {d : DM} (h : d.bad = false) (i : Nat) (B : Blk) : (d.wr i B).off = false := by
  unfold DM.bad at h
  rw [Bool.or_eq_false_iff] at h
  rw [wr_on h.1]
  show drawO false d.fuse = false
  unfold drawO
  rw [h.2]
  rfl
section
variable {w : World} {D R S : Nat} {d : DM} {pv : Nat → Value} {m : SM}
set_option maxRecDepth 100000 in
set_option maxHeartbeats 3200000 in
theorem wipeRest_any (E : Nat → Addr) (w0 : World) (hE : ErrD E w0) (Hb : Below w0.heap.size w0 w) (h : DkM w w0.heap.size D R d pv) (hp : PL d 500) (ho : d.off = false) (hs : SlC w S D m) (hm : m.fits d.ss.length) (hnS : ¬ DFoot D R d.ss pv S) :
    Calls Tryd.prog 36 #[.pointer (some ⟨S, 0, none⟩)] w fun e w' => e = .returned (ev E (wipeRestM d m).1) ∧ ∃ pv', DkT w w' w0.heap.size D R d (wipeRestM d m).2 pv pv' := by
  have hlen := h.len
  have hpl := place_any h hs (hm.ok hlen.2)
  obtain ⟨res, hres⟩ : ∃ res, res = wipeRestM d m := ⟨_, rfl⟩
  rw [← hres]
  unfold wipeRestM at hres
  obtain ⟨fr, hfr⟩ : ∃ fr, fr = m.from d.ss.length := ⟨_, rfl⟩
  obtain ⟨to, hto⟩ : ∃ to, to = m.from d.ss.length + needS m.size := ⟨_, rfl⟩
  rw [← hto, ← hfr] at hpl hres
  obtain ⟨N, hN⟩ : ∃ N, N = d.ss.length := ⟨_, rfl⟩
  rw [← hN] at hlen hres
  obtain ⟨rr, hrr⟩ : ∃ rr, rr = wipeRestL fr to N 1 d false (N - 1) := ⟨_, rfl⟩
  rw [← hrr] at hres
  have HRES := Lib.hid hres
  clear hres
  obtain ⟨zfr, hzfr⟩ : ∃ z : Int, z = (fr : Int) := ⟨_, rfl⟩
  obtain ⟨zto, hzto⟩ : ∃ z : Int, z = (to : Int) := ⟨_, rfl⟩
  rw [← hzfr, ← hzto] at hpl
  have HH := Lib.hid (And.intro h (And.intro hs (And.intro hp ho)))
  have HN := Lib.hid hN
  have HR := Lib.hid hrr
  have HZ := Lib.hid (And.intro hzfr hzto)
  clear hrr hN hzfr hzto hfr hto hs h hp ho hm
  go_enter Tryd.func36, Tryd.ntmps36
  go_upto_region 3 with (go_at_call 47; refine hpl.mono ?_; rintro e w1 ⟨rfl, hb1⟩; have HB1 := Lib.hid hb1; clear hb1)
  clear hpl
  obtain ⟨h, hs, hp, ho⟩ := HH.out
  clear HH
  have Hh := Lib.hid (And.intro h hs)
  go_wp2_with fail
  go_loopw [3, 6] (fun x y wr => ∃ (i : Nat) (dj : DM) (pvj : Nat → Value) (wrote : Bool), 1 ≤ i ∧ i ≤ N ∧ y = .int .i64 (i : Int) ∧ x = .bool wrote ∧ DkT w wr w0.heap.size D R d dj pv pvj ∧ PL dj (500 + i) ∧ dj.off = false ∧ rr = wipeRestL fr to N i dj wrote (N - i)) (fun _ y _ => N - (intOf y).toNat)
  case atStart => exact ⟨1, d, pv, false, by omega, by omega, rfl, rfl, DkT.refl h HB1.out, hp.mono (by omega), ho, HR.out⟩
  clear h hs hp ho HR
  case round =>
    obtain ⟨i, dj, pvj, wrote, h1i, hiN0, rfl, rfl, hT, hPj, hoj, hrun⟩ := hrel
    have hsj := Hh.out.2.turn hT.t hnS
    have c0 := hsj.c0
    have hsz := size_any hT.dk
    have hNj : dj.ss.length = N := by rw [hT.l, ← HN.out]
    rw [hNj] at hsz
    have HT := Lib.hid hT
    have HP := Lib.hid hPj
    have HRun := Lib.hid hrun
    have HSj := Lib.hid hsj
    clear hT hPj hrun hsj
    obtain ⟨zN, hzN⟩ : ∃ z : Int, z = (N : Int) := ⟨_, rfl⟩
    rw [← hzN] at hsz
    obtain ⟨zi, hzi⟩ : ∃ z : Int, z = (i : Int) := ⟨_, rfl⟩
    rw [← hzi]
    by_cases hlt : i < N
    · have hlt' : zi < zN := by omega
      have hw1 : wrap64 (zi + 1) = zi + 1 := by unfold wrap64; omega
      have hstep := wipeRest_step fr to N i dj wrote hlt
      rw [← HRun.out] at hstep
      have hiN : i < dj.ss.length := by rw [hNj]; exact hlt
      by_cases hin : fr ≤ i ∧ i < to
      · have d1 : zfr ≤ zi := by rw [HZ.out.1]; omega
        have d2 : zi < zto := by rw [HZ.out.2]; omega
        rw [if_pos hin] at hstep
        have HST := Lib.hid hstep
        have HQ := Lib.hid (And.intro hzi (And.intro hiN0 (And.intro hlt hoj)))
        clear hstep hin hiN hNj hzN hzi hiN0 h1i hoj hlt
        go_wp2_with (go_at_call 61; refine hsz.mono ?_; rintro e W1 ⟨rfl, hb1⟩; have HB1 := Lib.hid hb1; clear hb1 hsz)
        go_roundw
        case rel => exact ⟨i + 1, dj, pvj, wrote, by omega, HQ.out.2.2.1, by first | (rw [hw1, HQ.out.1]; rfl) | (rw [HQ.out.1]; rfl), rfl, HT.out.below HB1.out, HP.out.mono (by omega), HQ.out.2.2.2, HST.out⟩
        case measure => have h1 := HQ.out.1; have h2 := HQ.out.2.2.1; simp [intOf] <;> omega
      · rw [if_neg hin] at hstep
        have hgo : Hid ((zfr ≤ zi ∧ ¬ zi < zto) ∨ ¬ zfr ≤ zi) := Lib.hid (by rw [HZ.out.1, HZ.out.2]; omega)
        have hrd0 := fun W (hW : Below wr.heap.size wr W) => read_m (HT.out.dk.below hW) hoj i hiN
        have hstp := Lib.hid hstep
        have HQ := Lib.hid (And.intro hzi (And.intro hiN0 (And.intro hlt (And.intro hoj (And.intro hiN h1i)))))
        rw [← hzi] at hrd0
        have htop := top_len dj i hiN
        have HTL := Lib.hid htop
        clear hstep hin hNj hzN hzi hiN0 h1i hoj hlt htop hiN
        have key : ∀ W1, Below wr.heap.size wr W1 → ∃ x, x = W1 := fun W1 _ => ⟨W1, rfl⟩
        clear key
        rcases hgo.out with ⟨d1, d2⟩ | d1
        · clear hgo
          go_upto_region 7 with (go_at_call 61; refine hsz.mono ?_; rintro e W1 ⟨rfl, hb1⟩; have HB1 := Lib.hid hb1; clear hb1 hsz)
          have hs1 := HSj.out.below HB1.out
          have c0 := hs1.c0
          clear d1
          have hrd := hrd0 W1 HB1.out
          clear hrd0
          go_upto_region 10 with (go_at_call 34; refine hrd.mono ?_; rintro e W2 ⟨g, rfl, hg, hr2, hb2⟩; have HB2 := Lib.hid (HB1.out.trans (hb2.mono HB1.out.size)); have HR2 := Lib.hid hr2; clear hb2 hr2)
          have hz := isZero_any W2 (dj.top i) g 128 (by rw [HTL.out]; decide) HR2.out
          rw [HTL.out] at hz
          have hstep := hstp.out
          cases hzz : isZ (dj.top i) with
          | true =>
            rw [hzz] at hz
            rw [if_pos hzz] at hstep
            have HST := Lib.hid hstep
            clear hstep hzz hrd hstp hs1 c0
            go_wp2_with (go_at_call 57; refine hz.mono ?_; rintro e W3 ⟨rfl, e3⟩; obtain rfl : W2 = W3 := e3.symm)
            go_roundw
            case rel => exact ⟨i + 1, dj, pvj, wrote, by omega, HQ.out.2.2.1, by first | (rw [hw1, HQ.out.1]; rfl) | (rw [HQ.out.1]; rfl), rfl, HT.out.below HB2.out, HP.out.mono (by omega), HQ.out.2.2.2.1, HST.out⟩
            case measure => have h1 := HQ.out.1; have h2 := HQ.out.2.2.1; simp [intOf] <;> omega
          | false =>
          rw [hzz] at hz
          rw [if_neg (by rw [hzz]; decide)] at hstep
          have HST := Lib.hid hstep
          clear hstep hzz hrd hstp hs1 c0
          go_upto_region 11 with (go_at_call 57; refine hz.mono ?_; rintro e W3 ⟨rfl, e3⟩; obtain rfl : W2 = W3 := e3.symm)
          have hT2 := HT.out.below HB2.out
          have hs2 := HSj.out.below HB2.out
          have hiN := HQ.out.2.2.2.2.1
          have hPj := HP.out
          have hNle : i < 400 := by have := HQ.out.2.2.1; omega
          obtain ⟨h, hs⟩ := Hh.out
          clear hz
          refine wp_region_noPanic ?_
          refine wp_region_held_drew (S := fun W => SlC W S D m) (by kernel_rfl) (hs2.below (Below.drewNr (w := W2) 1)) (fun hHeld => ?_)
          refine held_move 0 (Go.Operand.tmp 0) (some 46) (.pointer (some ⟨S, 0, none⟩)) (by kernel_rfl) (by kernel_rfl) (by kernel_rfl) (by kernel_rfl) (by kernel_rfl) (fun _ _ _ _ _ h => h) hHeld ?_
          refine held_nil 1 (Go.Operand.tmp 46) (some 47) ⟨S, 0, none⟩ (by kernel_rfl) (by kernel_rfl) (by kernel_rfl) (by kernel_rfl) (by kernel_rfl) (fun _ _ _ _ _ h => h) hHeld ?_
          refine held_field 2 76 (Go.Operand.tmp 47) 0 (some 48) (.pointer (some ⟨S, 0, none⟩)) (.pointer (some ⟨S, 0, none⟩)) (by kernel_rfl) (by kernel_rfl) (fun w => by kernel_rfl) (by kernel_rfl) (by kernel_rfl) (by kernel_rfl) (fun _ _ _ _ _ h => h) hHeld ?_
          refine held_cell 3 25 (Go.Operand.tmp 48) (some 49) (.pointer (some ⟨S, 0, none⟩)) (.pointer (some ⟨D, 0, none⟩)) (by kernel_rfl) (by kernel_rfl) (fun W hW => load_slice S 0 W 25 (fun w => by kernel_rfl) _ hW.c0) (by kernel_rfl) (by kernel_rfl) (by kernel_rfl) (fun _ _ _ _ _ h => h) hHeld ?_
          refine held_move 4 (Go.Operand.tmp 6) (some 50) (.int .i64 zi) (by kernel_rfl) (by kernel_rfl) (by kernel_rfl) (by kernel_rfl) (by kernel_rfl) (fun _ _ _ _ _ h => h) hHeld ?_
          obtain ⟨W3, hW3⟩ : ∃ W3, W3 = W2.drew := ⟨_, rfl⟩
          rw [← hW3] at hHeld ⊢
          have hb23 : Below W2.heap.size W2 W3 := by rw [hW3]; exact Below.drewNr (w := W2) 1
          have hba := below_alc W3 (.cells (bcells zc).toArray 5)
          have hb24 := hb23.trans (hba.mono hb23.size)
          have hwr := write_m E w0 hE ((hT2.base h Hb).trans (hb24.mono (hT2.base h Hb).size)) (hT2.dk.below hb24) (hPj.mono (by omega)) i hiN zB W3.heap.size 0 128 (range_new (heap1_0 W3 _)) (fun hh => by have h1 := hT2.dk.ltF hh; have h2 := hb23.size; omega)
          rw [← HQ.out.1] at hwr
          refine held_run 5 (Go.Op.makeSlice 41 (Go.Operand.const (Go.Value.int Go.IntKind.i64 128)) (Go.Operand.const (Go.Value.int Go.IntKind.i64 128))) 41 (some 51) (.slice (some ⟨W3.heap.size, 0, none⟩) 128 128) (W3.alloc (.cells (bcells zc).toArray 5)) (by kernel_rfl) (by kernel_rfl) (by kernel_rfl) (fun o ho ht => exec_make ho (by kernel_rfl) (make_128 W3)) (hHeld.below (below_alc W3 _)) ?_
          intro hHeld
          refine held_call 6 32 #[Go.Operand.tmp 49, Go.Operand.tmp 50, Go.Operand.tmp 51] #[25, 3, 41] (some 52) #[.pointer (some ⟨D, 0, none⟩), .int .i64 zi, .slice (some ⟨W3.heap.size, 0, none⟩) 128 128] _ (by kernel_rfl) (by kernel_rfl) (by kernel_rfl) (by kernel_rfl) (hwr) ?_
          rintro e W4 ⟨rfl, pv4, hT4⟩
          have hT4 := DkT.ahead hb24 hT2.dk hT4
          have hT := hT2.trans hT4
          refine ⟨_, rfl, hs.turn hT.t hnS, fun hHeld => ?_⟩
          refine held_assign 7 (Go.Operand.tmp 52) (some 9) (ev E dj.bad) (by kernel_rfl) (by kernel_rfl) (by kernel_rfl) (by kernel_rfl) (by kernel_rfl) (fun _ _ _ _ _ h => h) hHeld ?_
          refine wpAnyH_done (by kernel_rfl) ?_ _
          refine NoPanic.normal ?_
          simp only [Act.put, List.setIfInBounds_toArray, List.set_cons_zero, List.set_cons_succ]
          have HTT := Lib.hid hT
          have hst := HST.out
          clear hT hT4 hwr hb23 hb24 hba hHeld hT2 hs2 hiN hPj hNle h hs hW3 HST
          cases hbad : dj.bad with
          | true =>
            rw [ev_true]
            rw [if_pos hbad] at hst
            have HX := Lib.hid hst
            clear hst hbad
            go_wp2_with fail
            go_ret
            have e2 := HRES.out
            rw [HX.out] at e2
            rw [e2]
            exact ⟨rfl, pv4, HTT.out⟩
          | false =>
            rw [ev_false]
            rw [if_neg (by rw [hbad]; decide)] at hst
            have HX := Lib.hid (And.intro hst (wr_good hbad i zB))
            clear hst hbad
            go_wp2_with fail
            go_roundw
            case rel => exact ⟨i + 1, _, pv4, true, by omega, HQ.out.2.2.1, by first | (rw [hw1, HQ.out.1]; rfl) | (rw [HQ.out.1]; rfl), rfl, HTT.out, (HP.out.wr _ _).mono (by omega), HX.out.2, HX.out.1⟩
            case measure => have h1 := HQ.out.1; have h2 := HQ.out.2.2.1; simp [intOf] <;> omega
        · clear hgo
          go_upto_region 7 with (go_at_call 61; refine hsz.mono ?_; rintro e W1 ⟨rfl, hb1⟩; have HB1 := Lib.hid hb1; clear hb1 hsz)
          have hs1 := HSj.out.below HB1.out
          have c0 := hs1.c0
          clear d1
          have hrd := hrd0 W1 HB1.out
          clear hrd0
          go_upto_region 10 with (go_at_call 34; refine hrd.mono ?_; rintro e W2 ⟨g, rfl, hg, hr2, hb2⟩; have HB2 := Lib.hid (HB1.out.trans (hb2.mono HB1.out.size)); have HR2 := Lib.hid hr2; clear hb2 hr2)
          have hz := isZero_any W2 (dj.top i) g 128 (by rw [HTL.out]; decide) HR2.out
          rw [HTL.out] at hz
          have hstep := hstp.out
          cases hzz : isZ (dj.top i) with
          | true =>
            rw [hzz] at hz
            rw [if_pos hzz] at hstep
            have HST := Lib.hid hstep
            clear hstep hzz hrd hstp hs1 c0
            go_wp2_with (go_at_call 57; refine hz.mono ?_; rintro e W3 ⟨rfl, e3⟩; obtain rfl : W2 = W3 := e3.symm)
            go_roundw
            case rel => exact ⟨i + 1, dj, pvj, wrote, by omega, HQ.out.2.2.1, by first | (rw [hw1, HQ.out.1]; rfl) | (rw [HQ.out.1]; rfl), rfl, HT.out.below HB2.out, HP.out.mono (by omega), HQ.out.2.2.2.1, HST.out⟩
            case measure => have h1 := HQ.out.1; have h2 := HQ.out.2.2.1; simp [intOf] <;> omega
          | false =>
          rw [hzz] at hz
          rw [if_neg (by rw [hzz]; decide)] at hstep
          have HST := Lib.hid hstep
          clear hstep hzz hrd hstp hs1 c0
          go_upto_region 11 with (go_at_call 57; refine hz.mono ?_; rintro e W3 ⟨rfl, e3⟩; obtain rfl : W2 = W3 := e3.symm)
          have hT2 := HT.out.below HB2.out
          have hs2 := HSj.out.below HB2.out
          have hiN := HQ.out.2.2.2.2.1
          have hPj := HP.out
          have hNle : i < 400 := by have := HQ.out.2.2.1; omega
          obtain ⟨h, hs⟩ := Hh.out
          clear hz
          refine wp_region_noPanic ?_
          refine wp_region_held_drew (S := fun W => SlC W S D m) (by kernel_rfl) (hs2.below (Below.drewNr (w := W2) 1)) (fun hHeld => ?_)
          refine held_move 0 (Go.Operand.tmp 0) (some 46) (.pointer (some ⟨S, 0, none⟩)) (by kernel_rfl) (by kernel_rfl) (by kernel_rfl) (by kernel_rfl) (by kernel_rfl) (fun _ _ _ _ _ h => h) hHeld ?_
          refine held_nil 1 (Go.Operand.tmp 46) (some 47) ⟨S, 0, none⟩ (by kernel_rfl) (by kernel_rfl) (by kernel_rfl) (by kernel_rfl) (by kernel_rfl) (fun _ _ _ _ _ h => h) hHeld ?_
          refine held_field 2 76 (Go.Operand.tmp 47) 0 (some 48) (.pointer (some ⟨S, 0, none⟩)) (.pointer (some ⟨S, 0, none⟩)) (by kernel_rfl) (by kernel_rfl) (fun w => by kernel_rfl) (by kernel_rfl) (by kernel_rfl) (by kernel_rfl) (fun _ _ _ _ _ h => h) hHeld ?_
          refine held_cell 3 25 (Go.Operand.tmp 48) (some 49) (.pointer (some ⟨S, 0, none⟩)) (.pointer (some ⟨D, 0, none⟩)) (by kernel_rfl) (by kernel_rfl) (fun W hW => load_slice S 0 W 25 (fun w => by kernel_rfl) _ hW.c0) (by kernel_rfl) (by kernel_rfl) (by kernel_rfl) (fun _ _ _ _ _ h => h) hHeld ?_
          refine held_move 4 (Go.Operand.tmp 6) (some 50) (.int .i64 zi) (by kernel_rfl) (by kernel_rfl) (by kernel_rfl) (by kernel_rfl) (by kernel_rfl) (fun _ _ _ _ _ h => h) hHeld ?_
          obtain ⟨W3, hW3⟩ : ∃ W3, W3 = W2.drew := ⟨_, rfl⟩
          rw [← hW3] at hHeld ⊢
          have hb23 : Below W2.heap.size W2 W3 := by rw [hW3]; exact Below.drewNr (w := W2) 1
          have hba := below_alc W3 (.cells (bcells zc).toArray 5)
          have hb24 := hb23.trans (hba.mono hb23.size)
          have hwr := write_m E w0 hE ((hT2.base h Hb).trans (hb24.mono (hT2.base h Hb).size)) (hT2.dk.below hb24) (hPj.mono (by omega)) i hiN zB W3.heap.size 0 128 (range_new (heap1_0 W3 _)) (fun hh => by have h1 := hT2.dk.ltF hh; have h2 := hb23.size; omega)
          rw [← HQ.out.1] at hwr
          refine held_run 5 (Go.Op.makeSlice 41 (Go.Operand.const (Go.Value.int Go.IntKind.i64 128)) (Go.Operand.const (Go.Value.int Go.IntKind.i64 128))) 41 (some 51) (.slice (some ⟨W3.heap.size, 0, none⟩) 128 128) (W3.alloc (.cells (bcells zc).toArray 5)) (by kernel_rfl) (by kernel_rfl) (by kernel_rfl) (fun o ho ht => exec_make ho (by kernel_rfl) (make_128 W3)) (hHeld.below (below_alc W3 _)) ?_
          intro hHeld
          refine held_call 6 32 #[Go.Operand.tmp 49, Go.Operand.tmp 50, Go.Operand.tmp 51] #[25, 3, 41] (some 52) #[.pointer (some ⟨D, 0, none⟩), .int .i64 zi, .slice (some ⟨W3.heap.size, 0, none⟩) 128 128] _ (by kernel_rfl) (by kernel_rfl) (by kernel_rfl) (by kernel_rfl) (hwr) ?_
          rintro e W4 ⟨rfl, pv4, hT4⟩
          have hT4 := DkT.ahead hb24 hT2.dk hT4
          have hT := hT2.trans hT4
          refine ⟨_, rfl, hs.turn hT.t hnS, fun hHeld => ?_⟩
          refine held_assign 7 (Go.Operand.tmp 52) (some 9) (ev E dj.bad) (by kernel_rfl) (by kernel_rfl) (by kernel_rfl) (by kernel_rfl) (by kernel_rfl) (fun _ _ _ _ _ h => h) hHeld ?_
          refine wpAnyH_done (by kernel_rfl) ?_ _
          refine NoPanic.normal ?_
          simp only [Act.put, List.setIfInBounds_toArray, List.set_cons_zero, List.set_cons_succ]
          have HTT := Lib.hid hT
          have hst := HST.out
          clear hT hT4 hwr hb23 hb24 hba hHeld hT2 hs2 hiN hPj hNle h hs hW3 HST
          cases hbad : dj.bad with
          | true =>
            rw [ev_true]
            rw [if_pos hbad] at hst
            have HX := Lib.hid hst
            clear hst hbad
            go_wp2_with fail
            go_ret
            have e2 := HRES.out
            rw [HX.out] at e2
            rw [e2]
            exact ⟨rfl, pv4, HTT.out⟩
          | false =>
            rw [ev_false]
            rw [if_neg (by rw [hbad]; decide)] at hst
            have HX := Lib.hid (And.intro hst (wr_good hbad i zB))
            clear hst hbad
            go_wp2_with fail
            go_roundw
            case rel => exact ⟨i + 1, _, pv4, true, by omega, HQ.out.2.2.1, by first | (rw [hw1, HQ.out.1]; rfl) | (rw [HQ.out.1]; rfl), rfl, HTT.out, (HP.out.wr _ _).mono (by omega), HX.out.2, HX.out.1⟩
            case measure => have h1 := HQ.out.1; have h2 := HQ.out.2.2.1; simp [intOf] <;> omega
    · obtain rfl : i = N := by omega
      have hlt' : ¬ zi < zN := by omega
      have e2 := HRun.out
      rw [Nat.sub_self] at e2
      have e3 : rr = (some wrote, dj) := e2
      have HE := Lib.hid e3
      have hsy := fun W (hW : Below wr.heap.size wr W) => sync_m E ((hE.below (HT.out.base Hh.out.1 Hb)).below hW) (HT.out.dk.below hW)
      clear e2 e3 hlt hiN0 h1i hzN hzi hNj
      cases wrote with
      | true =>
        go_wp2_with (first | (go_at_call 61; refine hsz.mono ?_; rintro e W1 ⟨rfl, hb1⟩; have HB1 := Lib.hid hb1; have c01 := (HSj.out.below hb1).c0; clear hb1 hsz) | (go_at_call 33; refine (hsy _ HB1.out).mono ?_; rintro e W4 ⟨rfl, pv4, hT4⟩; have HT4 := Lib.hid (HT.out.trans (DkT.ahead HB1.out HT.out.dk hT4)); clear hT4))
        go_ret
        have e2 := HRES.out
        rw [HE.out] at e2
        rw [e2]
        exact ⟨rfl, pv4, HT4.out⟩
      | false =>
        go_wp2_with (go_at_call 61; refine hsz.mono ?_; rintro e W1 ⟨rfl, hb1⟩; have HB1 := Lib.hid hb1; clear hb1 hsz)
        go_ret
        have e2 := HRES.out
        rw [HE.out] at e2
        rw [e2]
        exact ⟨rfl, pvj, HT.out.below HB1.out⟩
end
theorem readHead_fits {N : Nat} {b : List UInt8} {m : SM} (h : readHeadM N b = some m) : m.fits N := by
  unfold readHeadM at h
  split at h
  · cases h
    exact ⟨by simp, by simp, by simp⟩
  · simp only at h
    split at h
    · cases h
    · rename_i h1
      split at h
      · cases h
        refine ⟨by have := getW_lt b 4; show getW b 4 ≤ _; omega, ?_, ?_⟩
        · simp only [not_or] at h1; show (b.getD 8 0).toNat ≤ 1; omega
        · simp only [not_or] at h1; show getW b 9 ≤ _; omega
      · cases h
/-- what Open answers -/
structure Opened (E : Nat → Addr) (w w' : World) (n D R : Nat) (d : DM) (pv : Nat → Value) (v : Value) (pv' : Nat → Value) : Prop where
  t : DkT w w' n D R d (openM d).2.2 pv pv'
  ok : (openM d).1 = none → ∃ S, v = .pointer (some ⟨S, 0, none⟩) ∧ SlC w' S D (openM d).2.1 ∧ w.heap.size ≤ S ∧ ¬ DFoot D R (openM d).2.2.ss pv' S ∧ (openM d).2.1.fits d.ss.length
  no : (openM d).1 ≠ none → v = .pointer none
section
variable {w : World} {D R S : Nat} {d : DM} {pv : Nat → Value} {m : SM}
set_option maxRecDepth 100000 in
set_option maxHeartbeats 3200000 in
theorem open_any (E : Nat → Addr) (w0 : World) (hE : ErrD E w0) (Hb : Below w0.heap.size w0 w) (h : DkM w w0.heap.size D R d pv) (hp : PL d 500) :
    Calls Tryd.prog 13 #[.pointer (some ⟨D, 0, none⟩)] w fun e w' => ∃ v pv', e = .returned (.tuple #[v, eo E (openM d).1]) ∧ Opened E w w' w0.heap.size D R d pv v pv' := by
  have hlen := h.len
  obtain ⟨ro, hro⟩ : ∃ ro, ro = openM d := ⟨_, rfl⟩
  have HP : Hid (∀ v pv' w', (DkT w w' w0.heap.size D R d ro.2.2 pv pv' ∧ (ro.1 = none → ∃ S, v = .pointer (some ⟨S, 0, none⟩) ∧ SlC w' S D ro.2.1 ∧ w.heap.size ≤ S ∧ ¬ DFoot D R ro.2.2.ss pv' S ∧ ro.2.1.fits d.ss.length) ∧ (ro.1 ≠ none → v = .pointer none)) → Opened E w w' w0.heap.size D R d pv v pv') := Lib.hid (fun v pv' w' hh => ⟨by rw [← hro]; exact hh.1, by rw [← hro]; exact hh.2.1, by rw [← hro]; exact hh.2.2⟩)
  have HRO := Lib.hid (hro.trans (show openM d = (if d.off then (some 0, ⟨0, 0, 0⟩, d) else match readHeadM d.ss.length (d.top 0) with
    | none => (some 7, ⟨0, 0, 0⟩, d)
    | some m => (if (wipeRestM d m).1 then some 0 else none, m, (wipeRestM d m).2)) from rfl))
  rw [← hro]
  clear hro
  cases hoff : d.off with
  | true =>
    have hrd := read_off (w := w) (n := w0.heap.size) (D := D) (R := R) (ss := d.ss) (fuse := d.fuse) (pv := pv) E (hE.below Hb) (by have h2 := h; unfold DkM at h2; rw [hoff] at h2; exact h2) 0
    have er := HRO.out
    rw [if_pos hoff] at er
    have ER := Lib.hid er
    have Hh := Lib.hid h
    clear er HRO h hoff
    go_enter Tryd.func13, Tryd.ntmps13
    go_wp2_with (go_at_call 34; refine hrd.mono ?_; rintro e W1 ⟨rfl, hb1⟩; have HB1 := Lib.hid hb1; clear hb1 hrd)
    go_ret2
    refine ⟨_, pv, by rw [ER.out]; rfl, HP.out _ _ _ ⟨?_, fun e => ?_, fun _ => rfl⟩⟩
    · rw [ER.out]; exact DkT.refl Hh.out HB1.out
    · rw [ER.out] at e; cases e
  | false =>
  have hrd := read_m h hoff 0 hlen.1
  have hroe := HRO.out
  rw [hoff, if_neg (by decide)] at hroe
  have HTL := Lib.hid (top_len d 0 hlen.1)
  have Hh := Lib.hid h
  have HRE := Lib.hid hroe
  clear h hroe HRO
  go_enter Tryd.func13, Tryd.ntmps13
  go_upto_region 4 with (go_at_call 34; refine hrd.mono ?_; rintro e W1 ⟨g, rfl, hg, hr1, hb1⟩)
  have HB1 := Lib.hid hb1
  have HR1 := Lib.hid hr1
  have HG := Lib.hid hg
  have hgl := range_lt hr1 (by rw [bcells_len, HTL.out]; decide)
  have HGL := Lib.hid hgl
  clear hrd hb1 hr1 hg hgl
  go_upto_region 5 with (fail)
  obtain ⟨S, hS⟩ : ∃ S, S = W1.heap.size := ⟨_, rfl⟩
  rw [← hS]
  have hbS := below_alc W1 (.cells #[.pointer (some ⟨D, 0, none⟩), .int .u32 0, .int .i64 0, .int .i64 0] 76)
  refine wp_world (fun W => Below w.heap.size w W ∧ SlC W S D ⟨0, 0, 0⟩ ∧ W.rangeAt g 0 (bcells (d.top 0))) ⟨HB1.out.trans (hbS.mono HB1.out.size), SlC.new (by rw [hS]; exact heap1_0 W1 _), range_b HR1.out hbS HGL.out⟩ ?_
  have HS : Hid (w.heap.size ≤ S ∧ g < S) := Lib.hid (by rw [hS]; exact ⟨HB1.out.size, HGL.out⟩)
  clear hS hbS
  rintro W2 ⟨hb2, hs2, hr2⟩
  have hnS : ¬ DFoot D R d.ss pv S := fun hh => by have h1 := Hh.out.ltF hh; have h2 := HS.out.1; omega
  have hrh := readHead_any (Hh.out.below hb2) hs2 hnS (d.top 0) HTL.out g (by have := HS.out.2; omega) hr2
  have HB2 := Lib.hid hb2
  have HS2 := Lib.hid hs2
  have HnS := Lib.hid hnS
  have hfits := fun m (hm : readHeadM d.ss.length (d.top 0) = some m) => readHead_fits hm
  clear hb2 hs2 hr2 hnS
  cases hrm : readHeadM d.ss.length (d.top 0) with
  | none =>
    rw [hrm] at hrh
    have er := HRE.out
    rw [hrm] at er
    have ER := Lib.hid (show ro = (some 7, ⟨0, 0, 0⟩, d) from er)
    have hfa : ∀ W, Turn (· = S) W2 W → W.cell? ⟨0, 0, none⟩ = some (errV (E 7)) := fun W hW => (hW.cell ((hE.below (Hb.trans (HB2.out.mono Hb.size))).ltG (i := 7) (by decide)) (fun e => by have h1 := hE.ltG (i := 7) (by decide); have h2 := HS.out.1; have h3 := Hb.size; have h4 : gE 7 = 0 := rfl; omega)).trans ((hE.below (Hb.trans (HB2.out.mono Hb.size))).c 7 (by decide))
    clear er HRE hrm hfits
    go_upto_region 6 with (go_at_call 35; refine hrh.mono ?_; rintro e W3 ⟨rfl, ht3, _⟩; have HT3 := Lib.hid ht3; have hf3 := hfa W3 ht3; clear ht3 hrh)
    clear hfa
    go_quiet (fail)
    go_wp2_with fail
    go_ret2
    refine ⟨_, pv, by rw [ER.out]; rfl, HP.out _ _ _ ⟨?_, fun e => ?_, fun _ => rfl⟩⟩
    · rw [ER.out]
      exact (DkT.refl Hh.out (HT3.out.below HB2.out HB2.out.size (fun q e => by rw [e]; exact HS.out.1))).below (Below.drewNr _)
    · rw [ER.out] at e; cases e
  | some m =>
    rw [hrm] at hrh
    have er := HRE.out
    rw [hrm] at er
    obtain ⟨rw1, hrw1⟩ : ∃ r, r = wipeRestM d m := ⟨_, rfl⟩
    have er : ro = (if rw1.1 then some 0 else none, m, rw1.2) := by rw [hrw1]; exact er
    have hfm := hfits m hrm
    have hwp := fun W (hT : Turn (· = S) W2 W) (hs : SlC W S D m) => wipeRest_any E w0 hE (Hb.trans ((hT.below HB2.out HB2.out.size (fun q e => by rw [e]; exact HS.out.1)).mono Hb.size)) (Hh.out.below (hT.below HB2.out HB2.out.size (fun q e => by rw [e]; exact HS.out.1))) hp hoff hs hfm HnS.out
    rw [← hrw1] at hwp
    have HF := Lib.hid (And.intro er hfm)
    clear er hfm HRE hrm hfits hrw1
    go_upto_region 7 with (go_at_call 35; refine hrh.mono ?_; rintro e W3 ⟨rfl, ht3, hs3⟩; have HT3 := Lib.hid ht3; have HS3 := Lib.hid (hs3 m rfl); clear ht3 hs3 hrh)
    have hw3 := hwp W3 HT3.out HS3.out
    have hb3 := HT3.out.below HB2.out HB2.out.size (fun q e => by rw [e]; exact HS.out.1)
    have HB3 := Lib.hid hb3
    clear hwp hb3
    cases hb : rw1.1 with
    | true =>
      rw [hb, ev_true] at hw3
      have er := HF.out.1
      rw [hb, if_pos rfl] at er
      have ER := Lib.hid er
      clear er hb
      go_wp2_with (go_at_call 36; refine hw3.mono ?_; rintro e W4 ⟨rfl, pv4, hT4⟩; have HT4 := Lib.hid (DkT.ahead HB3.out Hh.out hT4); clear hT4 hw3)
      go_ret2
      refine ⟨_, pv4, by rw [ER.out]; rfl, HP.out _ _ _ ⟨by rw [ER.out]; exact HT4.out, fun e => (by rw [ER.out] at e; cases e), fun _ => rfl⟩⟩
    | false =>
      rw [hb, ev_false] at hw3
      have er := HF.out.1
      rw [hb, if_neg (by decide)] at er
      have ER := Lib.hid er
      clear er hb
      go_wp2_with (go_at_call 36; refine hw3.mono ?_; rintro e W4 ⟨rfl, pv4, hT4⟩; have H34 := Lib.hid hT4; have HT4 := Lib.hid (DkT.ahead HB3.out Hh.out hT4); clear hT4 hw3)
      go_ret2
      refine ⟨_, pv4, by rw [ER.out]; rfl, HP.out _ _ _ ⟨by rw [ER.out]; exact HT4.out, fun _ => ⟨S, rfl, ?_, HS.out.1, ?_, ?_⟩, fun e => absurd (by rw [ER.out]) e⟩⟩
      · rw [ER.out]
        exact HS3.out.turn H34.out.t HnS.out
      · rw [ER.out]
        exact H34.out.nF HS3.out.lt HnS.out
      · rw [ER.out]
        exact HF.out.2
/-- so many sectors from there on -/
def topsL (d : DM) (fr : Nat) (k : Nat) : List UInt8 := (List.range k).flatMap fun j => d.top (fr + j)
theorem topsL_succ (d : DM) (fr k : Nat) : topsL d fr (k + 1) = topsL d fr k ++ d.top (fr + k) := by simp [topsL, List.range_succ]
theorem topsL_len (d : DM) (fr : Nat) : ∀ k, fr + k ≤ d.ss.length → (topsL d fr k).length = k * 128
  | 0, _ => rfl
  | k + 1, h => by rw [topsL_succ, List.length_append, topsL_len d fr k (by omega), top_len d (fr + k) (by omega)]; omega
theorem loadL_tops (d : DM) (m : SM) : loadL d m = (topsL d (m.from d.ss.length) (needS m.size)).take m.size := rfl
theorem cut_own {w : World} {base n c k : Nat} {A : Option Addr} {xs : List UInt8} (h : w.ownsRow base 5 1 (.slice A n c) n (bcells xs)) (hk : k ≤ n) (W : World) :
    (Instr.sliceAt 41 (.slice A n c) none (some (.int .i64 (k : Int))) none).run Tryd.prog W = .ok (.slice A k c) W ∧ SlRead w A (bcells (xs.take k)) := by
  have hr := SlRead.of_own h
  obtain ⟨A', c', e, hc, _⟩ := own_slice h
  cases e
  constructor
  · have hu := Tryd.underlying41
    have e2 : Tryd.prog.elem 41 = 5 := by simp [Program.elem, hu]
    have h1 := run_slice_h (P := Tryd.prog) W 41 A n c (by rw [e2]; exact hu) .i64 (k : Int) (by omega) (by omega)
    have h2 := run_sliceAt_slice (P := Tryd.prog) W 41 (.slice A n c) none (some (.int .i64 (k : Int))) none (by rw [e2]; exact hu)
    have h3 : ∀ w, (sizeOf 5).run Tryd.prog w = .ok 1 w := fun w => by kernel_rfl
    rw [h1, e2, h3] at h2
    rw [h2]
    rcases h.2 with ⟨e, _⟩ | ⟨g, cp, cur, e, _⟩ <;> cases e <;> simp [Result.andThen_ok, sliced, add_eq]
  · intro hn
    obtain ⟨b, o, e, hl, hcell⟩ := hr (by rw [bcells_len] at *; simp at hn; omega)
    refine ⟨b, o, e, hl, fun j u hj => hcell j u ?_⟩
    rw [← hj]
    have hjk : j < k := by have := (List.getElem?_eq_some_iff.1 hj).1; simp [bcells] at this; omega
    simp [bcells, hjk]
set_option maxRecDepth 100000 in
set_option maxHeartbeats 3200000 in
theorem load_any {n : Nat} (h : DkM w n D R d pv) (ho : d.off = false) (hs : SlC w S D m) (hm : m.fits d.ss.length) :
    Calls Tryd.prog 16 #[.pointer (some ⟨S, 0, none⟩)] w fun e w' => ∃ A c, e = .returned (.tuple #[.slice A m.size c, .nilIface]) ∧ SlRead w' A (bcells (loadL d m)) ∧ (loadL d m).length = m.size ∧ Below w.heap.size w w' ∧ (∀ a, A = some a → w.heap.size ≤ a.block ∧ a.block < w'.heap.size) := by
  have hlen := h.len
  have hpl := place_any h hs (hm.ok hlen.2)
  have hfit := fit_from hm.2.1 hm.2.2 hlen.1
  have hnd : m.size ≤ needS m.size * 128 := by unfold needS; omega
  have hll : (loadL d m).length = m.size := by rw [loadL_tops, List.length_take, topsL_len d _ _ hfit]; omega
  have hmsz := hm.2.2
  rw [loadL_tops] at hll ⊢
  obtain ⟨fr, hfr⟩ : ∃ fr, fr = m.from d.ss.length := ⟨_, rfl⟩
  obtain ⟨nd, hnd0⟩ : ∃ nd, nd = needS m.size := ⟨_, rfl⟩
  rw [← hfr, ← hnd0] at hpl hfit hll
  rw [← hnd0] at hnd
  rw [← hfr, ← hnd0]
  have HH := Lib.hid (And.intro h (And.intro hs ho))
  have HL := Lib.hid hll
  clear h hs ho hm hfr hnd0 hll
  go_enter Tryd.func16, Tryd.ntmps16
  go_upto_region 3 with (go_at_call 47; refine hpl.mono ?_; rintro e w1 ⟨rfl, hb1⟩; have HB1 := Lib.hid hb1; clear hb1 hpl)
  go_wp2_with fail
  go_loopw [6, 7] (fun x y wr => ∃ (k : Nat) (vo : Value), k ≤ nd ∧ vo = x ∧ y = .int .i64 ((fr + k : Nat) : Int) ∧ wr.ownsRow w.heap.size 5 1 vo (k * 128) (bcells (topsL d fr k)) ∧ Below w.heap.size w wr) (fun _ y _ => fr + nd - (intOf y).toNat)
  case atStart => exact ⟨0, _, by omega, rfl, rfl, ⟨by simp [topsL, bcells], .inl ⟨rfl, rfl⟩⟩, HB1.out⟩
  case round =>
    obtain ⟨k, vo, hk, rfl, rfl, hown, hb⟩ := hrel
    obtain ⟨h, hs, ho⟩ := HH.out
    have hsj := hs.below hb
    have c0 := hsj.c0
    have c3 := hsj.c3
    by_cases hlt : k < nd
    · have hlt' : ((fr + k : Nat) : Int) < ((fr + nd : Nat) : Int) := by omega
      have hrd := read_m (h.below hb) ho (fr + k) (by omega)
      have htl := top_len d (fr + k) (by omega)
      have HK := Lib.hid (show k * 128 + 128 ≤ 100000 by omega)
      have HO := Lib.hid (And.intro hown (And.intro hb (And.intro htl hlt)))
      clear h hs ho hsj hown hb htl hlt c3
      go_upto_region 9 with (go_at_call 34; refine hrd.mono ?_; rintro e W2 ⟨g, rfl, hg, hr2, hb2⟩; have HG := Lib.hid (And.intro hr2 hb2); clear hr2 hb2 hrd)
      obtain ⟨v2, W4, hap, hown4, hg4, _⟩ := run_app_U 41 W2 w.heap.size vo _ _ (own_kept HO.out.1 (fun q hq => HG.out.2.block q (HO.out.1.lt q hq).2)) (d.top (fr + k)) ⟨g, 0, none⟩ 128 128 HO.out.2.2.1 (fun j u hu => by rw [add_eq]; exact HG.out.1 j u hu) HK.out (Nat.le_trans HO.out.2.1.size HG.out.2.size)
      have hb4 : Below w.heap.size w W4 := (HO.out.2.1.trans (HG.out.2.mono HO.out.2.1.size)).trans ⟨hg4.os, hg4.tape, hg4.output, hg4.size, fun q hq => hg4.block q (by have h1 := HO.out.2.1.size; have h2 := HG.out.2.size; omega) (fun e => by have h1 := (HO.out.1.lt q e.symm).1; omega)⟩
      rw [← topsL_succ, show k * 128 + 128 = (k + 1) * 128 by omega] at hown4
      have H4 := Lib.hid (And.intro hown4 (And.intro hb4 HO.out.2.2.2))
      clear hown4 hg4 hb4 HO HG HK hg
      refine wp_region_lit ?_
      refine wpList_run (by kernel_rfl) (vo) (W2) (exec_move rfl (by kernel_rfl)) ?_
      refine wpList_run (by kernel_rfl) (.slice (some ⟨g, 0, none⟩) 128 128) (W2) (exec_move rfl (by kernel_rfl)) ?_
      refine wpList_run (by kernel_rfl) (v2) (W4) (exec_append rfl rfl (vs := vo) (vx := .slice (some ⟨g, 0, none⟩) 128 128) (by kernel_rfl) (hap)) ?_
      refine wpList_run (by kernel_rfl) (v2) (W4) (exec_assign rfl (by kernel_rfl)) ?_
      refine wpList_nil ?_
      simp only [put_list, List.set_cons_zero, List.set_cons_succ]
      go_wp2_with fail
      go_roundw
      case rel => exact ⟨k + 1, v2, by have := H4.out.2.2; omega, rfl, by first | rfl | go_num, H4.out.1, H4.out.2.1⟩
      case measure => have := H4.out.2.2; simp [intOf] <;> omega
    · obtain rfl : k = nd := by omega
      have hge : ¬ ((fr + k : Nat) : Int) < ((fr + k : Nat) : Int) := by omega
      obtain ⟨A, c, rfl, _, _, hAf⟩ := own_slice hown
      have hcut := fun W => (cut_own hown hnd W).1
      have hrd := (cut_own hown hnd wr).2
      have HX := Lib.hid (And.intro hrd (And.intro hb hAf))
      obtain ⟨sz, hsz⟩ : ∃ z : Int, z = (m.size : Int) := ⟨_, rfl⟩
      rw [← hsz] at c3 hcut
      have HSZ := Lib.hid hsz
      clear h hs ho hsj hown hb hrd hlt hsz hk hnd hAf
      go_wp2_with fail
      go_ret2
      refine ⟨_, ⟨_, rfl⟩, HX.out.1, ?_, HX.out.2.1, HX.out.2.2⟩
      simpa using HL.out
end
end Go.Proofs.YtbeeehfaeknhmaaDoor
