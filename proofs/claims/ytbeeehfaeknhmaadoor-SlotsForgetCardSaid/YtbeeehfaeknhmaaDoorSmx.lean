import Derived.Test.YtbeeehfaeknhmaaDoorSlx
/-
  slots: what Save, a crash, Open make of a disk: the model alone.
  slots: what is on a disk behind Save, a crash, Open.
  slots: Open by the model.
  slots: what a crash leaves of a Save.
-/
namespace Go.Proofs.YtbeeehfaeknhmaaDoor
open Go.RowKit

/-- a sector with nothing pending -/
def secOf (B : Blk) : Sec := ⟨B.l, [], B.h, by simp⟩
def mkD (l : List Blk) (fuse : Int) : DM := ⟨l.map secOf, false, fuse⟩
theorem secOf_inj {a b : Blk} (h : secOf a = secOf b) : a = b := Blk.ext (congrArg Sec.dur h)
theorem sync_secOf (B : Blk) : (secOf B).sync = secOf B := rfl
theorem Sec.eq_of {s : Sec} (h : s.pend = []) : s = secOf ⟨s.dur, s.hd⟩ := by
  obtain ⟨d, p, h1, h2⟩ := s
  cases h
  rfl
theorem top_secOf (B : Blk) : (secOf B).top = B.l := rfl
theorem Sec.ext2 {s t : Sec} (h1 : s.dur = t.dur) (h2 : s.pend = t.pend) : s = t := by
  obtain ⟨d, p, _, _⟩ := s
  obtain ⟨d', p', _, _⟩ := t
  cases h1
  cases h2
  rfl
theorem add_top (s : Sec) (B : Blk) : (s.add B.l B.h).top = B.l := by
  unfold Sec.top Sec.add
  simp
theorem add_sync (s : Sec) (B : Blk) : (s.add B.l B.h).sync = secOf B := Sec.ext2 (add_top s B) rfl
/-- one behind the other -/
def setL {α : Type} (l : List α) (i : Nat) : List α → List α
  | [] => l
  | x :: xs => setL (l.set i x) (i + 1) xs
def setA (ss : List Sec) (i : Nat) : List Blk → List Sec
  | [] => ss
  | B :: bs => setA (setS ss i B) (i + 1) bs
theorem setL_len {α : Type} : ∀ (xs : List α) (l : List α) (i : Nat), (setL l i xs).length = l.length
  | [], _, _ => rfl
  | x :: xs, l, i => by show (setL (l.set i x) (i + 1) xs).length = _; rw [setL_len xs, List.length_set]
theorem setA_len : ∀ (bs : List Blk) (ss : List Sec) (i : Nat), (setA ss i bs).length = ss.length
  | [], _, _ => rfl
  | B :: bs, ss, i => by show (setA (setS ss i B) (i + 1) bs).length = _; rw [setA_len bs, setS_len]
theorem setL_get {α : Type} : ∀ (xs : List α) (l : List α) (i k : Nat), i + xs.length ≤ l.length → (setL l i xs)[k]? = if i ≤ k ∧ k < i + xs.length then xs[k - i]? else l[k]?
  | [], l, i, k, _ => by
    rw [if_neg (by simp <;> omega)]
    rfl
  | x :: xs, l, i, k, h => by
    simp only [List.length_cons] at h
    show (setL (l.set i x) (i + 1) xs)[k]? = _
    rw [setL_get xs (l.set i x) (i + 1) k (by rw [List.length_set]; omega)]
    by_cases h1 : i + 1 ≤ k ∧ k < i + 1 + xs.length
    · rw [if_pos h1, if_pos (by simp only [List.length_cons]; omega)]
      obtain ⟨j, hj⟩ : ∃ j, k - i = j + 1 := ⟨k - i - 1, by omega⟩
      rw [hj, show k - (i + 1) = j by omega]
      rfl
    · rw [if_neg h1]
      by_cases h2 : k = i
      · subst h2
        rw [if_pos (by simp only [List.length_cons]; omega), Nat.sub_self, List.getElem?_set_self (by omega)]
        rfl
      · rw [if_neg (by simp only [List.length_cons]; omega), List.getElem?_set_ne (by omega)]
theorem setS_get (ss : List Sec) (i k : Nat) (B : Blk) (h : k ≠ i) : (setS ss i B)[k]? = ss[k]? := by
  unfold setS
  split
  · rfl
  · rw [List.getElem?_set_ne (Ne.symm h)]
theorem setA_get : ∀ (bs : List Blk) (ss : List Sec) (i k : Nat), ¬ (i ≤ k ∧ k < i + bs.length) → (setA ss i bs)[k]? = ss[k]?
  | [], _, _, _, _ => rfl
  | B :: bs, ss, i, k, h => by
    simp only [List.length_cons] at h
    show (setA (setS ss i B) (i + 1) bs)[k]? = _
    rw [setA_get bs _ (i + 1) k (by omega), setS_get _ _ _ _ (by omega)]
theorem setS_sync (ss : List Sec) (i : Nat) (B : Blk) (h : i < ss.length) : (setS ss i B).map Sec.sync = (ss.map Sec.sync).set i (secOf B) := by
  unfold setS
  rw [List.getElem?_eq_getElem h]
  simp only
  rw [List.map_set, add_sync]
theorem setA_sync : ∀ (bs : List Blk) (ss : List Sec) (i : Nat), i + bs.length ≤ ss.length → (setA ss i bs).map Sec.sync = setL (ss.map Sec.sync) i (bs.map secOf)
  | [], _, _, _ => rfl
  | B :: bs, ss, i, h => by
    simp only [List.length_cons] at h
    show (setA (setS ss i B) (i + 1) bs).map Sec.sync = setL ((ss.map Sec.sync).set i (secOf B)) (i + 1) (bs.map secOf)
    rw [setA_sync bs _ (i + 1) (by rw [setS_len]; omega), setS_sync _ _ _ (by omega)]
theorem map_setL {α β : Type} (f : α → β) : ∀ (xs : List α) (l : List α) (i : Nat), (setL l i xs).map f = setL (l.map f) i (xs.map f)
  | [], _, _ => rfl
  | x :: xs, l, i => by
    show (setL (l.set i x) (i + 1) xs).map f = setL ((l.map f).set i (f x)) (i + 1) (xs.map f)
    rw [map_setL f xs, List.map_set]
theorem map_sync (l : List Blk) : (l.map secOf).map Sec.sync = l.map secOf := by rw [List.map_map]; rfl
theorem setA_mk (bs : List Blk) (l : List Blk) (i : Nat) (h : i + bs.length ≤ l.length) : (setA (l.map secOf) i bs).map Sec.sync = (setL l i bs).map secOf := by
  rw [setA_sync _ _ _ (by simpa using h), map_sync, map_setL]
/-- power -/
theorem bad_neg (ss : List Sec) : (DM.mk ss false (-1)).bad = false := rfl
theorem bad_zero (ss : List Sec) : (DM.mk ss false 0).bad = true := rfl
theorem bad_succ (ss : List Sec) (f : Nat) : (DM.mk ss false ((f + 1 : Nat) : Int)).bad = false := by
  unfold DM.bad
  simp
  omega
theorem wr_neg (ss : List Sec) (i : Nat) (B : Blk) : (DM.mk ss false (-1)).wr i B = ⟨setS ss i B, false, -1⟩ := rfl
theorem wr_zero (ss : List Sec) (i : Nat) (B : Blk) : (DM.mk ss false 0).wr i B = ⟨setS ss i B, true, 0⟩ := rfl
theorem wr_succ (ss : List Sec) (i : Nat) (B : Blk) (f : Nat) : (DM.mk ss false ((f + 1 : Nat) : Int)).wr i B = ⟨setS ss i B, false, (f : Int)⟩ := by
  rw [wr_on rfl]
  unfold drawO drawF
  have h1 : ¬ ((f + 1 : Nat) : Int) = 0 := by omega
  have h2 : (0 : Int) < ((f + 1 : Nat) : Int) := by omega
  simp only [h1, h2, decide_false, Bool.false_or, if_true]
  congr 1
  omega
theorem sy_neg (ss : List Sec) : (DM.mk ss false (-1)).sy = ⟨ss.map Sec.sync, false, -1⟩ := rfl
theorem sy_zero (ss : List Sec) : (DM.mk ss false 0).sy = ⟨ss, true, 0⟩ := rfl
theorem sy_succ (ss : List Sec) (f : Nat) : (DM.mk ss false ((f + 1 : Nat) : Int)).sy = ⟨ss.map Sec.sync, false, (f : Int)⟩ := by
  unfold DM.sy
  have h1 : ¬ ((f + 1 : Nat) : Int) = 0 := by omega
  simp only [Bool.false_eq_true, if_false, if_neg h1]
  unfold drawF
  have h2 : (0 : Int) < ((f + 1 : Nat) : Int) := by omega
  rw [if_pos h2]
  congr 1
  omega
theorem runW_neg : ∀ (bs : List Blk) (ss : List Sec) (i : Nat), runW ⟨ss, false, -1⟩ i bs = (false, ⟨setA ss i bs, false, -1⟩)
  | [], _, _ => rfl
  | B :: bs, ss, i => by
    rw [runW_next, bad_neg, if_neg (by decide), wr_neg, runW_neg bs]
    rfl
theorem runW_ok : ∀ (bs : List Blk) (ss : List Sec) (i f : Nat), bs.length ≤ f → runW ⟨ss, false, (f : Int)⟩ i bs = (false, ⟨setA ss i bs, false, ((f - bs.length : Nat) : Int)⟩)
  | [], _, _, _, _ => rfl
  | B :: bs, ss, i, f, h => by
    simp only [List.length_cons] at h
    obtain ⟨f, rfl⟩ : ∃ g, f = g + 1 := ⟨f - 1, by omega⟩
    rw [runW_next, bad_succ, if_neg (by decide), wr_succ, runW_ok bs _ _ f (by omega)]
    simp only [List.length_cons, Nat.add_sub_add_right]
    rfl
theorem runW_fail : ∀ (bs : List Blk) (ss : List Sec) (i f : Nat), f < bs.length → runW ⟨ss, false, (f : Int)⟩ i bs = (true, ⟨setA ss i (bs.take (f + 1)), true, 0⟩)
  | [], _, _, _, h => absurd h (Nat.not_lt_zero _)
  | B :: bs, ss, i, 0, _ => by
    rw [runW_next]
    show (if (DM.mk ss false 0).bad = true then _ else _) = _
    rw [bad_zero, if_pos rfl]
    rfl
  | B :: bs, ss, i, f + 1, h => by
    simp only [List.length_cons] at h
    rw [runW_next, bad_succ, if_neg (by decide), wr_succ, runW_fail bs _ _ f (by omega)]
    rfl
/-- how a write and its Sync end -/
theorem ws_neg (bs : List Blk) (l : List Blk) (i : Nat) (h : i + bs.length ≤ l.length) : thenSy (runW (mkD l (-1)) i bs) = (false, mkD (setL l i bs) (-1)) := by
  unfold mkD
  rw [runW_neg]
  unfold thenSy
  simp only [Bool.false_eq_true, if_false]
  rw [bad_neg, sy_neg, setA_mk _ _ _ h]
theorem ws_ok (bs : List Blk) (l : List Blk) (i f : Nat) (h : i + bs.length ≤ l.length) (hf : bs.length < f) : thenSy (runW (mkD l (f : Int)) i bs) = (false, mkD (setL l i bs) ((f - bs.length - 1 : Nat) : Int)) := by
  unfold mkD
  rw [runW_ok _ _ _ _ (by omega)]
  unfold thenSy
  simp only [Bool.false_eq_true, if_false]
  obtain ⟨g, hg⟩ : ∃ g, f - bs.length = g + 1 := ⟨f - bs.length - 1, by omega⟩
  rw [hg, bad_succ, sy_succ, setA_mk _ _ _ h]
  rfl
theorem ws_fail (bs : List Blk) (l : List Blk) (i f : Nat) (hf : f ≤ bs.length) : ∃ k, k ≤ bs.length ∧ (0 < bs.length → 0 < k) ∧ thenSy (runW (mkD l (f : Int)) i bs) = (true, ⟨setA (l.map secOf) i (bs.take k), true, 0⟩) := by
  unfold mkD
  by_cases h : f < bs.length
  · refine ⟨f + 1, by omega, fun _ => by omega, ?_⟩
    rw [runW_fail _ _ _ _ h]
    rfl
  · obtain rfl : f = bs.length := by omega
    refine ⟨bs.length, Nat.le_refl _, id, ?_⟩
    rw [runW_ok _ _ _ _ (Nat.le_refl _), Nat.sub_self, List.take_length]
    rfl
/-- the head that tells of a struct -/
def hdOf (m : SM) : Blk := if m.saves = 0 then zB else headB m
/-- a disk that holds this and nothing else -/
def cleanB (N : Nat) (m : SM) (b : List UInt8) (i : Nat) : Blk := if i = 0 then hdOf m else if m.from N ≤ i ∧ i < m.from N + needS m.size then blkOf b (i - m.from N) else zB
def cleanL (N : Nat) (m : SM) (b : List UInt8) : List Blk := (List.range N).map (cleanB N m b)
theorem cleanL_len (N : Nat) (m : SM) (b : List UInt8) : (cleanL N m b).length = N := by simp [cleanL]
theorem cleanL_get (N : Nat) (m : SM) (b : List UInt8) (i : Nat) (h : i < N) : (cleanL N m b)[i]? = some (cleanB N m b i) := by simp [cleanL, h]
/-- a struct, its bytes: nothing was ever saved, or so many times -/
structure Fit (N : Nat) (m : SM) (b : List UInt8) : Prop where
  f : m.fits N
  s : m.size = b.length
  z : m.saves = 0 → m.half = 0 ∧ m.size = 0
theorem zero_blk (n k : Nat) : blkOf (List.replicate n 0) k = zB := by
  apply Blk.ext
  unfold blkOf zB
  simp only [List.drop_replicate, List.take_replicate, List.length_replicate, List.replicate_append_replicate]
  congr 1
  omega
theorem zero_blks (n : Nat) : blks (List.replicate n 0) = List.replicate (needS n) zB := by
  unfold blks
  rw [List.length_replicate]
  apply List.ext_getElem (by simp)
  intro i h1 h2
  simp [zero_blk]
theorem Fit.next {N : Nat} {m : SM} {b : List UInt8} (h : Fit N m b) (b' : List UInt8) (hb : b'.length ≤ roomN N) (hs : m.saves < 4294967295) : Fit N (m.next b'.length) b' :=
  ⟨⟨by show m.saves + 1 ≤ _; omega, next_half h.f.2.1 _, hb⟩, rfl, fun e => by simp [SM.next] at e⟩
/-- the halves lie apart -/
theorem next_apart {N : Nat} {m : SM} {b : List UInt8} (h : Fit N m b) (b' : List UInt8) (hb : b'.length ≤ roomN N) (i : Nat)
    (h1 : m.from N ≤ i ∧ i < m.from N + needS m.size) (h2 : (m.next b'.length).from N ≤ i ∧ i < (m.next b'.length).from N + needS b'.length) : False := by
  have k1 : needS m.size ≤ halfN N := by have := h.f.2.2; unfold needS; unfold roomN at this; omega
  have k2 : needS b'.length ≤ halfN N := by unfold needS; unfold roomN at hb; omega
  have hh := h.f.2.1
  unfold SM.from at h1 h2
  unfold SM.next at h2
  simp only at h2
  by_cases h0 : 0 < m.saves
  · rw [if_pos h0] at h2
    rcases (by omega : m.half = 0 ∨ m.half = 1) with e | e <;> rw [e] at h1 h2 <;> simp only [Nat.zero_mul, Nat.one_mul, Nat.sub_zero, Nat.sub_self] at h1 h2 <;> omega
  · obtain ⟨e1, e2⟩ := h.z (by omega)
    have e3 : needS m.size = 0 := by rw [e2]; rfl
    omega
theorem from_pos (m : SM) (N : Nat) : 0 < m.from N := by unfold SM.from; omega
theorem blks_get (b : List UInt8) (k : Nat) (h : k < needS b.length) : (blks b)[k]? = some (blkOf b k) := by simp [blks, h]
/-- behind a Save that came to its end -/
theorem save_list {N : Nat} {m : SM} {b : List UInt8} (h : Fit N m b) (b' : List UInt8) (hb : b'.length ≤ roomN N) (hs : m.saves < 4294967295) (hN : 0 < N) :
    setL ((setL (cleanL N m b) ((m.next b'.length).from N) (blks b')).set 0 (headB (m.next b'.length))) (m.from N) (List.replicate (needS m.size) zB) = cleanL N (m.next b'.length) b' := by
  have hn := h.next b' hb hs
  have f1 := fit_from hn.f.2.1 hn.f.2.2 hN
  have f2 := fit_from h.f.2.1 h.f.2.2 hN
  have fp1 := from_pos (m.next b'.length) N
  have fp2 := from_pos m N
  have ap := next_apart h b' hb
  have e0 : (m.next b'.length).size = b'.length := rfl
  have hsv : ¬ (m.next b'.length).saves = 0 := by simp [SM.next]
  rw [e0] at f1
  apply List.ext_getElem?
  intro i
  by_cases hi : i < N
  · rw [cleanL_get _ _ _ _ hi, setL_get _ _ _ _ (by rw [List.length_set, setL_len, cleanL_len, List.length_replicate]; exact f2), List.length_replicate]
    by_cases h1 : m.from N ≤ i ∧ i < m.from N + needS m.size
    · rw [if_pos h1, List.getElem?_replicate, if_pos (by omega)]
      unfold cleanB
      rw [if_neg (by omega), e0, if_neg (fun e => ap i h1 e)]
    · rw [if_neg h1]
      by_cases h0 : i = 0
      · subst h0
        rw [List.getElem?_set_self (by rw [setL_len, cleanL_len]; exact hN)]
        unfold cleanB hdOf
        rw [if_pos rfl, if_neg hsv]
      · rw [List.getElem?_set_ne (by omega), setL_get _ _ _ _ (by rw [cleanL_len, blks_len]; exact f1), blks_len]
        by_cases h2 : (m.next b'.length).from N ≤ i ∧ i < (m.next b'.length).from N + needS b'.length
        · rw [if_pos h2, blks_get _ _ (by omega)]
          unfold cleanB
          rw [if_neg h0, e0, if_pos h2]
        · rw [if_neg h2, cleanL_get _ _ _ _ hi]
          unfold cleanB
          rw [if_neg h0, if_neg h1, if_neg h0, e0, if_neg h2]
  · rw [List.getElem?_eq_none (by rw [setL_len, List.length_set, setL_len, cleanL_len]; omega), List.getElem?_eq_none (by rw [cleanL_len]; omega)]
/-- Save with power enough -/
theorem save_neg {N : Nat} {m : SM} {b : List UInt8} (h : Fit N m b) (b' : List UInt8) (hb : b'.length ≤ roomN N) (hs : m.saves < 4294967295) (hN : 0 < N) :
    saveM (mkD (cleanL N m b) (-1)) m b' = (none, mkD (cleanL N (m.next b'.length) b') (-1), m.next b'.length) := by
  have hn := h.next b' hb hs
  have f1 := fit_from hn.f.2.1 hn.f.2.2 hN
  have f2 := fit_from h.f.2.1 h.f.2.2 hN
  have hl : (mkD (cleanL N m b) (-1)).ss.length = N := by simp [mkD, cleanL_len]
  have w1 : writeM (mkD (cleanL N m b) (-1)) (m.next b'.length) b' = (false, mkD (setL (cleanL N m b) ((m.next b'.length).from N) (blks b')) (-1)) := by
    unfold writeM
    rw [hl, ws_neg _ _ _ (by rw [cleanL_len, blks_len]; exact f1)]
  have w2 : writeHeadM (mkD (setL (cleanL N m b) ((m.next b'.length).from N) (blks b')) (-1)) (m.next b'.length) = (false, mkD ((setL (cleanL N m b) ((m.next b'.length).from N) (blks b')).set 0 (headB (m.next b'.length))) (-1)) := by
    unfold writeHeadM
    rw [ws_neg _ _ _ (by rw [setL_len, cleanL_len]; simp; omega)]
    rfl
  have hl2 : (mkD ((setL (cleanL N m b) ((m.next b'.length).from N) (blks b')).set 0 (headB (m.next b'.length))) (-1)).ss.length = N := by simp [mkD, setL_len, cleanL_len]
  have w3 : wipeM (mkD ((setL (cleanL N m b) ((m.next b'.length).from N) (blks b')).set 0 (headB (m.next b'.length))) (-1)) m = (false, mkD (cleanL N (m.next b'.length) b') (-1)) := by
    have hsl := save_list h b' hb hs hN
    unfold wipeM
    by_cases h0 : m.size = 0
    · rw [if_pos h0, ← hsl, h0]
      rfl
    · rw [if_neg h0]
      unfold writeM
      rw [hl2, zero_blks, ws_neg _ _ _ (by rw [List.length_set, setL_len, cleanL_len, List.length_replicate]; exact f2), hsl]
  unfold saveM
  rw [if_neg (by rw [hl]; omega)]
  simp only [w1, w2, w3, Bool.false_eq_true, if_false]
theorem isZ_rep (n : Nat) : isZ (List.replicate n 0) = true := by simp [isZ]
theorem isZ_eq {b : List UInt8} (h : isZ b = true) : b = List.replicate b.length 0 := by
  unfold isZ at h
  rw [List.all_eq_true] at h
  exact List.eq_replicate_of_mem fun x hx => by simpa using h x hx
theorem isZ_blk {B : Blk} (h : isZ B.l = true) : B = zB := Blk.ext (by rw [isZ_eq h, B.h]; rfl)
theorem le4_back (n : Nat) (h : n < 4294967296) : n % 256 + 256 * (n / 256 % 256) + 65536 * (n / 65536 % 256) + 16777216 * (n / 16777216 % 256) = n := by omega
theorem u8_mod (n : Nat) : (UInt8.ofNat (n % 256)).toNat = n % 256 := by rw [UInt8.toNat_ofNat']; omega
theorem head_saves (m : SM) (h : m.saves ≤ 4294967295) : getW (headL m) 4 = m.saves := by
  have e := le4_back m.saves (by omega)
  unfold getW
  simp only [headL, le4, List.cons_append, List.nil_append, List.getD_cons_succ, List.getD_cons_zero, u8_mod]
  exact e
theorem head_size (m : SM) (h : m.size ≤ 4294967295) : getW (headL m) 9 = m.size := by
  have e := le4_back m.size (by omega)
  unfold getW
  simp only [headL, le4, List.cons_append, List.nil_append, List.getD_cons_succ, List.getD_cons_zero, u8_mod]
  exact e
theorem head_half (m : SM) (h : m.half ≤ 1) : ((headL m).getD 8 0).toNat = m.half := by
  simp only [headL, le4, List.cons_append, List.nil_append, List.getD_cons_succ, List.getD_cons_zero]
  rw [UInt8.toNat_ofNat']
  omega
theorem head_notZ (m : SM) : isZ (headL m) = false := by
  unfold isZ headL
  rfl
theorem read_hd {N : Nat} {m : SM} {b : List UInt8} (h : Fit N m b) (hN : N ≤ 400) : readHeadM N (hdOf m).l = some m := by
  unfold readHeadM hdOf
  by_cases h0 : m.saves = 0
  · obtain ⟨e1, e2⟩ := h.z h0
    rw [if_pos h0, if_pos (show isZ zB.l = true from isZ_rep 128)]
    obtain ⟨a, b2, c⟩ := m
    cases h0
    cases e1
    cases e2
    rfl
  · rw [if_neg h0]
    show (if isZ (headL m) = true then _ else _) = _
    rw [head_notZ, if_neg (by decide)]
    have h2 := h.f.2.2
    have h3 : m.size ≤ 4294967295 := by unfold roomN halfN at h2; omega
    show (if getW (headL m) 4 = 0 ∨ 1 < ((headL m).getD 8 0).toNat ∨ roomN N < getW (headL m) 9 then none else if headL m = headL ⟨getW (headL m) 4, ((headL m).getD 8 0).toNat, getW (headL m) 9⟩ then some (⟨getW (headL m) 4, ((headL m).getD 8 0).toNat, getW (headL m) 9⟩ : SM) else none) = _
    rw [head_saves m h.f.1, head_half m h.f.2.1, head_size m h3, if_neg (by have := h.f.2.1; omega), if_pos rfl]
/-- what is in use is there -/
structure Keeps (N : Nat) (l : List Blk) (m : SM) (b : List UInt8) : Prop where
  n : l.length = N
  h : l[0]? = some (hdOf m)
  k : ∀ j, j < needS m.size → l[m.from N + j]? = some (blkOf b j)
theorem top_mk (l : List Blk) (f : Int) (i : Nat) (B : Blk) (h : l[i]? = some B) : (mkD l f).top i = B.l := by
  unfold DM.top mkD
  simp only [List.getElem?_map, h, Option.map_some]
  rfl
/-- the sectors up to i are as they shall be -/
def swept (N : Nat) (m : SM) (l : List Blk) (i : Nat) : List Blk := (List.range N).map fun j => if 1 ≤ j ∧ j < i ∧ ¬ (m.from N ≤ j ∧ j < m.from N + needS m.size) then zB else l.getD j zB
theorem swept_len (N : Nat) (m : SM) (l : List Blk) (i : Nat) : (swept N m l i).length = N := by simp [swept]
theorem swept_get (N : Nat) (m : SM) (l : List Blk) (i j : Nat) (h : j < N) : (swept N m l i)[j]? = some (if 1 ≤ j ∧ j < i ∧ ¬ (m.from N ≤ j ∧ j < m.from N + needS m.size) then zB else l.getD j zB) := by simp [swept, h]
theorem swept_one (N : Nat) (m : SM) (l : List Blk) (hl : l.length = N) : swept N m l 1 = l := by
  apply List.ext_getElem?
  intro j
  by_cases h : j < N
  · rw [swept_get _ _ _ _ _ h, if_neg (by omega)]
    rw [List.getElem?_eq_getElem (by omega)]
    simp [List.getD, show j < l.length by omega]
  · rw [List.getElem?_eq_none (by rw [swept_len]; omega), List.getElem?_eq_none (by omega)]
theorem swept_same (N : Nat) (m : SM) (l : List Blk) (i : Nat) (h : (m.from N ≤ i ∧ i < m.from N + needS m.size) ∨ l.getD i zB = zB) : swept N m l (i + 1) = swept N m l i := by
  unfold swept
  apply List.map_congr_left
  intro j _
  by_cases hj : j = i
  · subst hj
    rcases h with h | h
    · rw [if_neg (by omega), if_neg (by omega)]
    · rw [h]; simp
  · have e : (1 ≤ j ∧ j < i + 1 ∧ ¬(m.from N ≤ j ∧ j < m.from N + needS m.size)) ↔ (1 ≤ j ∧ j < i ∧ ¬(m.from N ≤ j ∧ j < m.from N + needS m.size)) := by omega
    simp only [e]
theorem swept_set (N : Nat) (m : SM) (l : List Blk) (i : Nat) (h1 : 1 ≤ i) (hi : i < N) (h : ¬ (m.from N ≤ i ∧ i < m.from N + needS m.size)) : (swept N m l i).set i zB = swept N m l (i + 1) := by
  apply List.ext_getElem?
  intro j
  by_cases hj : j < N
  · rw [swept_get _ _ _ _ _ hj]
    by_cases e : j = i
    · subst e
      rw [List.getElem?_set_self (by rw [swept_len]; exact hi), if_pos (by omega)]
    · rw [List.getElem?_set_ne (by omega), swept_get _ _ _ _ _ hj]
      have e2 : (1 ≤ j ∧ j < i + 1 ∧ ¬(m.from N ≤ j ∧ j < m.from N + needS m.size)) ↔ (1 ≤ j ∧ j < i ∧ ¬(m.from N ≤ j ∧ j < m.from N + needS m.size)) := by omega
      simp only [e2]
  · rw [List.getElem?_eq_none (by rw [List.length_set, swept_len]; omega), List.getElem?_eq_none (by rw [swept_len]; omega)]
theorem swept_all {N : Nat} {l : List Blk} {m : SM} {b : List UInt8} (h : Keeps N l m b) : swept N m l N = cleanL N m b := by
  apply List.ext_getElem?
  intro j
  by_cases hj : j < N
  · rw [swept_get _ _ _ _ _ hj, cleanL_get _ _ _ _ hj]
    unfold cleanB
    by_cases h0 : j = 0
    · subst h0
      rw [if_neg (by omega), if_pos rfl]
      have := h.h
      simp [List.getD, this]
    · rw [if_neg h0]
      by_cases h1 : m.from N ≤ j ∧ j < m.from N + needS m.size
      · rw [if_neg (by omega), if_pos h1]
        have := h.k (j - m.from N) (by omega)
        rw [show m.from N + (j - m.from N) = j by omega] at this
        simp [List.getD, this]
      · rw [if_pos (by omega), if_neg h1]
  · rw [List.getElem?_eq_none (by rw [swept_len]; omega), List.getElem?_eq_none (by rw [cleanL_len]; omega)]
/-- wipeRest's loop where there is power -/
theorem wipe_loop (N : Nat) (m : SM) (l : List Blk) : ∀ (k i : Nat) (ss : List Sec) (wrote : Bool), i + k = N → 1 ≤ i → ss.length = N → ss.map Sec.sync = (swept N m l i).map secOf → (∀ j, i ≤ j → j < N → ss[j]? = (l[j]?).map secOf) → l.length = N → (wrote = false → ss = l.map secOf) →
    ∃ (w' : Bool) (ss' : List Sec), wipeRestL (m.from N) (m.from N + needS m.size) N i ⟨ss, false, -1⟩ wrote k = (some w', ⟨ss', false, -1⟩) ∧ ss'.map Sec.sync = (swept N m l N).map secOf ∧ (w' = false → ss' = l.map secOf)
  | 0, i, ss, wrote, hk, _, _, hs, _, _, hw => ⟨wrote, ss, rfl, by rw [show N = i by omega]; rw [show i = N by omega] at hs ⊢; exact hs, hw⟩
  | k + 1, i, ss, wrote, hk, h1, hl, hs, hu, hll, hw => by
    have hi : i < N := by omega
    have hli : l[i]? = some l[i] := List.getElem?_eq_getElem (by omega)
    have htop : (DM.mk ss false (-1)).top i = l[i].l := by
      unfold DM.top
      simp only [hu i (Nat.le_refl _) hi, hli, Option.map_some]
      rfl
    have hgd : l.getD i zB = l[i] := by simp [List.getD, show i < l.length by omega]
    show ∃ w' ss', (if m.from N ≤ i ∧ i < m.from N + needS m.size then wipeRestL _ _ N (i + 1) ⟨ss, false, -1⟩ wrote k else if isZ ((DM.mk ss false (-1)).top i) = true then wipeRestL _ _ N (i + 1) ⟨ss, false, -1⟩ wrote k else if (DM.mk ss false (-1)).bad = true then (none, (DM.mk ss false (-1)).wr i zB) else wipeRestL _ _ N (i + 1) ((DM.mk ss false (-1)).wr i zB) true k) = _ ∧ _
    by_cases hin : m.from N ≤ i ∧ i < m.from N + needS m.size
    · rw [if_pos hin]
      exact wipe_loop N m l k (i + 1) ss wrote (by omega) (by omega) hl (by rw [swept_same _ _ _ _ (.inl hin)]; exact hs) (fun j hj => hu j (by omega)) hll hw
    · rw [if_neg hin, htop]
      by_cases hz : isZ l[i].l = true
      · rw [if_pos hz]
        exact wipe_loop N m l k (i + 1) ss wrote (by omega) (by omega) hl (by rw [swept_same _ _ _ _ (.inr (by rw [hgd]; exact isZ_blk hz))]; exact hs) (fun j hj => hu j (by omega)) hll hw
      · rw [if_neg hz, bad_neg, if_neg (by decide), wr_neg]
        exact wipe_loop N m l k (i + 1) (setS ss i zB) true (by omega) (by omega) (by rw [setS_len]; exact hl) (by rw [setS_sync _ _ _ (by omega), hs, ← swept_set N m l i h1 hi hin, List.map_set]) (fun j hj hjN => by rw [setS_get _ _ _ _ (by omega)]; exact hu j (by omega) hjN) hll (fun e => by cases e)
theorem map_secOf_inj : ∀ {a b : List Blk}, a.map secOf = b.map secOf → a = b
  | [], [], _ => rfl
  | [], _ :: _, h => by simp at h
  | _ :: _, [], h => by simp at h
  | x :: a, y :: b, h => by
    simp only [List.map_cons, List.cons.injEq] at h
    rw [secOf_inj h.1, map_secOf_inj h.2]
/-- Open where there is power and what is in use is there -/
theorem open_keeps {N : Nat} {l : List Blk} {m : SM} {b : List UInt8} (hf : Fit N m b) (h : Keeps N l m b) (hN : 0 < N) (hN4 : N ≤ 400) : openM (mkD l (-1)) = (none, m, mkD (cleanL N m b) (-1)) := by
  have hl : (mkD l (-1)).ss.length = N := by simp [mkD, h.n]
  have ht : (mkD l (-1)).top 0 = (hdOf m).l := top_mk _ _ _ _ h.h
  obtain ⟨w', ss', e1, e2, e3⟩ := wipe_loop N m l (N - 1) 1 (l.map secOf) false (by omega) (by omega) (by simp [h.n]) (by rw [map_sync, swept_one _ _ _ h.n]) (fun j _ _ => by rw [List.getElem?_map]) h.n (fun _ => rfl)
  rw [swept_all h] at e2
  have hw : wipeRestM (mkD l (-1)) m = (false, mkD (cleanL N m b) (-1)) := by
    unfold wipeRestM
    rw [hl]
    show (match wipeRestL (m.from N) (m.from N + needS m.size) N 1 ⟨l.map secOf, false, -1⟩ false (N - 1) with | (none, d') => (true, d') | (some false, d') => (false, d') | (some true, d') => (d'.bad, d'.sy)) = _
    rw [e1]
    cases w' with
    | true =>
      show ((DM.mk ss' false (-1)).bad, (DM.mk ss' false (-1)).sy) = _
      rw [bad_neg, sy_neg, e2]
      rfl
    | false =>
      show (false, DM.mk ss' false (-1)) = _
      have e4 := e3 rfl
      rw [e4, map_sync] at e2
      rw [e4, map_secOf_inj e2]
      rfl
  unfold openM
  rw [hl, ht, read_hd hf hN4]
  show (if false = true then _ else _) = _
  rw [if_neg (by decide)]
  simp only [hw, Bool.false_eq_true, if_false]
theorem clean_keeps {N : Nat} {m : SM} {b : List UInt8} (hf : Fit N m b) (hN : 0 < N) : Keeps N (cleanL N m b) m b :=
  ⟨cleanL_len _ _ _, by rw [cleanL_get _ _ _ _ hN]; rfl, fun j hj => by
    have := fit_from hf.f.2.1 hf.f.2.2 hN
    have := from_pos m N
    rw [cleanL_get _ _ _ _ (by omega)]
    unfold cleanB
    rw [if_neg (by omega), if_pos (by omega), show m.from N + j - m.from N = j by omega]⟩
/-- Load -/
theorem load_clean {N : Nat} {m : SM} {b : List UInt8} (f : Int) (hf : Fit N m b) (hN : 0 < N) : loadL (mkD (cleanL N m b) f) m = b := by
  have hl : (mkD (cleanL N m b) f).ss.length = N := by simp [mkD, cleanL_len]
  have hk := clean_keeps hf hN
  have key : ∀ k, k ≤ needS m.size → topsL (mkD (cleanL N m b) f) (m.from N) k = (b ++ List.replicate (needS m.size * 128 - b.length) 0).take (k * 128) := by
    intro k
    induction k with
    | zero => intro _; simp [topsL]
    | succ k ih =>
      intro hk1
      rw [topsL_succ, ih (by omega), top_mk _ _ _ _ (hk.k k (by omega)), show (k + 1) * 128 = k * 128 + 128 by omega, List.take_add]
      congr 1
      have hlt : 128 * k < b.length := needS_lt (by rw [← hf.s]; omega)
      have hnd : needS m.size = (b.length + 127) / 128 := by rw [hf.s]; rfl
      show (b.drop (128 * k)).take 128 ++ List.replicate (128 - ((b.drop (128 * k)).take 128).length) 0 = _
      rw [List.drop_append_of_le_length (by omega), List.take_append, List.take_replicate, Nat.mul_comm k 128]
      congr 2
      simp only [List.length_take, List.length_drop]
      omega
  rw [loadL_tops, hl, key _ (Nat.le_refl _)]
  have h1 : b.length ≤ needS m.size * 128 := by rw [← hf.s]; unfold needS; omega
  rw [List.take_take, Nat.min_eq_left (by rw [hf.s]; rw [hf.s] at h1; exact h1), hf.s]
  simp
/-- the disk behind a crash -/
def crashL (ss : List Sec) (keep : List Int) : List Blk := (crashTo ss keep ss.length).1.map fun s => ⟨s.dur, s.hd⟩
theorem crashL_len (ss : List Sec) (keep : List Int) : (crashL ss keep).length = ss.length := by simp [crashL, crashTo_len]
theorem crash_mk (ss : List Sec) (keep : List Int) : (crashTo ss keep ss.length).1 = (crashL ss keep).map secOf := by
  unfold crashL
  rw [List.map_map]
  apply List.ext_getElem (by simp)
  intro i h1 h2
  rw [List.getElem_map]
  have h3 : i < ss.length := by rw [crashTo_len] at h1; exact h1
  obtain ⟨j, _, e⟩ := crash_each ss keep ss.length i h3 ss[i] (List.getElem?_eq_getElem h3)
  rw [List.getElem?_eq_getElem h1] at e
  rw [Option.some.inj e]
  exact Sec.eq_of rfl
theorem crash_fix (ss : List Sec) (keep : List Int) (i : Nat) (B : Blk) (h : ss[i]? = some (secOf B)) : (crashL ss keep)[i]? = some B := by
  have hi := (List.getElem?_eq_some_iff.1 h).1
  obtain ⟨j, hj, e⟩ := crash_each ss keep ss.length i hi _ h
  have hj0 : j = 0 := Nat.le_zero.1 hj
  subst hj0
  unfold crashL
  rw [List.getElem?_map, e]
  rfl
theorem crashTo_zero (ss : List Sec) (keep : List Int) (s : Sec) (hs : ss[0]? = some s) (hp : ¬ s.pend.length = 0) : ∀ k, 0 < k → (crashTo ss keep k).1[0]? = some (s.settled (choice keep s.pend.length))
  | 1, _ => by
    have h0 := (List.getElem?_eq_some_iff.1 hs).1
    rw [crashTo_some ss keep 0 s hs hp]
    show (ss.set 0 _)[0]? = _
    rw [List.getElem?_set_self h0]
    rfl
  | k + 2, _ => by
    have ih := crashTo_zero ss keep s hs hp (k + 1) (by omega)
    cases e : ss[k + 1]? with
    | none =>
      show (match ss[k + 1]? with | none => crashTo ss keep (k + 1) | some s => _).1[0]? = _
      rw [e]
      exact ih
    | some t =>
      by_cases ht : t.pend.length = 0
      · rw [crashTo_none ss keep (k + 1) t e ht]
        exact ih
      · rw [crashTo_some ss keep (k + 1) t e ht]
        show ((crashTo ss keep (k + 1)).1.set (k + 1) _)[0]? = _
        rw [List.getElem?_set_ne (by omega)]
        exact ih
theorem crash_head (ss : List Sec) (keep : List Int) (B H : Blk) (h : ss[0]? = some ((secOf B).add H.l H.h)) : (crashL ss keep)[0]? = some (if choice keep 1 = 1 then H else B) := by
  have h0 := (List.getElem?_eq_some_iff.1 h).1
  have e := crashTo_zero ss keep _ h (by show ¬ (([] : List (List UInt8)) ++ [H.l]).length = 0; simp) ss.length h0
  unfold crashL
  rw [List.getElem?_map, e, Option.map_some]
  congr 1
  apply Blk.ext
  show ((secOf B).add H.l H.h).pick (choice keep (([] : List (List UInt8)) ++ [H.l]).length) = _
  rw [show (([] : List (List UInt8)) ++ [H.l]).length = 1 by simp]
  have hc := choice_le keep 1
  unfold Sec.pick
  by_cases h1 : choice keep 1 = 1
  · rw [h1, if_neg (by decide), if_pos rfl]
    rfl
  · rw [if_pos (by omega), if_neg h1]
    rfl
/-- does the crash leave the new head? -/
def newHead (f nd : Nat) (keep : List Int) : Bool := if f < nd + 1 then false else if f < nd + 3 then decide (choice keep 1 = 1) else true
/-- what a crash leaves -/
structure Left (N : Nat) (m : SM) (b b' : List UInt8) (new : Bool) (l : List Blk) : Prop where
  k : if new = true then Keeps N l (m.next b'.length) b' else Keeps N l m b
theorem save_crash {N : Nat} {m : SM} {b : List UInt8} (h : Fit N m b) (b' : List UInt8) (hb : b'.length ≤ roomN N) (hs : m.saves < 4294967295) (hN : 0 < N) (f : Nat) (keep : List Int) :
    ∃ (r : Option Nat) (d' : DM) (n' : SM), saveM (mkD (cleanL N m b) (f : Int)) m b' = (r, d', n') ∧ d'.ss.length = N ∧ Left N m b b' (newHead f (needS b'.length) keep) (crashL d'.ss keep) ∧ (r = none ∨ r = some 0) ∧ (r = none → needS b'.length + 3 ≤ f) := by
  have hn := h.next b' hb hs
  have f1 := fit_from hn.f.2.1 hn.f.2.2 hN
  have f2 := fit_from h.f.2.1 h.f.2.2 hN
  have fp1 := from_pos (m.next b'.length) N
  have fp2 := from_pos m N
  have ap := next_apart h b' hb
  have e0 : (m.next b'.length).size = b'.length := rfl
  have hsv : ¬ (m.next b'.length).saves = 0 := by simp [SM.next]
  have hck := clean_keeps h hN
  have hll : (cleanL N m b).length = N := cleanL_len _ _ _
  rw [e0] at f1
  obtain ⟨nd, hnd⟩ : ∃ nd, nd = needS b'.length := ⟨_, rfl⟩
  have hbl : (blks b').length = nd := by rw [blks_len, hnd]
  rw [← hnd] at f1 ap ⊢
  obtain ⟨n, hnn⟩ : ∃ n, n = m.next b'.length := ⟨_, rfl⟩
  rw [← hnn] at f1 fp1 ap e0 hsv hn
  obtain ⟨l0, hl0⟩ : ∃ l0, l0 = cleanL N m b := ⟨_, rfl⟩
  rw [← hl0] at hck hll ⊢
  have hlen : ∀ (l : List Blk) (g : Int), l.length = N → (mkD l g).ss.length = N := fun l g e => by simp [mkD, e]
  have hsave : saveM (mkD l0 (f : Int)) m b' = (let r1 := writeM (mkD l0 (f : Int)) n b'; if r1.1 then (some 0, r1.2, m) else let r2 := writeHeadM r1.2 n; if r2.1 then (some 0, r2.2, m) else let r3 := wipeM r2.2 m; (if r3.1 then some 0 else none, r3.2, n)) := by
    rw [hnn]
    exact if_neg (by rw [hlen _ _ hll]; omega)
  rw [hsave]
  have w1 : writeM (mkD l0 (f : Int)) n b' = thenSy (runW (mkD l0 (f : Int)) (n.from N) (blks b')) := by unfold writeM; rw [hlen _ _ hll]
  by_cases p1 : f < nd + 1
  · -- the first half fails
    obtain ⟨k, hk, _, e1⟩ := ws_fail (blks b') l0 (n.from N) f (by omega)
    have hout : ∀ i B, l0[i]? = some B → ¬ (n.from N ≤ i ∧ i < n.from N + nd) → (setA (l0.map secOf) (n.from N) ((blks b').take k))[i]? = some (secOf B) := fun i B hi hne => by
      rw [setA_get _ _ _ _ (by rw [List.length_take]; omega), List.getElem?_map, hi]
      rfl
    refine ⟨some 0, ⟨setA (l0.map secOf) (n.from N) ((blks b').take k), true, 0⟩, m, by simp only [w1, e1, if_true], by simp [setA_len, hll], ⟨?_⟩, .inr rfl, fun e => by cases e⟩
    rw [show newHead f nd keep = false from if_pos p1, if_neg (by decide)]
    refine ⟨by rw [crashL_len]; simp [setA_len, hll], crash_fix _ _ _ _ (hout 0 _ hck.h (by omega)), fun j hj => crash_fix _ _ _ _ (hout _ _ (hck.k j hj) (fun e => ap _ ⟨by omega, by omega⟩ e))⟩
  · have e1 := ws_ok (blks b') l0 (n.from N) f (by rw [hbl, hll]; exact f1) (by rw [hbl]; omega)
    obtain ⟨l1, hl1⟩ : ∃ l1, l1 = setL l0 (n.from N) (blks b') := ⟨_, rfl⟩
    have hll1 : l1.length = N := by rw [hl1, setL_len, hll]
    have hg1 : ∀ i, l1[i]? = if n.from N ≤ i ∧ i < n.from N + nd then (blks b')[i - n.from N]? else l0[i]? := fun i => by
      rw [hl1, setL_get _ _ _ _ (by rw [hbl, hll]; exact f1), hbl]
    rw [← hl1, hbl] at e1
    rw [← w1] at e1
    have hold1 : l1[0]? = some (hdOf m) ∧ ∀ j, j < needS m.size → l1[m.from N + j]? = some (blkOf b j) := ⟨by rw [hg1, if_neg (by omega)]; exact hck.h, fun j hj => by rw [hg1, if_neg (fun e => ap _ ⟨by omega, by omega⟩ e)]; exact hck.k j hj⟩
    have hnew1 : ∀ j, j < nd → l1[n.from N + j]? = some (blkOf b' j) := fun j hj => by
      rw [hg1, if_pos (by omega), show n.from N + j - n.from N = j by omega, blks_get _ _ (by omega)]
    obtain ⟨g, hg⟩ : ∃ g, g = f - nd - 1 := ⟨_, rfl⟩
    rw [← hg] at e1
    by_cases p2 : f < nd + 3
    · -- the head fails
      obtain ⟨k, hk, hk0, e2⟩ := ws_fail [headB n] l1 0 g (by simp; omega)
      have hk1 : k = 1 := by simp at hk hk0; omega
      subst hk1
      have hss : setA (l1.map secOf) 0 ([headB n].take 1) = setS (l1.map secOf) 0 (headB n) := rfl
      rw [hss] at e2
      have hs0 : (setS (l1.map secOf) 0 (headB n))[0]? = some ((secOf (hdOf m)).add (headB n).l (headB n).h) := by
        unfold setS
        rw [List.getElem?_map, hold1.1]
        simp only [Option.map_some]
        rw [List.getElem?_set_self (by simp [hll1]; exact hN)]
      have hout : ∀ i B, l1[i]? = some B → i ≠ 0 → (setS (l1.map secOf) 0 (headB n))[i]? = some (secOf B) := fun i B hi hne => by
        rw [setS_get _ _ _ _ hne, List.getElem?_map, hi]
        rfl
      refine ⟨some 0, ⟨setS (l1.map secOf) 0 (headB n), true, 0⟩, m, by simp only [e1, Bool.false_eq_true, if_false]; unfold writeHeadM; simp only [e2, if_true], by simp [setS_len, hll1], ⟨?_⟩, .inr rfl, fun e => by cases e⟩
      have hh := crash_head _ keep _ _ hs0
      have hcl : (crashL (setS (l1.map secOf) 0 (headB n)) keep).length = N := by rw [crashL_len]; simp [setS_len, hll1]
      rw [show newHead f nd keep = decide (choice keep 1 = 1) from (if_neg p1).trans (if_pos p2)]
      by_cases hc : choice keep 1 = 1
      · rw [if_pos (by simpa using hc)]
        rw [if_pos hc] at hh
        rw [← hnn]
        refine ⟨hcl, by rw [hh]; unfold hdOf; rw [if_neg hsv], fun j hj => crash_fix _ _ _ _ (hout _ _ (hnew1 j (by rw [e0] at hj; omega)) (by omega))⟩
      · rw [if_neg (by simpa using hc)]
        rw [if_neg hc] at hh
        exact ⟨hcl, hh, fun j hj => crash_fix _ _ _ _ (hout _ _ (hold1.2 j hj) (by omega))⟩
    · have e2 := ws_ok [headB n] l1 0 g (by simp [hll1]; omega) (by simp; omega)
      have hl2 : setL l1 0 [headB n] = l1.set 0 (headB n) := rfl
      rw [hl2] at e2
      obtain ⟨l2, hl2⟩ : ∃ l2, l2 = l1.set 0 (headB n) := ⟨_, rfl⟩
      rw [← hl2] at e2
      have hll2 : l2.length = N := by rw [hl2, List.length_set, hll1]
      have hw2 : writeHeadM (mkD l1 (g : Int)) n = (false, mkD l2 ((g - 1 - 1 : Nat) : Int)) := by unfold writeHeadM; rw [e2]; rfl
      have hnew2 : l2[0]? = some (headB n) ∧ ∀ j, j < nd → l2[n.from N + j]? = some (blkOf b' j) := ⟨by rw [hl2, List.getElem?_set_self (by omega)], fun j hj => by rw [hl2, List.getElem?_set_ne (by omega)]; exact hnew1 j hj⟩
      obtain ⟨q, hq⟩ : ∃ q, q = g - 1 - 1 := ⟨_, rfl⟩
      rw [← hq] at hw2
      rw [show newHead f nd keep = true from (if_neg p1).trans (if_neg p2)]
      have hleft : ∀ ss : List Sec, ss.length = N → (∀ i B, l2[i]? = some B → ¬ (m.from N ≤ i ∧ i < m.from N + needS m.size) → ss[i]? = some (secOf B)) → Left N m b b' true (crashL ss keep) := fun ss hsl ho => ⟨by
        rw [if_pos rfl, ← hnn]
        refine ⟨by rw [crashL_len, hsl], ?_, fun j hj => crash_fix _ _ _ _ (ho _ _ (hnew2.2 j (by rw [e0] at hj; omega)) (fun e => ap _ e ⟨by omega, by rw [e0] at hj; omega⟩))⟩
        rw [crash_fix _ _ _ _ (ho 0 _ hnew2.1 (by omega))]
        unfold hdOf
        rw [if_neg hsv]⟩
      by_cases hz : m.size = 0
      · have hw3 : wipeM (mkD l2 (q : Int)) m = (false, mkD l2 (q : Int)) := by unfold wipeM; rw [if_pos hz]
        refine ⟨none, mkD l2 (q : Int), n, by simp only [e1, hw2, hw3, Bool.false_eq_true, if_false], hlen _ _ hll2, hleft _ (hlen _ _ hll2) (fun i B hi _ => by show (l2.map secOf)[i]? = _; rw [List.getElem?_map, hi]; rfl), .inl rfl, fun _ => by omega⟩
      · have hw3 : wipeM (mkD l2 (q : Int)) m = thenSy (runW (mkD l2 (q : Int)) (m.from N) (List.replicate (needS m.size) zB)) := by unfold wipeM; rw [if_neg hz]; unfold writeM; rw [hlen _ _ hll2, zero_blks]
        by_cases p3 : needS m.size < q
        · have e3 := ws_ok (List.replicate (needS m.size) zB) l2 (m.from N) q (by rw [List.length_replicate, hll2]; exact f2) (by rw [List.length_replicate]; exact p3)
          refine ⟨none, _, n, by simp only [e1, hw2, hw3, e3, Bool.false_eq_true, if_false]; rfl, by rw [hlen _ _ (by rw [setL_len, hll2])], hleft _ (hlen _ _ (by rw [setL_len, hll2])) (fun i B hi hne => by show ((setL _ _ _).map secOf)[i]? = _; rw [List.getElem?_map, setL_get _ _ _ _ (by rw [List.length_replicate, hll2]; exact f2), List.length_replicate, if_neg hne, hi]; rfl), .inl rfl, fun _ => by omega⟩
        · obtain ⟨k, hk, _, e3⟩ := ws_fail (List.replicate (needS m.size) zB) l2 (m.from N) q (by rw [List.length_replicate]; omega)
          rw [List.length_replicate] at hk
          refine ⟨some 0, _, n, by simp only [e1, hw2, hw3, e3, Bool.false_eq_true, if_false, if_true]; rfl, by simp [setA_len, hll2], hleft _ (by simp [setA_len, hll2]) (fun i B hi hne => by show (setA _ _ _)[i]? = _; rw [setA_get _ _ _ _ (by simp; omega), List.getElem?_map, hi]; rfl), .inr rfl, fun e => by cases e⟩
end Go.Proofs.YtbeeehfaeknhmaaDoor
