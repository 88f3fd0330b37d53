import Derived.Test.YtbeeehfaeknhmaaDoorSna
/-
  slots' laws: what holds this and nothing else.
-/
namespace Go.Proofs.YtbeeehfaeknhmaaDoor
open Go.RowKit

/-- a clean disk, and slots upon it -/
structure CleanS (w0 W : World) (D R S N : Nat) (pv : Nat → Value) (m : SM) (b : List UInt8) : Prop where
  s : SloS w0 W D R S (mkD (cleanL N m b) (-1)) pv m
  f : Fit N m b
  n : 0 < N ∧ N ≤ 400
/-- bytes that lie apart -/
abbrev RowC (W : World) (D R S N : Nat) (pv : Nat → Value) (m : SM) (b : List UInt8) (A : Option Addr) (xs : List UInt8) : Prop := RowK W D R S (mkD (cleanL N m b) (-1)) pv A xs
theorem mk_len (l : List Blk) (f : Int) : (mkD l f).ss.length = l.length := by simp [mkD]
theorem clean_len (N : Nat) (m : SM) (b : List UInt8) (f : Int) : (mkD (cleanL N m b) f).ss.length = N := by rw [mk_len, cleanL_len]
theorem PL_mk (l : List Blk) (f : Int) (k : Nat) : PL (mkD l f) k := fun s hs => by
  obtain ⟨B, _, rfl⟩ := List.mem_map.1 hs
  exact Nat.zero_le _
theorem fit_zero (N : Nat) : Fit N ⟨0, 0, 0⟩ [] := ⟨⟨by simp, by simp, by simp⟩, rfl, fun _ => ⟨rfl, rfl⟩⟩
theorem new_clean (N : Nat) : (DM.mk (List.replicate N secZ) false (-1)) = mkD (cleanL N ⟨0, 0, 0⟩ []) (-1) := by
  unfold mkD
  congr 1
  apply List.ext_getElem (by simp [cleanL_len])
  intro i h1 h2
  have hi : i < N := by simpa using h1
  have e := cleanL_get N ⟨0, 0, 0⟩ [] i hi
  rw [List.getElem_replicate, List.getElem_map]
  have e2 : (cleanL N ⟨0, 0, 0⟩ [])[i]'(by rw [cleanL_len]; exact hi) = zB := by
    rw [List.getElem?_eq_getElem (by rw [cleanL_len]; exact hi)] at e
    rw [Option.some.inj e]
    unfold cleanB hdOf
    split
    · rfl
    · rw [if_neg (by show ¬ (_ ∧ i < _ + needS 0); simp [needS])]
  rw [e2]
  rfl
/-- the image's bytes -/
def imgL (l : List Blk) : List UInt8 := l.flatMap Blk.l
theorem durs_mk (l : List Blk) : durs (l.map secOf) = imgL l := by
  unfold durs imgL
  rw [List.flatMap_map]
  rfl
section
variable {w0 W W1 : World} {D R S N : Nat} {pv : Nat → Value} {m : SM} {b xs : List UInt8} {A : Option Addr}
theorem CleanS.below (h : CleanS w0 W D R S N pv m b) (hb : Below W.heap.size W W1) : CleanS w0 W1 D R S N pv m b := ⟨h.s.below hb, h.f, h.n⟩
theorem new_m (hN : 0 < N ∧ N ≤ 400) (n : Nat) (W : World) (hn : n ≤ W.heap.size) : Calls Tryd.prog 11 #[.int .i64 (N : Int)] W fun e W1 => ∃ D R pv, e = .returned (.pointer (some ⟨D, 0, none⟩)) ∧ DkM W1 n D R (mkD (cleanL N ⟨0, 0, 0⟩ []) (-1)) pv ∧ Below W.heap.size W W1 := by
  refine (new_any N (by omega) n W hn).mono ?_
  rintro e W1 ⟨D, R, rfl, hd, _, _, hb⟩
  exact ⟨D, R, _, rfl, by rw [← new_clean]; exact hd, hb⟩
theorem open_c (E : Nat → Addr) (hE : ErrD E w0) (hb : Below w0.heap.size w0 W) {l : List Blk} (h : DkM W w0.heap.size D R (mkD l (-1)) pv) (hf : Fit N m b) (hk : Keeps N l m b) (hN : 0 < N ∧ N ≤ 400) :
    Calls Tryd.prog 13 #[.pointer (some ⟨D, 0, none⟩)] W fun e W1 => ∃ S pv1, e = .returned (.tuple #[.pointer (some ⟨S, 0, none⟩), .nilIface]) ∧ CleanS w0 W1 D R S N pv1 m b ∧ W.heap.size ≤ S ∧ DkT W W1 w0.heap.size D R (mkD l (-1)) (mkD (cleanL N m b) (-1)) pv pv1 := by
  have ho := open_keeps hf hk hN.1 hN.2
  refine (open_any E w0 hE hb h (PL_mk _ _ _)).mono ?_
  rintro e W1 ⟨v, pv1, rfl, hO⟩
  obtain ⟨S, rfl, hs, hlo, hnS, _⟩ := hO.ok (by rw [ho])
  have hT := hO.t
  rw [ho] at hs hnS hT ⊢
  exact ⟨S, pv1, rfl, ⟨⟨hT.dk, hs, hnS, hT.base h hb, Nat.le_trans hb.size hlo⟩, hf, hN⟩, hlo, hT⟩
theorem RowK.reopen {d d1 : DM} {pv1 : Nat → Value} {S' n : Nat} (h : RowK W D R S d pv A xs) (hT : DkT W W1 n D R d d1 pv pv1) (hS : W.heap.size ≤ S') : RowK W1 D R S' d1 pv1 A xs :=
  ⟨h.r.turnM hT.t (fun h0 a ha => (h.a (by rwa [bcells_len] at h0) a ha).1), fun h0 a ha => ⟨hT.nF (h.a h0 a ha).2.2 (h.a h0 a ha).1, fun e => by have := (h.a h0 a ha).2.2; omega, Nat.lt_of_lt_of_le (h.a h0 a ha).2.2 hT.t.size⟩⟩
theorem save_c (E : Nat → Addr) (hE : ErrD E w0) (h : CleanS w0 W D R S N pv m b) (hr : RowC W D R S N pv m b A xs) (c : Nat) (hc : xs.length ≤ c) (hx : xs.length ≤ roomN N) (hs : m.saves < 4294967295) :
    Calls Tryd.prog 25 #[.pointer (some ⟨S, 0, none⟩), .slice A xs.length c] W fun e W1 => e = .returned .nilIface ∧ ∃ pv1, DkU W W1 w0.heap.size D R S (mkD (cleanL N m b) (-1)) (mkD (cleanL N (m.next xs.length) xs) (-1)) pv pv1 ∧ CleanS w0 W1 D R S N pv1 (m.next xs.length) xs := by
  have e := save_neg h.f xs hx hs h.n.1
  refine (save_s E hE h.s (PL_mk _ _ _) (by rw [clean_len]; exact h.f.f) hr c hc).mono ?_
  rintro e1 W1 ⟨rfl, pv1, hu, hs1⟩
  rw [e] at hu hs1 ⊢
  exact ⟨rfl, pv1, hu, hs1, h.f.next xs hx hs, h.n⟩
theorem save_full (E : Nat → Addr) (hE : ErrD E w0) (h : CleanS w0 W D R S N pv m b) (hr : RowC W D R S N pv m b A xs) (c : Nat) (hc : xs.length ≤ c) (hx : roomN N < xs.length) :
    Calls Tryd.prog 25 #[.pointer (some ⟨S, 0, none⟩), .slice A xs.length c] W fun e W1 => e = .returned (errV (E 6)) ∧ ∃ pv1, DkU W W1 w0.heap.size D R S (mkD (cleanL N m b) (-1)) (mkD (cleanL N m b) (-1)) pv pv1 ∧ CleanS w0 W1 D R S N pv1 m b := by
  have e : saveM (mkD (cleanL N m b) (-1)) m xs = (some 6, mkD (cleanL N m b) (-1), m) := if_pos (.inl (by rw [clean_len]; exact hx))
  refine (save_s E hE h.s (PL_mk _ _ _) (by rw [clean_len]; exact h.f.f) hr c hc).mono ?_
  rintro e1 W1 ⟨rfl, pv1, hu, hs1⟩
  rw [e] at hu hs1 ⊢
  exact ⟨rfl, pv1, hu, hs1, h.f, h.n⟩
theorem load_c (h : CleanS w0 W D R S N pv m b) : Calls Tryd.prog 16 #[.pointer (some ⟨S, 0, none⟩)] W fun e W1 => ∃ A c, e = .returned (.tuple #[.slice A b.length c, .nilIface]) ∧ SlRead W1 A (bcells b) ∧ Below W.heap.size W W1 := by
  refine (load_any h.s.dk rfl h.s.sl (by rw [clean_len]; exact h.f.f)).mono ?_
  rintro e W1 ⟨A, c, rfl, hr, _, hb, _⟩
  rw [load_clean _ h.f h.n.1] at hr
  exact ⟨A, c, by rw [h.f.s], hr, hb⟩
theorem load_c2 (h : CleanS w0 W D R S N pv m b) : Calls Tryd.prog 16 #[.pointer (some ⟨S, 0, none⟩)] W fun e W1 => ∃ A c, e = .returned (.tuple #[.slice A b.length c, .nilIface]) ∧ RowC W1 D R S N pv m b A b ∧ Below W.heap.size W W1 := by
  refine (load_any h.s.dk rfl h.s.sl (by rw [clean_len]; exact h.f.f)).mono ?_
  rintro e W1 ⟨A, c, rfl, hr, _, hb, hA⟩
  rw [load_clean _ h.f h.n.1] at hr
  exact ⟨A, c, by rw [h.f.s], ⟨hr, fun _ a ha => ⟨fun hh => by have h1 := h.s.dk.ltF hh; have h2 := (hA a ha).1; omega, fun e => by have h1 := h.s.sl.lt; have h2 := (hA a ha).1; omega, (hA a ha).2⟩⟩, hb⟩
theorem image_c (h : CleanS w0 W D R S N pv m b) : Calls Tryd.prog 28 #[.pointer (some ⟨D, 0, none⟩)] W fun e W1 => ∃ A c, e = .returned (.slice A (N * 128) c) ∧ RowC W1 D R S N pv m b A (imgL (cleanL N m b)) ∧ Below W.heap.size W W1 := by
  refine (image_any h.s.dk).mono ?_
  rintro e W1 ⟨v, rfl, ho, hb⟩
  obtain ⟨A, c, rfl, _⟩ := own_slice ho
  rw [clean_len, show durs (mkD (cleanL N m b) (-1)).ss = imgL (cleanL N m b) from durs_mk _] at ho
  exact ⟨A, c, by rw [clean_len], RowK.own h.s ho, hb⟩
theorem img_len (l : List Blk) : (imgL l).length = l.length * 128 := by
  rw [← durs_mk, durs_len]
  simp
theorem room_c (h : CleanS w0 W D R S N pv m b) : Calls Tryd.prog 31 #[.pointer (some ⟨S, 0, none⟩)] W fun e W1 => e = .returned (.int .i64 (roomN N : Nat)) ∧ Below W.heap.size W W1 := by
  have := roomS_any h.s.dk h.s.sl
  rwa [clean_len] at this
theorem seq_c (h : CleanS w0 W D R S N pv m b) : Calls Tryd.prog 30 #[.pointer (some ⟨S, 0, none⟩)] W fun e W1 => e = .returned (.int .i64 (m.saves : Int)) ∧ Below W.heap.size W W1 :=
  seqS_any h.s.sl (h.f.f.ok h.n.2)
/-- rows that are the same, or not -/
theorem same_rows (B : Option Addr) (ys : List UInt8) (c c' n n' : Nat) (w : World) (hA : SlRead w A (bcells xs)) (hB : SlRead w B (bcells ys)) (hn : n = xs.length) (hn' : n' = ys.length) (h1 : xs.length ≤ 1000000) (h2 : ys.length ≤ 1000000) :
    Calls Tryd.prog 18 #[.slice A n c, .slice B n' c'] w fun e w' => e = .returned (.bool (decide (xs = ys))) ∧ Below w.heap.size w w' := by
  subst hn hn'
  have hi : decide (xs.map (fun b => (b.toNat : Int)) = ys.map (fun b => (b.toNat : Int))) = decide (xs = ys) := by
    refine decide_eq_decide.2 ⟨fun e => ?_, fun e => by rw [e]⟩
    exact (List.map_inj_right (fun a b hab => UInt8.toNat_inj.1 (by have h : (a.toNat : Int) = (b.toNat : Int) := hab; omega))).1 e
  have q := sameBytes_any A B (xs.map fun b => (b.toNat : Int)) (ys.map fun b => (b.toNat : Int)) c c' w (by rw [← bcells_ints]; exact hA) (by rw [← bcells_ints]; exact hB) (by simp; omega) (by simp; omega)
  rw [List.length_map, List.length_map, hi] at q
  refine q.mono ?_
  rintro e w' ⟨rfl, k, rfl⟩
  exact ⟨rfl, Below.drewNr k⟩
theorem same_row (B : Option Addr) (c c' n : Nat) (w : World) (hA : SlRead w A (bcells xs)) (hB : SlRead w B (bcells xs)) (hn : n = xs.length) (h1 : xs.length ≤ 1000000) :
    Calls Tryd.prog 18 #[.slice A n c, .slice B n c'] w fun e w' => e = .returned (.bool true) ∧ Below w.heap.size w w' := by
  have q := same_rows B xs c c' n n w hA hB hn hn h1 h1
  rw [decide_eq_true (rfl : xs = xs)] at q
  exact q
end
set_option maxRecDepth 100000 in
set_option maxHeartbeats 3200000 in
theorem first_any (E : Nat → Addr) (w0 : World) (hE : ErrD E w0) : Calls Tryd.prog 9 #[] w0 fun e w' => e = .returned (.bool true) ∧ Below w0.heap.size w0 w' := by
  have hnew := new_m (N := 9) (by decide) w0.heap.size w0 (Nat.le_refl _)
  go_enter Tryd.func9, Tryd.ntmps9
  go_upto_region 4 with (go_at_call 11; refine hnew.mono ?_; rintro e W1 ⟨D, R, pv, rfl, hd, hb⟩)
  have hop := open_c (m := ⟨0, 0, 0⟩) (b := []) E hE hb hd (fit_zero 9) (clean_keeps (fit_zero 9) (by decide)) (by decide)
  clear hnew hd hb
  go_upto_region 5 with (go_at_call 13; refine hop.mono ?_; rintro e W2 ⟨S, pv2, rfl, hc, _, _⟩)
  have hrm := room_c hc
  rw [show roomN 9 = 512 by decide] at hrm
  have HC := Lib.hid hc
  clear hop hc
  go_upto_region 7 with (go_at_call 31; refine hrm.mono ?_; rintro e W3 ⟨rfl, hb3⟩; have HC3 := Lib.hid (HC.out.below hb3); clear hb3 hrm)
  have hld := load_c HC3.out
  go_upto_region 8 with (go_at_call 16; refine hld.mono ?_; rintro e W4 ⟨A, c, rfl, _, hb4⟩; have HC4 := Lib.hid (HC3.out.below hb4); clear hb4 hld)
  have hbx := below_alc W4 (.cells #[.int .u8 5] 5)
  have hc5 := HC4.out.below hbx
  have hr5 : RowC (W4.alloc (.cells #[.int .u8 5] 5)) D R S 9 pv2 ⟨0, 0, 0⟩ [] (some ⟨W4.heap.size, 0, none⟩) [5] := ⟨fun _ => ⟨W4.heap.size, 0, rfl, by simp, fun j u hj => range_new (cs := bcells [5]) (heap1_0 W4 _) j u hj⟩, fun _ a ha => by cases ha; exact ⟨fun hh => Nat.lt_irrefl _ (HC4.out.s.dk.ltF hh), fun e => by have h1 := HC4.out.s.sl.lt; have h2 : W4.heap.size = S := e; omega, by simp⟩⟩
  have hsv := save_c E hE hc5 hr5 1 (by decide) (by decide) (by decide)
  clear hbx hc5 hr5 HC HC3
  go_wp2_with (first | (go_at_call 25; refine hsv.mono ?_; rintro e W5 ⟨rfl, pv5, _, hc6⟩; have hsq := seq_c hc6; have HC6 := Lib.hid hc6; clear hc6 hsv) | (go_at_call 30; refine hsq.mono ?_; rintro e W6 ⟨rfl, hb6⟩; have HB := Lib.hid (HC6.out.below hb6); clear hb6 hsq))
  go_ret
  exact ⟨rfl, HB.out.s.b⟩
end Go.Proofs.YtbeeehfaeknhmaaDoor
