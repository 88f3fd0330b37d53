import Derived.Test.YtjgjaefbbhffbaaDoorCox
/-
  CodeBack's walk.
-/
namespace Go.Proofs.YtjgjaefbbhffbaaDoor
open Go.RowKit

theorem Turn.geY {n : Nat} {w w' : World} (h : Below n w w') : Turn (fun q => n ≤ q) w w' := ⟨h.os, h.tape, h.output, h.size, fun q _ hF => h.block q (by omega)⟩
theorem le4_bytsY (m : Int) : Byts (le4 m) := by
  intro x hx
  simp only [le4, List.mem_cons, List.not_mem_nil, or_false] at hx
  rcases hx with rfl | rfl | rfl | rfl <;> omega
theorem byts_wfY {xs : List Int} (h : ∀ x ∈ xs, (Lit.int .u8 x).wf = true) : Byts xs := fun x hx => by
  have := h x hx
  simp [Lit.wf, IntKind.min, IntKind.max, IntKind.bits, IntKind.signed] at this
  omega
theorem pre_byts (h : List Int) (f : Nat → Option Addr × List Int × Nat) (hh : Byts h) : ∀ k, (∀ i, i < k → Byts (f i).2.1) → Byts (pre h f k)
  | 0, _ => hh
  | k + 1, hf => by
    intro x hx
    simp only [pre, lstI, List.mem_append] at hx
    rcases hx with hx | (hx | hx) | hx
    · exact pre_byts h f hh k (fun i hi => hf i (by omega)) x hx
    · exact le4_bytsY _ x hx
    · exact hf k (by omega) x hx
    · exact hf k (by omega) x hx
theorem Agree.refl (xs : List Int) : Agree xs xs := fun _ _ _ => rfl
theorem Agree.app (xs tl : List Int) : Agree (xs ++ tl) xs := fun _ _ h => List.getElem?_append_left h
theorem Agree.take (xs : List Int) (k : Nat) : Agree (xs.take k) xs := fun _ h _ => by
  rw [List.getElem?_take, if_pos (by simp at h; omega)]
theorem sliceAt_hkY {P : Program} {t e : TypeId} (hu : P.underlying t = some (.slice e)) (hs : (P.info? e).map (·.size) = some 1) (kk : IntKind) (A : Option Addr) (n cap k : Nat) (hk : k ≤ cap) (w : World) :
    (Instr.sliceAt t (.slice A n cap) none (some (.int kk (k : Int))) none).run P w = .ok (.slice A k cap) w := by
  have e2 : P.elem t = e := by simp [Program.elem, hu]
  rw [run_sliceAt_slice (h := by rw [e2]; exact hu), run_slice_h (P := P) w t A n cap (by rw [e2]; exact hu) kk (k : Int) (by omega) (by omega), e2]
  obtain ⟨i, hi, hz⟩ := Option.map_eq_some_iff.1 hs
  cases A <;> simp [sizeOf, typeInfo, hi, hz, Result.andThen, sliced, Addr.add]
/-- what CodeBack has when it reads -/
structure BK (w : World) (Gd : Nat) (AL : Option Addr) (len cap : Nat) (f : Nat → Option Addr × List Int × Nat) (n : Int) (A : Option Addr) (xs : List Int) (V : World) : Prop where
  b : Below w.heap.size w V
  l : VarS V w.heap.size (.slice AL len cap)
  nc : VarS V (w.heap.size + 1) (.int .u32 n)
  ss : SsRead V AL len f
  gd : VarS V Gd (.bool true)
  r : SlRead V A (ints .u8 xs)
  ap : ∀ a, A = some a → a.block < Gd
  lt : w.heap.size + 1 < Gd
section
variable {w : World} {Gd : Nat} {AL : Option Addr} {len cap : Nat} {f : Nat → Option Addr × List Int × Nat} {n : Int} {A : Option Addr} {xs : List Int} {V V' : World}
theorem BK.below (h : BK w Gd AL len cap f n A xs V) (hb : Below V.heap.size V V') : BK w Gd AL len cap f n A xs V' :=
  ⟨h.b.trans (hb.mono h.b.size), h.l.below hb, h.nc.below hb, h.ss.below hb, h.gd.below hb, h.r.below hb, h.ap, h.lt⟩
theorem BK.turn (h : BK w Gd AL len cap f n A xs V) (ht : Turn (fun q => q = Gd) V V') (hg : VarS V' Gd (.bool true)) (hAL : 0 < len → ∀ a, AL = some a → a.block < w.heap.size) (hfl : ∀ i, i < len → 0 < (f i).2.1.length → ∀ a, (f i).1 = some a → a.block < w.heap.size) : BK w Gd AL len cap f n A xs V' := by
  have hl := h.lt
  exact ⟨ht.below h.b h.b.size (fun q hq => by omega), h.l.turn ht (by omega), h.nc.turn ht (by omega), h.ss.turn ht (fun h0 a ha => by have := hAL h0 a ha; omega) (fun i hi h0 a ha => by have := hfl i hi h0 a ha; omega), hg, h.r.turn ht (fun _ a ha => by have := h.ap a ha; omega), h.ap, h.lt⟩
/-- one of its three reads -/
theorem back_read {E : Nat → Addr} (h : BK w Gd AL len cap f n A xs V) (hE : ErrsAt E w) (hAL : 0 < len → ∀ a, AL = some a → a.block < w.heap.size) (hfl : ∀ i, i < len → 0 < (f i).2.1.length → ∀ a, (f i).1 = some a → a.block < w.heap.size)
    (B : Option Addr) (ys : List Int) (m cb : Nat) (hm : ys.length = m) (hB : SlRead V B (ints .u8 ys)) (hyb : Byts ys) (hyl : ys.length ≤ 100000) (hxs : xs = pre (le4 n ++ [(len : Int)]) f len) (hag : Agree ys xs) (hl20 : len ≤ 20) (h30 : ∀ i, i < len → (f i).2.1.length ≤ 30) (hn : 0 ≤ n ∧ n < 4294967296) :
    Calls Tryd.prog 21 #[.slice B m cb, .func (.func 37) #[] #[.pointer (some ⟨Gd, 0, none⟩), .pointer (some ⟨w.heap.size + 1, 0, none⟩), .pointer (some ⟨w.heap.size, 0, none⟩)]] V fun e W => ∃ u, e = .returned u ∧ ∃ o, TellR E o u W ∧ ((xs.length ≤ ys.length ∧ o = if xs.length < ys.length then some (3, (xs.length : Int)) else none) ∨ (ys.length < xs.length ∧ ∃ z, o = some (2, z))) ∧ Turn (fun q => q = Gd) V W ∧ BK w Gd AL len cap f n A xs W := by
  subst hm
  have hEV := hE.below h.b
  have hlt := h.lt
  have hGl := h.gd.lt
  have hTr : ¬ 4 = Gd := by have : 4 < w.heap.size := cell_lt (hE.c 3 (by decide)); omega
  refine (lread_any E 37 #[.pointer (some ⟨Gd, 0, none⟩), .pointer (some ⟨w.heap.size + 1, 0, none⟩), .pointer (some ⟨w.heap.size, 0, none⟩)] B ys cb V (fun q => q = Gd) (fun o V => PK Gd xs.length ys.length o V) (fun _ _ => by kernel_rfl) hB hyl (fun _ => hEV.c 3 (by decide)) hTr (fun q hq => by omega) (fun o W W' hp _ ht => ⟨hp.1.turn ht (by omega), hp.2⟩) ?_).mono ?_
  · intro w1 R A1 c1 hb1 hR hRV hA1
    have hbw := h.b.trans (hb1.mono h.b.size)
    have hs1 := hb1.size
    exact back1_any (xs := xs) ⟨h.gd.below hb1, h.nc.below hb1, h.l.below hb1, h.ss.below hb1, hR, Turn.of_below (Below.refl _ _)⟩ (by omega) (by omega) (by omega) (fun h0 a ha => by have := hAL h0 a ha; omega) (fun i hi a h0 ha => by have := hfl i hi h0 a ha; omega) (fun a ha => by have := hA1 a ha; omega)
      (fun U hU => hE.below (hU.below hbw hbw.size (fun q hq => by omega))) hyb hyl hxs hag hl20 h30 hn
  · rintro e W ⟨u, rfl, o, h1, h2, h3⟩
    exact ⟨u, rfl, o, h1, h2.2, h3, h.turn h3 h2.1 hAL hfl⟩
end
set_option maxRecDepth 100000 in
set_option maxHeartbeats 12800000 in
theorem back_walk (E : Nat → Addr) (AL : Option Addr) (len cap : Nat) (f : Nat → Option Addr × List Int × Nat) (n cut : Int) (w : World) (hss : SsRead w AL len f) (hbt : ∀ i, i < len → Byts (f i).2.1) (hfm : ∀ i, i < len → (f i).2.1.length ≤ maxLen) (hcap : len ≤ maxLen) (hn : 0 ≤ n ∧ n < 4294967296) (hE : ErrsAt E w) :
    Calls Tryd.prog 5 #[.slice AL len cap, .int .u32 n, .int .i64 cut] w fun e w' => e = .returned (.bool true) ∧ Below w.heap.size w w' := by
  unfold maxLen at hcap hfm
  have hAL : 0 < len → ∀ a, AL = some a → a.block < w.heap.size := fun h0 a ha => by
    obtain ⟨b, o, e, hlt, _⟩ := hss h0
    rw [e] at ha; cases ha; exact hlt
  have hfl : ∀ i, i < len → 0 < (f i).2.1.length → ∀ a, (f i).1 = some a → a.block < w.heap.size := fun i hi h0 a ha => by
    obtain ⟨_, _, _, _, hc⟩ := hss (by omega)
    obtain ⟨b, o, e, hlt, _⟩ := (hc i hi).2 (by simpa using h0)
    rw [e] at ha; cases ha; exact hlt
  go_enter Tryd.func5, Tryd.ntmps5
  go_upto_region 1 with (fail)
  refine wp_world (fun V => Below w.heap.size w V ∧ VarS V w.heap.size (.slice AL len cap) ∧ VarS V (w.heap.size + 1) (.int .u32 n)) ⟨(below_alc w _).alloc (by simp) _, ⟨by simp [go_sem], by simp [go_sem]⟩, ⟨by simp [go_sem], by simp [go_sem]⟩⟩ ?_
  rintro W0 ⟨hb0, hL0, hN0⟩
  go_wp2_with fail
  refine (first_any W0).mono ?_
  rintro e W1 ⟨rfl, hb⟩
  have hL1 := hL0.below hb
  have hN1 := hN0.below hb
  have hb1 := hb0.trans (hb.mono hb0.size)
  have cL := hL1.c
  have cN := hN1.c
  clear hL0 hN0 hb hb0
  by_cases hl20 : len ≤ 20
  case neg =>
    go_wp2_with fail
    go_ret
    exact ⟨rfl, hb1⟩
  go_upto_region 7 with (fail)
  obtain ⟨Wb, hWb⟩ : ∃ Wb, Wb = W1.heap.size := ⟨_, rfl⟩
  have hW1 := hN1.lt
  refine wp_world (fun V => Below w.heap.size w V ∧ VarS V w.heap.size (.slice AL len cap) ∧ VarS V (w.heap.size + 1) (.int .u32 n) ∧ WrS V Wb Wb [] (.slice none 0 0) ∧ V.heap.size = Wb + 1) ?_ ?_
  · subst hWb
    have hbb := below_alc W1 (.cells #[.slice none 0 0] 26)
    exact ⟨hb1.trans (hbb.mono hb1.size), hL1.below hbb, hN1.below hbb, ⟨by simp [go_sem], by simp [go_sem], World.ownsRow_nil _ _ _ _, by simp [Value.ownBlock], Nat.le_refl _⟩, by simp⟩
  rintro V ⟨hbV, hLV, hNV, hw, hVs⟩
  rw [← hWb]
  have hWw : w.heap.size + 1 < Wb := by omega
  clear hWb hW1 hL1 hN1 hb1 cL cN
  have cN := hNV.c
  go_wp2_with fail
  refine (wu32_any n Wb Wb [] _ V hw (by omega) (by simp)).mono ?_
  rintro e V1 ⟨rfl, v1, hw1, ht1, _⟩
  have hW1 : Below Wb V V1 := ht1.below (Below.refl _ _) (by omega) (fun q hq => (hw.ltF hq).1)
  clear hw ht1 cN
  rw [List.nil_append] at hw1
  have hL1 := hLV.turn (Turn.geY hW1) (by omega)
  have cL := hL1.c
  have hu := wu8_any (len : Int) Wb Wb (le4 n) v1 V1 hw1 (Nat.le_trans (by omega) hW1.size) (by simp [le4])
  rw [show ((len : Int) % 256) = (len : Int) by omega] at hu
  go_wp2_with fail
  refine hu.mono ?_
  rintro e V2 ⟨rfl, v2, hw2, ht2, _⟩
  have hW2 : Below Wb V V2 := ht2.below hW1 (by have := hW1.size; omega) (fun q hq => (hw1.ltF hq).1)
  clear hw1 ht2 hW1 hL1 cL hu
  have hhl : (le4 n ++ [(len : Int)]).length = 5 := rfl
  have hhb : Byts (le4 n ++ [(len : Int)]) := by
    intro x hx
    rcases List.mem_append.1 hx with h | h
    · exact le4_bytsY n x h
    · obtain rfl : x = (len : Int) := by simpa using h
      omega
  obtain ⟨hd, hhd⟩ : ∃ hd, hd = le4 n ++ [(len : Int)] := ⟨_, rfl⟩
  rw [← hhd] at hw2 hhl hhb
  have HD := Lib.hid hhd
  clear hhd
  have HH := Lib.hid hhl
  clear hhl
  go_wp2_with fail
  go_loopw [9] (fun i wr => ∃ (k : Nat) (v : Value), k ≤ len ∧ i = .int .i64 (k : Int) ∧ (∀ j, j < k → (f j).2.1.length ≤ 30) ∧ (pre hd f k).length ≤ 5 + 64 * k ∧ WrS wr Wb Wb (pre hd f k) v ∧ Below Wb V wr) (fun i _ => len - (intOf i).toNat)
  case atStart => exact ⟨0, v2, Nat.zero_le _, rfl, fun j h => absurd h (Nat.not_lt_zero _), by have := HH.out; simp [pre]; omega, hw2, hW2⟩
  case round =>
    obtain ⟨k, v, hk, rfl, h30, hpl, hw, hW⟩ := hrel
    have hbw := hbV.trans (hW.mono (by omega))
    have hLr := hLV.turn (Turn.geY hW) (by omega)
    have hNr := hNV.turn (Turn.geY hW) (by omega)
    have hsr := hss.below hbw
    have cL := hLr.c
    have hVw := hW.size
    by_cases hlt : k < len
    · obtain ⟨bL, oL, rfl, hbLl, hcc⟩ := hsr (by omega)
      obtain ⟨hc1, hrl⟩ := hcc k hlt
      have hfli := hfl k hlt
      have hfmi := hfm k hlt
      have hpn : pre hd f (k + 1) = (pre hd f k ++ lstI (f k).2.1) ++ (f k).2.1 := by simp [pre]
      obtain ⟨l, hl⟩ : ∃ l, l = (f k).2.1 := ⟨_, rfl⟩
      obtain ⟨Bi, hBi⟩ : ∃ Bi, (f k).1 = Bi := ⟨_, rfl⟩
      obtain ⟨ci, hci⟩ : ∃ ci, (f k).2.2 = ci := ⟨_, rfl⟩
      have HL := Lib.hid hl
      rw [← hl, hBi] at hrl hfli
      rw [← hl] at hfmi hpn
      rw [← hl, hBi, hci] at hc1
      have hix := fun w => idx_ss bL oL len cap k hlt w
      clear hcc hl hBi hci hsr
      by_cases hl30 : l.length ≤ 30
      case neg =>
        have HB := Lib.hid hbw
        go_wp2_with fail
        go_ret
        exact ⟨rfl, HB.out⟩
      have hap : 0 < l.length → ∀ a, Bi = some a → ¬ WFoot Wb v a.block := fun h0 a ha hf2 => by have h1 := hfli h0 a ha; have h2 := (hw.ltF hf2).1; omega
      have H := wlist_any Bi l ci Wb Wb (pre hd f k) v wr hw (by omega) (by omega) hrl (by omega) hap
      have hzl : (pre hd f k ++ lstI l).length ≤ 5 + 64 * k + 34 := by simp [lstI, le4]; omega
      have HP := Lib.hid hpn
      have HZ : Hid (5 + 64 * k + 64 = 5 + 64 * (k + 1)) := Lib.hid (by omega)
      clear hpn
      generalize pre hd f k ++ lstI l = zs at *
      go_wp2_with fail
      refine H.mono ?_
      rintro e U1 ⟨rfl, u1, hu1, hT1, _⟩
      have hB1 : Below Wb V U1 := hT1.below hW (by omega) (fun q hq => (hw.ltF hq).1)
      have cL1 := (hLr.turn (Turn.geY (hT1.below (Below.refl Wb wr) (by omega) (fun q hq => (hw.ltF hq).1))) (by omega)).c
      have hc11 := (hT1.cell (k := bL) hbLl (fun hh => by have h1 := (hw.ltF hh).1; have h2 := hAL (by omega) _ rfl; simp at h2; omega)).trans hc1
      have hrl1 := hrl.turn hT1 (fun h0 a ha => hap (by simpa using h0) a ha)
      have hU1 := hB1.size
      have H2 := wraw_any Bi l ci Wb Wb zs u1 U1 hu1 (by omega) (by omega) hrl1 (by omega)
      clear H hw hW hLr hNr cL hc1 hrl hap hT1 hbw hbLl
      go_wp2_with fail
      refine H2.mono ?_
      rintro e U2 ⟨rfl, u2, hu2, hT2, _⟩
      have hB2 : Below Wb V U2 := hT2.below hB1 (by omega) (fun q hq => (hu1.ltF hq).1)
      rw [← HP.out] at hu2
      have hpl2 : (pre hd f (k + 1)).length ≤ 5 + 64 * (k + 1) := by rw [HP.out, ← HZ.out]; simp; omega
      have HF := Lib.hid (And.intro hpl2 (And.intro hu2 hB2))
      clear H2 hu1 hB1 cL1 hc11 hrl1 hT2 hu2 hB2 hpl2
      go_wp2_with fail
      go_roundw
      case rel => exact ⟨k + 1, u2, by omega, by go_num, fun j hj => by
        rcases Nat.lt_or_eq_of_le (Nat.le_of_lt_succ hj) with h | h
        · exact h30 j h
        · rw [h, ← HL.out]; exact hl30, HF.out⟩
      case measure => simp [intOf]; omega
    · have hkl : k = len := by omega
      rw [hkl] at h30 hpl hw
      have hxb : Byts (pre hd f len) := pre_byts hd f hhb len hbt
      have hx5 : 5 ≤ (pre hd f len).length := by
        obtain ⟨r0, hr0⟩ := pre_split hd f 0 len
        rw [Nat.zero_add] at hr0
        rw [hr0]
        have := HH.out
        simp [pre]
        omega
      obtain ⟨xs, hxs⟩ : ∃ xs, xs = pre hd f len := ⟨_, rfl⟩
      rw [← hxs] at hpl hw hxb hx5
      have HXS : Hid (xs = pre (le4 n ++ [(len : Int)]) f len) := Lib.hid (by rw [hxs, HD.out])
      have hxl : xs.length ≤ 1400 := by omega
      clear hxs hkl hpl
      go_wp2_with fail
      refine (wbytes_any _ _ xs v wr hw (by omega)).mono ?_
      rintro e U1 ⟨v4, rfl, hown, hb4⟩
      obtain ⟨A4, c4, rfl, hc4, _, hA40⟩ := own_slice hown
      have hrd := own_read hown
      have hA4 : ∀ a, A4 = some a → a.block < U1.heap.size := fun a ha => (hA40 a ha).2
      have hL4 := hLr.below hb4
      have hN4 := hNr.below hb4
      have hs4 := hsr.below hb4
      have hbw4 := hbw.trans (hb4.mono hbw.size)
      clear hown hA40 hw hLr hNr hsr cL hb4 hbw hW hVw hLV hNV hbV hVs hWw hW2
      go_upto_region 19 with (fail)
      obtain ⟨Gd, hGd⟩ : ∃ G, G = U1.heap.size := ⟨_, rfl⟩
      refine wp_world (fun V => BK w Gd AL len cap f n A4 xs V) ?_ ?_
      · have hbb := below_alc U1 (.cells #[.bool true] 4)
        exact ⟨hbw4.trans (hbb.mono hbw4.size), hL4.below hbb, hN4.below hbb, hs4.below hbb, by subst hGd; exact ⟨by simp [go_sem], by simp [go_sem]⟩, hrd.below hbb, by rw [hGd]; exact hA4, by rw [hGd]; exact hN4.lt⟩
      intro V1 hB
      rw [← hGd]
      clear hGd hL4 hN4 hs4 hrd hA4 hbw4
      have R1 := back_read hB hE hAL hfl A4 xs xs.length c4 rfl hB.r hxb (by omega) HXS.out (Agree.refl xs) hl20 h30 hn
      go_wp2_with fail
      refine R1.mono ?_
      rintro e V2 ⟨u1, rfl, o1, htell, ho, _, hB2⟩
      have ho1 : o1 = none := by
        rcases ho with ⟨_, h⟩ | ⟨h, _⟩
        · rw [if_neg (Nat.lt_irrefl _)] at h; exact h
        · exact absurd h (Nat.lt_irrefl _)
      rw [ho1] at htell
      obtain rfl : u1 = .nilIface := htell
      clear R1 hB ho ho1
      go_wp2_with fail
      refine (bytes_any A4 xs c4 V2 hB2.r (by omega)).mono ?_
      rintro e V3 ⟨v3, rfl, hown3, hb3⟩
      obtain ⟨A5, c5, rfl, _, _, _⟩ := own_slice hown3
      obtain ⟨ys, hys⟩ : ∃ ys, ys = xs ++ [0] := ⟨_, rfl⟩
      have HY := Lib.hid hys
      have hs3 := hb3.size
      clear hys
      go_wp2_with (at_builtin; refine push_ints rfl _ _ rfl (V3.alloc (.cells #[.int .u8 0] 5)) V2.heap.size (.slice A5 xs.length c5) xs (some ⟨V3.heap.size, 0, none⟩) [0] 1 1 rfl rfl rfl (hown3.alloc _) (one_newI _) (by simp; omega) (by simp; omega) ?_; intro v' U hownU hgU hatU; rw [← HY.out] at hownU; have hBU := hB2.below ((hb3.alloc hs3 _).grown hgU (by simp; omega) (fun j hj => (hown3.lt j hj).1)); obtain ⟨A6, c6, rfl, _⟩ := ownsRow_form hownU; have hr6 := own_read hownU; clear hownU hgU hatU hown3 hb3 hB2 hs3)
      have hyl : ys.length = xs.length + 1 := by rw [HY.out]; simp
      have hyb : Byts ys := by
        rw [HY.out]
        intro x hx
        rcases List.mem_append.1 hx with h | h
        · exact hxb x h
        · obtain rfl : x = 0 := by simpa using h
          omega
      have R2 := back_read hBU hE hAL hfl A6 ys ys.length c6 rfl hr6 hyb (by omega) HXS.out (by rw [HY.out]; exact Agree.app xs [0]) hl20 h30 hn
      have HYL := Lib.hid hyl
      clear hyl
      refine R2.mono ?_
      rintro e V4 ⟨u2, rfl, o2, htell2, ho2, _, hB4⟩
      have ho2 : o2 = some (3, (xs.length : Int)) := by
        have h9 := HYL.out
        rcases ho2 with ⟨_, h⟩ | ⟨h, _⟩
        · rw [if_pos (show xs.length < ys.length by omega)] at h; exact h
        · omega
      rw [ho2] at htell2
      obtain ⟨_, bt, rfl, hat⟩ := htell2
      have cG := hB4.gd.c
      have hx5i : ¬ (xs.length : Int) < 5 := by omega
      clear R2 hBU hr6 hyb ho2
      go_wp2_with fail
      refine (placed_any 104 (xs.length : Int) V4 (by decide)).mono ?_
      rintro e V5 ⟨rfl, hb5⟩
      have hB5 := hB4.below hb5
      have HS := same_at E bt 3 (xs.length : Int) (by decide) V5 (hE.below hB5.b) (hat.below hb5)
      clear hB4 hb5 hat cG
      go_wp2_with fail
      refine HS.mono ?_
      rintro e V6 ⟨rfl, hb6⟩
      have hB6 := hB5.below hb6
      obtain ⟨N, hN, hNl⟩ := exists_mod cut (xs.length : Int) (by omega)
      have hNl2 : N < xs.length := by omega
      have HNum := number_nat cut (xs.length : Int) N V6 (by omega) hN
      have hsl := fun w => sliceAt_hkY (P := Tryd.prog) Tryd.underlying23 (by kernel_rfl) .i64 A4 xs.length c4 N (by omega) w
      clear HS hB5 hb6 hN
      go_wp2_with fail
      refine HNum.mono ?_
      rintro e V7 ⟨rfl, m7, rfl⟩
      have hB7 := hB6.below (Below.drewNr m7)
      generalize V6.drewN m7 = V7 at *
      have hNlen : (xs.take N).length = N := by simp; omega
      have R3 := back_read hB7 hE hAL hfl A4 (xs.take N) N c4 hNlen (hB7.r.take N) (fun x hx => hxb x (List.mem_of_mem_take hx)) (by omega) HXS.out (Agree.take xs N) hl20 h30 hn
      rw [hNlen] at R3
      clear HNum hB6 hNlen
      go_wp2_with fail
      refine R3.mono ?_
      rintro e V8 ⟨u3, rfl, o3, htell3, ho3, _, hB8⟩
      obtain ⟨z3, ho3⟩ : ∃ z, o3 = some (2, z) := by
        rcases ho3 with ⟨h, _⟩ | ⟨_, h⟩
        · omega
        · exact h
      rw [ho3] at htell3
      obtain ⟨_, bt3, rfl, hat3⟩ := htell3
      have hFa := faulta_any E bt3 2 z3 (by decide) V8 (hE.below hB8.b) hat3
      clear R3 hB7 ho3 hsl
      go_wp2_with fail
      refine hFa.mono ?_
      rintro e V9 ⟨rfl, hb9⟩
      have hbw9 := hB8.b.trans (hb9.mono hB8.b.size)
      have hz := heap_alloc_new V9 (.cells #[.int .i64 0, .bool false, .int .i64 0] 42)
      clear hFa hb9 hat3 hB8
      go_upto_region 24 with (refine wpList_store_row rfl 42 _ _ rfl _ (frow 103 true z3) rfl rfl _ _ hz (by kernel_rfl) rfl (frow_one _ _ _) ?_)
      obtain ⟨Q, hQ⟩ : ∃ Q, Q = V9.heap.size := ⟨_, rfl⟩
      refine wp_world (fun V => Below w.heap.size w V ∧ V.heap[Q]? = some (.cells (frow 103 true z3) 42 (0, 0))) ⟨by rw [alloc_setRow]; exact hbw9.alloc hbw9.size _, by rw [alloc_setRow, hQ]; exact heap_alloc_new _ _⟩ ?_
      rw [← hQ]
      clear hz hQ hbw9
      rintro Y ⟨hbY, hzY⟩
      have q0 : Y.cell? ⟨Q, 0, none⟩ = some (.int .i64 103) := by simp [World.cell?, hzY, frow]
      have q1 : Y.cell? ⟨Q, 1, none⟩ = some (.bool true) := by simp [World.cell?, hzY, frow]
      have HF := Lib.hid hbY
      clear hbY hzY
      go_wp2_with fail
      go_ret
      exact ⟨rfl, HF.out⟩
end Go.Proofs.YtjgjaefbbhffbaaDoor
