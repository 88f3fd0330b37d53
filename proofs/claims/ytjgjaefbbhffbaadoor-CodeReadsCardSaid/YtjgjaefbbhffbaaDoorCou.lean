import Derived.Test.YtjgjaefbbhffbaaDoorCot
import Derived.Test.YtjgjaefbbhffbaaDoorCog
import Derived.Test.YtjgjaefbbhffbaaDoorCol
/-
  CodeReads' function within.
-/
namespace Go.Proofs.YtjgjaefbbhffbaaDoor
open Go.RowKit

theorem load_dp (b o : Nat) (w : World) (v : Value) (h : w.cell? ⟨b, o, none⟩ = some v) : (Instr.loadAt 40 (.pointer (some ⟨b, o, none⟩))).run Tryd.prog w = .ok v w := by
  have h2 := Tryd.underlying40
  go_simp
theorem field_do1 (b o : Nat) (w : World) : (Instr.fieldAt 32 (.pointer (some ⟨b, o, none⟩)) 1).run Tryd.prog w = .ok (.pointer (some ⟨b, o + 1, none⟩)) w := by kernel_rfl
/-- where things lie -/
structure Lay (Lb Gd Xc X Nb R : Nat) (A A0 AL : Option Addr) (xs : List Int) (len : Nat) : Prop where
  lbx : ¬ Lb = X
  gdx : ¬ Gd = X
  xcx : ¬ Xc = X
  nbx : ¬ Nb = X
  lbr : ¬ Lb = R
  gdr : ¬ Gd = R
  xcr : ¬ Xc = R
  nbr : ¬ Nb = R
  xr : ¬ X = R
  lbn : ¬ Lb = Nb
  gdn : ¬ Gd = Nb
  xcn : ¬ Xc = Nb
  xn : ¬ X = Nb
  rn : ¬ R = Nb
  a : ∀ q, A = some q → ¬ q.block = X ∧ ¬ q.block = Nb
  a0 : 0 < xs.length → ∀ q, A0 = some q → ¬ q.block = R ∧ ¬ q.block = Nb
  al : 0 < len → ∀ q, AL = some q → ¬ q.block = X ∧ ¬ q.block = R ∧ ¬ q.block = Nb
def FR (Gd X Nb R : Nat) (q : Nat) : Prop := (q = Gd ∨ q = X ∨ q = Nb) ∨ q = R
/-- all that the loop keeps -/
structure CRS (w : World) (Lb Gd Xc X Nb R : Nat) (AL : Option Addr) (len cap : Nat) (g : Nat → Nat → Int) (A A0 : Option Addr) (xs : List Int) (c c0 i p : Nat) (V : World) : Prop where
  l : VarS V Lb (.slice AL len cap)
  fi : FiRead V AL len 2 .i64 g
  gd : VarS V Gd (.bool true)
  xc : VarS V Xc (.pointer (some ⟨X, 0, none⟩))
  nb : VarS V Nb (.int .i64 (i : Int))
  r : RdS V R A xs p c
  d : DrS V X A0 xs p c0 0 false 0
  t : Turn (FR Gd X Nb R) w V
theorem FiRead.turn {F : Nat → Prop} {w w' : World} {A : Option Addr} {len m : Nat} {k : IntKind} {g : Nat → Nat → Int} (h : FiRead w A len m k g) (ht : Turn F w w') (hF : 0 < len → ∀ a, A = some a → ¬ F a.block) : FiRead w' A len m k g := fun hl => by
  obtain ⟨b, o, e, hlt, hc⟩ := h hl
  exact ⟨b, o, e, Nat.lt_of_lt_of_le hlt ht.size, fun i j hi hj => (ht.cell hlt (hF hl _ e)).trans (hc i j hi hj)⟩
section
variable {w : World} {Lb Gd Xc X Nb R : Nat} {AL : Option Addr} {len cap : Nat} {g : Nat → Nat → Int} {A A0 : Option Addr} {xs : List Int} {c c0 i p q : Nat} {V V1 V2 : World}
/-- both have gone on -/
theorem CRS.go (h : CRS w Lb Gd Xc X Nb R AL len cap g A A0 xs c c0 i p V) (hL : Lay Lb Gd Xc X Nb R A A0 AL xs len) (t1 : Turn (· = X) V V1) (d1 : DrS V1 X A0 xs q c0 0 false 0) (t2 : Turn (· = R) V1 V2) (r2 : RdS V2 R A xs q c) : CRS w Lb Gd Xc X Nb R AL len cap g A A0 xs c c0 i q V2 :=
  ⟨(h.l.turn t1 hL.lbx).turn t2 hL.lbr, (h.fi.turn t1 (fun h0 a ha => (hL.al h0 a ha).1)).turn t2 (fun h0 a ha => (hL.al h0 a ha).2.1), (h.gd.turn t1 hL.gdx).turn t2 hL.gdr, (h.xc.turn t1 hL.xcx).turn t2 hL.xcr, (h.nb.turn t1 hL.nbx).turn t2 hL.nbr, r2,
    d1.turn0 t2 hL.xr (fun h0 a ha => (hL.a0 h0 a ha).1), (h.t.and (t1.sub (fun _ hx => .inl (.inr (.inl hx))))).and (t2.sub (fun _ hx => .inr hx))⟩
theorem CRS.below (h : CRS w Lb Gd Xc X Nb R AL len cap g A A0 xs c c0 i p V) (hb : Below V.heap.size V V1) : CRS w Lb Gd Xc X Nb R AL len cap g A A0 xs c c0 i p V1 :=
  ⟨h.l.below hb, h.fi.below hb, h.gd.below hb, h.xc.below hb, h.nb.below hb, h.r.below hb, h.d.below hb, h.t.and (Turn.of_below hb)⟩
theorem CRS.next (h : CRS w Lb Gd Xc X Nb R AL len cap g A A0 xs c c0 i p V) (hL : Lay Lb Gd Xc X Nb R A A0 AL xs len) : CRS w Lb Gd Xc X Nb R AL len cap g A A0 xs c c0 (i + 1) p (V.setCell ⟨Nb, 0, none⟩ (.int .i64 ((i : Int) + 1))) := by
  have ht := set_turn V Nb 0 (.int .i64 ((i : Int) + 1))
  exact ⟨h.l.turn ht hL.lbn, h.fi.turn ht (fun h0 a ha => (hL.al h0 a ha).2.2), h.gd.turn ht hL.gdn, h.xc.turn ht hL.xcn, h.nb.set _, h.r.turn ht hL.rn (fun a ha => (hL.a a ha).2), h.d.turn0 ht hL.xn (fun h0 a ha => (hL.a0 h0 a ha).2), h.t.and (ht.sub (fun _ hx => .inl (.inr (.inr hx))))⟩
end
/-- what CodeReads knows behind read -/
def PR (Gd X Nb len : Nat) (A0 : Option Addr) (xs : List Int) (c0 : Nat) (o : Option (Nat × Int)) (V : World) : Prop :=
  VarS V Gd (.bool true) ∧ ∃ (N p : Nat) (cc : Int) (pl : Bool) (z : Int), VarS V Nb (.int .i64 (N : Int)) ∧ DrS V X A0 xs p c0 cc pl z ∧
    ((N = len ∧ cc = 0 ∧ pl = false ∧ z = 0 ∧ o = if p < xs.length then some (3, (p : Int)) else none) ∨ (N < len ∧ ∃ k : Nat, k < 19 ∧ o = some (k, z) ∧ cc = 101 + (k : Int) ∧ pl = true))
/-- both have failed -/
theorem PR.fell {E : Nat → Addr} {w : World} {Lb Gd Xc X Nb R : Nat} {AL : Option Addr} {len cap : Nat} {g : Nat → Nat → Int} {A A0 : Option Addr} {xs : List Int} {c c0 i p q k : Nat} {V V1 V2 : World} {e : Ending} {z : Int} (h : CRS w Lb Gd Xc X Nb R AL len cap g A A0 xs c c0 i p V) (hL : Lay Lb Gd Xc X Nb R A A0 AL xs len) (hi : i < len) (hk : k < 19)
    (t1 : Turn (· = X) V V1) (d1 : DrS V1 X A0 xs q c0 (101 + (k : Int)) true z) (hf : FellAt E V1 k z e V2) :
    ∃ o, Turn (FR Gd X Nb R) w V2 ∧ EndsAs E R A xs c w.heap.size o e V2 ∧ PR Gd X Nb len A0 xs c0 o V2 := by
  have hs : w.heap.size ≤ V1.heap.size := Nat.le_trans h.t.size t1.size
  have hb := hf.below
  exact ⟨_, (h.t.and (t1.sub (fun _ hx => .inl (.inr (.inl hx))))).and (Turn.of_below hb), EndsAs.fell hf hk hs, (h.gd.turn t1 hL.gdx).below hb, i, q, _, _, _, (h.nb.turn t1 hL.nbx).below hb, d1.below hb, .inr ⟨hi, k, hk, rfl, rfl, rfl⟩⟩
set_option maxRecDepth 100000 in
set_option maxHeartbeats 12800000 in
theorem reads1_any {E : Nat → Addr} {w : World} {Lb Gd Xc X Nb R : Nat} {AL : Option Addr} {len cap : Nat} {g : Nat → Nat → Int} {A A0 : Option Addr} {xs : List Int} {c c0 : Nat} (hs0 : CRS w Lb Gd Xc X Nb R AL len cap g A A0 xs c c0 0 0 w) (hL : Lay Lb Gd Xc X Nb R A A0 AL xs len) (hE2 : ∀ V, Turn (FR Gd X Nb R) w V → ErrsAt E V) (hx : Byts xs) (hl : xs.length ≤ 100) (hl30 : len ≤ 30) :
    Calls Tryd.prog 22 #[.pointer (some ⟨R, 0, none⟩), .pointer (some ⟨Lb, 0, none⟩), .pointer (some ⟨Gd, 0, none⟩), .pointer (some ⟨Xc, 0, none⟩), .pointer (some ⟨Nb, 0, none⟩)] w fun e w2 => ∃ o, Turn (FR Gd X Nb R) w w2 ∧ EndsAs E R A xs c w.heap.size o e w2 ∧ PR Gd X Nb len A0 xs c0 o w2 := by
  go_enter Tryd.func22, Tryd.ntmps22
  go_wp2_with fail
  go_loopw [6] (fun v wr => ∃ i p : Nat, i ≤ len ∧ v = .int .i64 (i : Int) ∧ CRS w Lb Gd Xc X Nb R AL len cap g A A0 xs c c0 i p wr) (fun v _ => len - (intOf v).toNat)
  case atStart => exact ⟨0, 0, Nat.zero_le _, rfl, hs0⟩
  case round =>
    obtain ⟨i, p, hi, rfl, hs⟩ := hrel
    have cL := hs.l.c
    by_cases hlt : i < len
    case neg =>
      have hfin : ∃ o, Turn (FR Gd X Nb R) w wr ∧ EndsAs E R A xs c w.heap.size o (.returned (.tuple #[])) wr ∧ PR Gd X Nb len A0 xs c0 o wr := ⟨_, hs.t, .inl ⟨rfl, p, hs.r, rfl⟩, hs.gd, i, p, 0, false, 0, hs.nb, hs.d, .inl ⟨by omega, rfl, rfl, rfl, rfl⟩⟩
      have hfin := Lib.hid hfin
      clear hs hs0
      go_wp2_with fail
      go_end0
      exact hfin.out
    obtain ⟨bL, oL, rfl, hbLl, _⟩ := hs.fi (by omega)
    have hbL := hL.al (by omega) _ rfl
    have hbLX : ¬ bL = X := hbL.1
    have hc0 := fi2_cell hs.fi hlt 0 (by omega)
    have hc1 := fi2_cell hs.fi hlt 1 (by omega)
    rw [Nat.add_zero] at hc0
    have hix := fun w => idx_doC bL oL len cap i hlt w
    have HN0 : g i 0 % 5 = 0 ∨ g i 0 % 5 = 1 ∨ g i 0 % 5 = 2 ∨ g i 0 % 5 = 3 ∨ g i 0 % 5 = 4 := by omega
    obtain ⟨j, hj⟩ : ∃ j, g i 0 % 5 = j := ⟨_, rfl⟩
    have HN := num_lit (g i 0) 5 j wr (by omega) hj
    rw [hj] at HN0
    clear hj
    go_wp2_with fail
    refine HN.mono ?_
    rintro e V0 ⟨rfl, m, rfl⟩
    have hs := hs.below (Below.drewNr (w := wr) m)
    generalize wr.drewN m = V at *
    clear HN cL hc0 hc1 hs0 hbLl
    have cL := hs.l.c
    have cXc := hs.xc.c
    have hLbl := hs.l.lt
    have hXcl := hs.xc.lt
    have hbLl : bL < V.heap.size := by
      obtain ⟨_, _, e1, h1, _⟩ := hs.fi (by omega)
      cases e1; exact h1
    have hc0 : V.cell? ⟨bL, oL + i * 2, none⟩ = some (.int .i64 (g i 0)) := fi2_cell hs.fi hlt 0 (by omega)
    have hc1 := fi2_cell hs.fi hlt 1 (by omega)
    have hpl := hs.r.le
    rcases HN0 with rfl | rfl | rfl | rfl | rfl
    · rcases Nat.lt_or_ge p xs.length with hp | hp
      · go_wp2_with fail
        refine (du8_ok hs.d hx (by omega) hp).mono ?_
        rintro e V1 ⟨rfl, d1, t1⟩
        have r1 := hs.r.turn t1 (Ne.symm hL.xr) (fun a ha => (hL.a a ha).1)
        have H := ru8_ok r1 hx (by omega) hp
        go_wp2_with fail
        refine H.mono ?_
        rintro e V2 ⟨rfl, r2, t2⟩
        obtain ⟨q, hq⟩ : ∃ q, q = p + 1 := ⟨_, rfl⟩
        rw [← hq] at d1 r2
        have B2 := hs.go hL t1 d1 t2 r2
        clear H r1 t1 d1 t2 r2 hs hc0 hc1 cL cXc hq
        go_upto_region 21 with (fail)
        have hXcl := B2.xc.lt
        have cXc := B2.xc.c
        have u1 := B2.d.r.c1
        have hXl := B2.d.r.lt
        refine wp_region_noPanic ?_
        refine wp_region_held_drew (S := fun Y => Below V2.heap.size V2 Y) (by kernel_rfl) (Below.drewNr (w := V2) 1) (fun hHeld => ?_)
        refine held_move 0 (Go.Operand.tmp 7) (some 85) (.bool true) (by kernel_rfl) (by kernel_rfl) (by kernel_rfl) (by kernel_rfl) (by kernel_rfl) (fun _ _ _ _ _ h => h) hHeld ?_
        refine held_any 1 (Go.Op.unOp Go.UnOp.not 4 (Go.Operand.tmp 85)) (some 86) (.bool false) (by kernel_rfl) (by kernel_rfl) (by kernel_rfl) (by kernel_rfl) (fun _ _ _ _ _ h => h) hHeld (fun oo ho w _ => by unfold execOp; simp only [ho]; kernel_rfl) ?_
        refine held_move 2 (Go.Operand.tmp 86) (some 87) (.bool false) (by kernel_rfl) (by kernel_rfl) (by kernel_rfl) (by kernel_rfl) (by kernel_rfl) (fun _ _ _ _ _ h => h) hHeld ?_
        refine held_cell 3 40 (Go.Operand.tmp 3) (some 88) (.pointer (some ⟨Xc, 0, none⟩)) (.pointer (some ⟨X, 0, none⟩)) (by kernel_rfl) (by kernel_rfl) (fun Y hY => load_dp Xc 0 Y _ ((hY.cell (p := ⟨Xc, 0, none⟩) hXcl).trans cXc)) (by kernel_rfl) (by kernel_rfl) (by kernel_rfl) (fun _ _ _ _ _ h => h) hHeld ?_
        refine held_call 4 33 #[Go.Operand.tmp 88] #[40] (some 89) #[.pointer (some ⟨X, 0, none⟩)] _ (by kernel_rfl) (by kernel_rfl) (by kernel_rfl) (by kernel_rfl) (fine_yes (B2.d.below hHeld) rfl) ?_
        rintro e Y1 ⟨rfl, hbY⟩
        refine ⟨_, rfl, hHeld.trans (hbY.mono hHeld.size), fun hHeld => ?_⟩
        refine held_any 5 (Go.Op.unOp Go.UnOp.not 4 (Go.Operand.tmp 89)) (some 90) (.bool false) (by kernel_rfl) (by kernel_rfl) (by kernel_rfl) (by kernel_rfl) (fun _ _ _ _ _ h => h) hHeld (fun oo ho w _ => by unfold execOp; simp only [ho]; kernel_rfl) ?_
        refine held_pick 6 (Go.Operand.tmp 87) (Go.Operand.const (Go.Value.bool true)) (Go.Operand.tmp 90) (some 91) false (.bool false) (by kernel_rfl) (by kernel_rfl) (by kernel_rfl) (by kernel_rfl) (by kernel_rfl) (by kernel_rfl) (fun _ _ _ _ _ h => h) hHeld ?_
        refine held_move 7 (Go.Operand.tmp 91) (some 92) (.bool false) (by kernel_rfl) (by kernel_rfl) (by kernel_rfl) (by kernel_rfl) (by kernel_rfl) (fun _ _ _ _ _ h => h) hHeld ?_
        refine held_move 8 (Go.Operand.tmp 0) (some 93) (.pointer (some ⟨R, 0, none⟩)) (by kernel_rfl) (by kernel_rfl) (by kernel_rfl) (by kernel_rfl) (by kernel_rfl) (fun _ _ _ _ _ h => h) hHeld ?_
        refine held_cell 10 40 (Go.Operand.tmp 3) (some 95) (.pointer (some ⟨Xc, 0, none⟩)) (.pointer (some ⟨X, 0, none⟩)) (by kernel_rfl) (by kernel_rfl) (fun Y hY => load_dp Xc 0 Y _ ((hY.cell (p := ⟨Xc, 0, none⟩) hXcl).trans cXc)) (by kernel_rfl) (by kernel_rfl) (by kernel_rfl) (fun _ _ _ _ _ h => h) hHeld ?_
        refine held_nil 11 (Go.Operand.tmp 95) (some 96) ⟨X, 0, none⟩ (by kernel_rfl) (by kernel_rfl) (by kernel_rfl) (by kernel_rfl) (by kernel_rfl) (fun _ _ _ _ _ h => h) hHeld ?_
        refine held_field 12 44 (Go.Operand.tmp 96) 1 (some 97) (.pointer (some ⟨X, 0, none⟩)) (.pointer (some ⟨X, 1, none⟩)) (by kernel_rfl) (by kernel_rfl) (fun w => by kernel_rfl) (by kernel_rfl) (by kernel_rfl) (by kernel_rfl) (fun _ _ _ _ _ h => h) hHeld ?_
        refine held_cell 13 3 (Go.Operand.tmp 97) (some 98) (.pointer (some ⟨X, 1, none⟩)) (.int .i64 (q : Int)) (by kernel_rfl) (by kernel_rfl) (fun Y hY => load_i64 X 1 Y _ ((hY.cell (p := ⟨X, 1, none⟩) hXl).trans u1)) (by kernel_rfl) (by kernel_rfl) (by kernel_rfl) (fun _ _ _ _ _ h => h) hHeld ?_
        refine held_call 9 34 #[Go.Operand.tmp 93] #[48] (some 94) #[.pointer (some ⟨R, 0, none⟩)] _ (by kernel_rfl) (by kernel_rfl) (by kernel_rfl) (by kernel_rfl) (rat_any (B2.r.below hHeld)) ?_
        rintro e Y2 ⟨rfl, rfl⟩
        refine ⟨_, rfl, hHeld, fun hHeld => ?_⟩
        refine held_bin 14 Go.BinOp.neq 3 (Go.Operand.tmp 94) (Go.Operand.tmp 98) 3 (some 99) (.int .i64 (q : Int)) (.int .i64 (q : Int)) (.bool false) (by kernel_rfl) (by kernel_rfl) (fun w => neq_int _ _ _ w _ _ _ _ (by simp)) (by kernel_rfl) (by kernel_rfl) (by kernel_rfl) (fun _ _ _ _ _ h => h) hHeld ?_
        refine held_pick 15 (Go.Operand.tmp 92) (Go.Operand.const (Go.Value.bool true)) (Go.Operand.tmp 99) (some 100) false (.bool false) (by kernel_rfl) (by kernel_rfl) (by kernel_rfl) (by kernel_rfl) (by kernel_rfl) (by kernel_rfl) (fun _ _ _ _ _ h => h) hHeld ?_
        refine wpAnyH_done (by kernel_rfl) ?_ _
        refine NoPanic.normal ?_
        simp only [put_list, List.set_cons_zero, List.set_cons_succ]
        have B3 := B2.below hHeld
        have B4 := Lib.hid (B3.next hL)
        have cN := B3.nb.c
        have fN := B3.nb.f
        clear B2 B3 hXcl cXc u1 hXl hHeld
        go_wp2_with fail
        go_roundw
        case rel => exact ⟨i + 1, q, by omega, by go_num, B4.out⟩
        case measure => simp [intOf]; omega
      · -- short
        go_wp2_with fail
        refine (du8_no hs.d (by omega) (by omega)).mono ?_
        rintro e V1 ⟨rfl, d1, t1⟩
        have hEV1 := hE2 V1 (hs.t.and (t1.sub (fun _ hx => .inl (.inr (.inl hx)))))
        have r1 := hs.r.turn t1 (Ne.symm hL.xr) (fun a ha => (hL.a a ha).1)
        have H := ru8_no r1 hEV1 (by omega) hp
        go_wp2_with fail
        refine H.mono ?_
        intro e V2 hf
        have hfin := Lib.hid (PR.fell (k := 2) hs hL hlt (by decide) t1 d1 hf)
        obtain ⟨bt, rfl, _⟩ := hf
        go_wp2_with fail
        exact ⟨rfl, hfin.out⟩
    · rcases Nat.lt_or_ge xs.length (p + 4) with hp | hp
      · -- short
        go_wp2_with fail
        refine (du32_no hs.d (by omega) hp).mono ?_
        rintro e V1 ⟨rfl, d1, t1⟩
        have hEV1 := hE2 V1 (hs.t.and (t1.sub (fun _ hx => .inl (.inr (.inl hx)))))
        have r1 := hs.r.turn t1 (Ne.symm hL.xr) (fun a ha => (hL.a a ha).1)
        have H := ru32_no r1 hEV1 (by omega) hp
        go_wp2_with fail
        refine H.mono ?_
        intro e V2 hf
        have hfin := Lib.hid (PR.fell (k := 2) hs hL hlt (by decide) t1 d1 hf)
        obtain ⟨bt, rfl, _⟩ := hf
        go_wp2_with fail
        exact ⟨rfl, hfin.out⟩
      · go_wp2_with fail
        refine (du32_ok hs.d hx (by omega) hp).mono ?_
        rintro e V1 ⟨rfl, d1, t1⟩
        have r1 := hs.r.turn t1 (Ne.symm hL.xr) (fun a ha => (hL.a a ha).1)
        have H := ru32_ok r1 hx (by omega) hp
        go_wp2_with fail
        refine H.mono ?_
        rintro e V2 ⟨rfl, r2, t2⟩
        obtain ⟨q, hq⟩ : ∃ q, q = p + 4 := ⟨_, rfl⟩
        rw [← hq] at d1 r2
        have B2 := hs.go hL t1 d1 t2 r2
        clear H r1 t1 d1 t2 r2 hs hc0 hc1 cL cXc hq
        go_upto_region 21 with (fail)
        have hXcl := B2.xc.lt
        have cXc := B2.xc.c
        have u1 := B2.d.r.c1
        have hXl := B2.d.r.lt
        refine wp_region_noPanic ?_
        refine wp_region_held_drew (S := fun Y => Below V2.heap.size V2 Y) (by kernel_rfl) (Below.drewNr (w := V2) 1) (fun hHeld => ?_)
        refine held_move 0 (Go.Operand.tmp 7) (some 85) (.bool true) (by kernel_rfl) (by kernel_rfl) (by kernel_rfl) (by kernel_rfl) (by kernel_rfl) (fun _ _ _ _ _ h => h) hHeld ?_
        refine held_any 1 (Go.Op.unOp Go.UnOp.not 4 (Go.Operand.tmp 85)) (some 86) (.bool false) (by kernel_rfl) (by kernel_rfl) (by kernel_rfl) (by kernel_rfl) (fun _ _ _ _ _ h => h) hHeld (fun oo ho w _ => by unfold execOp; simp only [ho]; kernel_rfl) ?_
        refine held_move 2 (Go.Operand.tmp 86) (some 87) (.bool false) (by kernel_rfl) (by kernel_rfl) (by kernel_rfl) (by kernel_rfl) (by kernel_rfl) (fun _ _ _ _ _ h => h) hHeld ?_
        refine held_cell 3 40 (Go.Operand.tmp 3) (some 88) (.pointer (some ⟨Xc, 0, none⟩)) (.pointer (some ⟨X, 0, none⟩)) (by kernel_rfl) (by kernel_rfl) (fun Y hY => load_dp Xc 0 Y _ ((hY.cell (p := ⟨Xc, 0, none⟩) hXcl).trans cXc)) (by kernel_rfl) (by kernel_rfl) (by kernel_rfl) (fun _ _ _ _ _ h => h) hHeld ?_
        refine held_call 4 33 #[Go.Operand.tmp 88] #[40] (some 89) #[.pointer (some ⟨X, 0, none⟩)] _ (by kernel_rfl) (by kernel_rfl) (by kernel_rfl) (by kernel_rfl) (fine_yes (B2.d.below hHeld) rfl) ?_
        rintro e Y1 ⟨rfl, hbY⟩
        refine ⟨_, rfl, hHeld.trans (hbY.mono hHeld.size), fun hHeld => ?_⟩
        refine held_any 5 (Go.Op.unOp Go.UnOp.not 4 (Go.Operand.tmp 89)) (some 90) (.bool false) (by kernel_rfl) (by kernel_rfl) (by kernel_rfl) (by kernel_rfl) (fun _ _ _ _ _ h => h) hHeld (fun oo ho w _ => by unfold execOp; simp only [ho]; kernel_rfl) ?_
        refine held_pick 6 (Go.Operand.tmp 87) (Go.Operand.const (Go.Value.bool true)) (Go.Operand.tmp 90) (some 91) false (.bool false) (by kernel_rfl) (by kernel_rfl) (by kernel_rfl) (by kernel_rfl) (by kernel_rfl) (by kernel_rfl) (fun _ _ _ _ _ h => h) hHeld ?_
        refine held_move 7 (Go.Operand.tmp 91) (some 92) (.bool false) (by kernel_rfl) (by kernel_rfl) (by kernel_rfl) (by kernel_rfl) (by kernel_rfl) (fun _ _ _ _ _ h => h) hHeld ?_
        refine held_move 8 (Go.Operand.tmp 0) (some 93) (.pointer (some ⟨R, 0, none⟩)) (by kernel_rfl) (by kernel_rfl) (by kernel_rfl) (by kernel_rfl) (by kernel_rfl) (fun _ _ _ _ _ h => h) hHeld ?_
        refine held_cell 10 40 (Go.Operand.tmp 3) (some 95) (.pointer (some ⟨Xc, 0, none⟩)) (.pointer (some ⟨X, 0, none⟩)) (by kernel_rfl) (by kernel_rfl) (fun Y hY => load_dp Xc 0 Y _ ((hY.cell (p := ⟨Xc, 0, none⟩) hXcl).trans cXc)) (by kernel_rfl) (by kernel_rfl) (by kernel_rfl) (fun _ _ _ _ _ h => h) hHeld ?_
        refine held_nil 11 (Go.Operand.tmp 95) (some 96) ⟨X, 0, none⟩ (by kernel_rfl) (by kernel_rfl) (by kernel_rfl) (by kernel_rfl) (by kernel_rfl) (fun _ _ _ _ _ h => h) hHeld ?_
        refine held_field 12 44 (Go.Operand.tmp 96) 1 (some 97) (.pointer (some ⟨X, 0, none⟩)) (.pointer (some ⟨X, 1, none⟩)) (by kernel_rfl) (by kernel_rfl) (fun w => by kernel_rfl) (by kernel_rfl) (by kernel_rfl) (by kernel_rfl) (fun _ _ _ _ _ h => h) hHeld ?_
        refine held_cell 13 3 (Go.Operand.tmp 97) (some 98) (.pointer (some ⟨X, 1, none⟩)) (.int .i64 (q : Int)) (by kernel_rfl) (by kernel_rfl) (fun Y hY => load_i64 X 1 Y _ ((hY.cell (p := ⟨X, 1, none⟩) hXl).trans u1)) (by kernel_rfl) (by kernel_rfl) (by kernel_rfl) (fun _ _ _ _ _ h => h) hHeld ?_
        refine held_call 9 34 #[Go.Operand.tmp 93] #[48] (some 94) #[.pointer (some ⟨R, 0, none⟩)] _ (by kernel_rfl) (by kernel_rfl) (by kernel_rfl) (by kernel_rfl) (rat_any (B2.r.below hHeld)) ?_
        rintro e Y2 ⟨rfl, rfl⟩
        refine ⟨_, rfl, hHeld, fun hHeld => ?_⟩
        refine held_bin 14 Go.BinOp.neq 3 (Go.Operand.tmp 94) (Go.Operand.tmp 98) 3 (some 99) (.int .i64 (q : Int)) (.int .i64 (q : Int)) (.bool false) (by kernel_rfl) (by kernel_rfl) (fun w => neq_int _ _ _ w _ _ _ _ (by simp)) (by kernel_rfl) (by kernel_rfl) (by kernel_rfl) (fun _ _ _ _ _ h => h) hHeld ?_
        refine held_pick 15 (Go.Operand.tmp 92) (Go.Operand.const (Go.Value.bool true)) (Go.Operand.tmp 99) (some 100) false (.bool false) (by kernel_rfl) (by kernel_rfl) (by kernel_rfl) (by kernel_rfl) (by kernel_rfl) (by kernel_rfl) (fun _ _ _ _ _ h => h) hHeld ?_
        refine wpAnyH_done (by kernel_rfl) ?_ _
        refine NoPanic.normal ?_
        simp only [put_list, List.set_cons_zero, List.set_cons_succ]
        have B3 := B2.below hHeld
        have B4 := Lib.hid (B3.next hL)
        have cN := B3.nb.c
        have fN := B3.nb.f
        clear B2 B3 hXcl cXc u1 hXl hHeld
        go_wp2_with fail
        go_roundw
        case rel => exact ⟨i + 1, q, by omega, by go_num, B4.out⟩
        case measure => simp [intOf]; omega
    · rcases (show g i 1 < 0 ∨ (0 ≤ g i 1 ∧ (xs.length : Int) - p < g i 1) ∨ ∃ n : Nat, g i 1 = n ∧ p + n ≤ xs.length by
        by_cases h : g i 1 < 0
        · exact .inl h
        · by_cases h2 : (xs.length : Int) - p < g i 1
          · exact .inr (.inl ⟨by omega, h2⟩)
          · exact .inr (.inr ⟨(g i 1).toNat, by omega, by omega⟩)) with hn | hn | ⟨n, hn, hp⟩
      · go_upto_region 16 with (fail)
        refine wp_region_noPanic ?_
        refine wp_region_held_drew (S := fun Y => Turn (· = X) V Y) (by kernel_rfl) (Turn.of_below (Below.drewNr (w := V) 1)) (fun hHeld => ?_)
        refine held_cell 0 40 (Go.Operand.tmp 3) (some 51) (.pointer (some ⟨Xc, 0, none⟩)) (.pointer (some ⟨X, 0, none⟩)) (by kernel_rfl) (by kernel_rfl) (fun Y hY => load_dp Xc 0 Y _ ((hY.cell (k := Xc) hXcl hL.xcx).trans cXc)) (by kernel_rfl) (by kernel_rfl) (by kernel_rfl) (fun _ _ _ _ _ h => h) hHeld ?_
        refine held_cell 1 22 (Go.Operand.tmp 1) (some 52) (.pointer (some ⟨Lb, 0, none⟩)) (.slice (some ⟨bL, oL, none⟩) len cap) (by kernel_rfl) (by kernel_rfl) (fun Y hY => load_slice Lb 0 Y 22 (fun w => by kernel_rfl) _ ((hY.cell (k := Lb) hLbl hL.lbx).trans cL)) (by kernel_rfl) (by kernel_rfl) (by kernel_rfl) (fun _ _ _ _ _ h => h) hHeld ?_
        refine held_move 2 (Go.Operand.tmp 6) (some 53) (.int .i64 (i : Int)) (by kernel_rfl) (by kernel_rfl) (by kernel_rfl) (by kernel_rfl) (by kernel_rfl) (fun _ _ _ _ _ h => h) hHeld ?_
        refine held_index 3 22 (Go.Operand.tmp 52) (Go.Operand.tmp 53) (some 54) (.slice (some ⟨bL, oL, none⟩) len cap) (.int .i64 (i : Int)) (.pointer (some ⟨bL, oL + i * 2, none⟩)) (by kernel_rfl) (by kernel_rfl) (fun w => idx_doC bL oL len cap i hlt w) (by kernel_rfl) (by kernel_rfl) (by kernel_rfl) (fun _ _ _ _ _ h => h) hHeld ?_
        refine held_field 4 32 (Go.Operand.tmp 54) 1 (some 55) (.pointer (some ⟨bL, oL + i * 2, none⟩)) (.pointer (some ⟨bL, oL + i * 2 + 1, none⟩)) (by kernel_rfl) (by kernel_rfl) (fun w => field_do1 bL _ w) (by kernel_rfl) (by kernel_rfl) (by kernel_rfl) (fun _ _ _ _ _ h => h) hHeld ?_
        refine held_cell 5 3 (Go.Operand.tmp 55) (some 56) (.pointer (some ⟨bL, oL + i * 2 + 1, none⟩)) (.int .i64 (g i 1)) (by kernel_rfl) (by kernel_rfl) (fun Y hY => load_i64 bL (oL + i * 2 + 1) Y _ ((hY.cell (k := bL) hbLl hbLX).trans hc1)) (by kernel_rfl) (by kernel_rfl) (by kernel_rfl) (fun _ _ _ _ _ h => h) hHeld ?_
        refine held_call 6 27 #[Go.Operand.tmp 51, Go.Operand.tmp 56] #[40, 3] (some 57) #[.pointer (some ⟨X, 0, none⟩), .int .i64 (g i 1)] _ (by kernel_rfl) (by kernel_rfl) (by kernel_rfl) (by kernel_rfl) (draw_neg (hs.d.below (Below.drewNr (w := V) 1)) (g i 1) hn) ?_
        rintro e V1 ⟨rfl, d1, t1⟩
        have t1 := hHeld.trans t1 (fun q hq => .inl hq)
        refine ⟨_, rfl, t1, fun _ => ?_⟩
        clear hHeld
        have hHeld := t1
        refine held_assign 7 (Go.Operand.tmp 57) (some 10) (.slice none 0 0) (by kernel_rfl) (by kernel_rfl) (by kernel_rfl) (by kernel_rfl) (by kernel_rfl) (fun _ _ _ _ _ h => h) hHeld ?_
        refine wpAnyH_done (by kernel_rfl) ?_ _
        refine NoPanic.normal ?_
        simp only [put_list, List.set_cons_zero, List.set_cons_succ]
        have cL1 := (t1.cell hLbl hL.lbx).trans cL
        have hc11 := (t1.cell (k := bL) hbLl hbLX).trans hc1
        have hEV1 := hE2 V1 (hs.t.and (t1.sub (fun _ hx => .inl (.inr (.inl hx)))))
        have r1 := hs.r.turn t1 (Ne.symm hL.xr) (fun a ha => (hL.a a ha).1)
        have H := rraw_neg r1 hEV1 (g i 1) hn
        go_wp2_with fail
        refine H.mono ?_
        intro e V2 hf
        have hfin := Lib.hid (PR.fell (k := 1) hs hL hlt (by decide) t1 d1 hf)
        obtain ⟨bt, rfl, _⟩ := hf
        go_wp2_with fail
        exact ⟨rfl, hfin.out⟩
      · go_upto_region 16 with (fail)
        refine wp_region_noPanic ?_
        refine wp_region_held_drew (S := fun Y => Turn (· = X) V Y) (by kernel_rfl) (Turn.of_below (Below.drewNr (w := V) 1)) (fun hHeld => ?_)
        refine held_cell 0 40 (Go.Operand.tmp 3) (some 51) (.pointer (some ⟨Xc, 0, none⟩)) (.pointer (some ⟨X, 0, none⟩)) (by kernel_rfl) (by kernel_rfl) (fun Y hY => load_dp Xc 0 Y _ ((hY.cell (k := Xc) hXcl hL.xcx).trans cXc)) (by kernel_rfl) (by kernel_rfl) (by kernel_rfl) (fun _ _ _ _ _ h => h) hHeld ?_
        refine held_cell 1 22 (Go.Operand.tmp 1) (some 52) (.pointer (some ⟨Lb, 0, none⟩)) (.slice (some ⟨bL, oL, none⟩) len cap) (by kernel_rfl) (by kernel_rfl) (fun Y hY => load_slice Lb 0 Y 22 (fun w => by kernel_rfl) _ ((hY.cell (k := Lb) hLbl hL.lbx).trans cL)) (by kernel_rfl) (by kernel_rfl) (by kernel_rfl) (fun _ _ _ _ _ h => h) hHeld ?_
        refine held_move 2 (Go.Operand.tmp 6) (some 53) (.int .i64 (i : Int)) (by kernel_rfl) (by kernel_rfl) (by kernel_rfl) (by kernel_rfl) (by kernel_rfl) (fun _ _ _ _ _ h => h) hHeld ?_
        refine held_index 3 22 (Go.Operand.tmp 52) (Go.Operand.tmp 53) (some 54) (.slice (some ⟨bL, oL, none⟩) len cap) (.int .i64 (i : Int)) (.pointer (some ⟨bL, oL + i * 2, none⟩)) (by kernel_rfl) (by kernel_rfl) (fun w => idx_doC bL oL len cap i hlt w) (by kernel_rfl) (by kernel_rfl) (by kernel_rfl) (fun _ _ _ _ _ h => h) hHeld ?_
        refine held_field 4 32 (Go.Operand.tmp 54) 1 (some 55) (.pointer (some ⟨bL, oL + i * 2, none⟩)) (.pointer (some ⟨bL, oL + i * 2 + 1, none⟩)) (by kernel_rfl) (by kernel_rfl) (fun w => field_do1 bL _ w) (by kernel_rfl) (by kernel_rfl) (by kernel_rfl) (fun _ _ _ _ _ h => h) hHeld ?_
        refine held_cell 5 3 (Go.Operand.tmp 55) (some 56) (.pointer (some ⟨bL, oL + i * 2 + 1, none⟩)) (.int .i64 (g i 1)) (by kernel_rfl) (by kernel_rfl) (fun Y hY => load_i64 bL (oL + i * 2 + 1) Y _ ((hY.cell (k := bL) hbLl hbLX).trans hc1)) (by kernel_rfl) (by kernel_rfl) (by kernel_rfl) (fun _ _ _ _ _ h => h) hHeld ?_
        refine held_call 6 27 #[Go.Operand.tmp 51, Go.Operand.tmp 56] #[40, 3] (some 57) #[.pointer (some ⟨X, 0, none⟩), .int .i64 (g i 1)] _ (by kernel_rfl) (by kernel_rfl) (by kernel_rfl) (by kernel_rfl) (draw_no (hs.d.below (Below.drewNr (w := V) 1)) (by omega) (g i 1) hn.1 hn.2) ?_
        rintro e V1 ⟨rfl, d1, t1⟩
        have t1 := hHeld.trans t1 (fun q hq => .inl hq)
        refine ⟨_, rfl, t1, fun _ => ?_⟩
        clear hHeld
        have hHeld := t1
        refine held_assign 7 (Go.Operand.tmp 57) (some 10) (.slice none 0 0) (by kernel_rfl) (by kernel_rfl) (by kernel_rfl) (by kernel_rfl) (by kernel_rfl) (fun _ _ _ _ _ h => h) hHeld ?_
        refine wpAnyH_done (by kernel_rfl) ?_ _
        refine NoPanic.normal ?_
        simp only [put_list, List.set_cons_zero, List.set_cons_succ]
        have cL1 := (t1.cell hLbl hL.lbx).trans cL
        have hc11 := (t1.cell (k := bL) hbLl hbLX).trans hc1
        have hEV1 := hE2 V1 (hs.t.and (t1.sub (fun _ hx => .inl (.inr (.inl hx)))))
        have r1 := hs.r.turn t1 (Ne.symm hL.xr) (fun a ha => (hL.a a ha).1)
        have H := rraw_no r1 hEV1 (by omega) (g i 1) hn.1 hn.2
        go_wp2_with fail
        refine H.mono ?_
        intro e V2 hf
        have hfin := Lib.hid (PR.fell (k := 2) hs hL hlt (by decide) t1 d1 hf)
        obtain ⟨bt, rfl, _⟩ := hf
        go_wp2_with fail
        exact ⟨rfl, hfin.out⟩
      · skip
        have HD := draw_ok (hs.d.below (Below.drewNr (w := V) 1)) (by omega) n hp
        rw [← hn] at HD
        have HC := fun V1 (r1 : RdS V1 R A xs p c) => rraw_ok r1 (by omega) n hp
        simp only [← hn] at HC
        clear hn
        go_upto_region 16 with (fail)
        refine wp_region_noPanic ?_
        refine wp_region_held_drew (S := fun Y => Turn (· = X) V Y) (by kernel_rfl) (Turn.of_below (Below.drewNr (w := V) 1)) (fun hHeld => ?_)
        refine held_cell 0 40 (Go.Operand.tmp 3) (some 51) (.pointer (some ⟨Xc, 0, none⟩)) (.pointer (some ⟨X, 0, none⟩)) (by kernel_rfl) (by kernel_rfl) (fun Y hY => load_dp Xc 0 Y _ ((hY.cell (k := Xc) hXcl hL.xcx).trans cXc)) (by kernel_rfl) (by kernel_rfl) (by kernel_rfl) (fun _ _ _ _ _ h => h) hHeld ?_
        refine held_cell 1 22 (Go.Operand.tmp 1) (some 52) (.pointer (some ⟨Lb, 0, none⟩)) (.slice (some ⟨bL, oL, none⟩) len cap) (by kernel_rfl) (by kernel_rfl) (fun Y hY => load_slice Lb 0 Y 22 (fun w => by kernel_rfl) _ ((hY.cell (k := Lb) hLbl hL.lbx).trans cL)) (by kernel_rfl) (by kernel_rfl) (by kernel_rfl) (fun _ _ _ _ _ h => h) hHeld ?_
        refine held_move 2 (Go.Operand.tmp 6) (some 53) (.int .i64 (i : Int)) (by kernel_rfl) (by kernel_rfl) (by kernel_rfl) (by kernel_rfl) (by kernel_rfl) (fun _ _ _ _ _ h => h) hHeld ?_
        refine held_index 3 22 (Go.Operand.tmp 52) (Go.Operand.tmp 53) (some 54) (.slice (some ⟨bL, oL, none⟩) len cap) (.int .i64 (i : Int)) (.pointer (some ⟨bL, oL + i * 2, none⟩)) (by kernel_rfl) (by kernel_rfl) (fun w => idx_doC bL oL len cap i hlt w) (by kernel_rfl) (by kernel_rfl) (by kernel_rfl) (fun _ _ _ _ _ h => h) hHeld ?_
        refine held_field 4 32 (Go.Operand.tmp 54) 1 (some 55) (.pointer (some ⟨bL, oL + i * 2, none⟩)) (.pointer (some ⟨bL, oL + i * 2 + 1, none⟩)) (by kernel_rfl) (by kernel_rfl) (fun w => field_do1 bL _ w) (by kernel_rfl) (by kernel_rfl) (by kernel_rfl) (fun _ _ _ _ _ h => h) hHeld ?_
        refine held_cell 5 3 (Go.Operand.tmp 55) (some 56) (.pointer (some ⟨bL, oL + i * 2 + 1, none⟩)) (.int .i64 (g i 1)) (by kernel_rfl) (by kernel_rfl) (fun Y hY => load_i64 bL (oL + i * 2 + 1) Y _ ((hY.cell (k := bL) hbLl hbLX).trans hc1)) (by kernel_rfl) (by kernel_rfl) (by kernel_rfl) (fun _ _ _ _ _ h => h) hHeld ?_
        refine held_call 6 27 #[Go.Operand.tmp 51, Go.Operand.tmp 56] #[40, 3] (some 57) #[.pointer (some ⟨X, 0, none⟩), .int .i64 (g i 1)] _ (by kernel_rfl) (by kernel_rfl) (by kernel_rfl) (by kernel_rfl) (HD) ?_
        rintro e V1 ⟨v1, rfl, ho1, d1, t1⟩
        obtain ⟨Ad, cd, rfl, _, _, hAd⟩ := own_slice ho1
        have hrd1 := own_read ho1
        have t1 := hHeld.trans t1 (fun q hq => .inl hq)
        have hAR : ∀ a, Ad = some a → ¬ a.block = R := fun a ha => by have h1 : V.heap.size ≤ a.block := (hAd a ha).1; have h2 := hs.r.lt; omega
        clear ho1 hAd
        refine ⟨_, rfl, t1, fun _ => ?_⟩
        clear hHeld
        have hHeld := t1
        refine held_assign 7 (Go.Operand.tmp 57) (some 10) (.slice Ad n cd) (by kernel_rfl) (by kernel_rfl) (by kernel_rfl) (by kernel_rfl) (by kernel_rfl) (fun _ _ _ _ _ h => h) hHeld ?_
        refine wpAnyH_done (by kernel_rfl) ?_ _
        refine NoPanic.normal ?_
        simp only [put_list, List.set_cons_zero, List.set_cons_succ]
        have r1 := hs.r.turn t1 (Ne.symm hL.xr) (fun a ha => (hL.a a ha).1)
        have cL1 := (t1.cell hLbl hL.lbx).trans cL
        have hc11 := (t1.cell (k := bL) hbLl hbLX).trans hc1
        have H := HC V1 r1
        go_wp2_with fail
        refine H.mono ?_
        rintro e V2 ⟨v2, rfl, ho2, r2, t2⟩
        obtain ⟨Ae, ce, rfl, _⟩ := ownsRow_form ho2
        have hSB := same_eq Ae Ad ((xs.drop p).take n) ce cd V2 (own_read ho2) (hrd1.turn t2 (fun _ a ha => hAR a ha)) (by simp; omega)
        rw [show ((xs.drop p).take n).length = n by simp; omega] at hSB
        obtain ⟨q, hq⟩ : ∃ q, q = p + n := ⟨_, rfl⟩
        have d1 : DrS V1 X A0 xs q c0 0 false 0 := by rw [hq]; exact d1
        have r2 : RdS V2 R A xs q c := by rw [hq]; exact r2
        have B2 := hs.go hL t1 d1 t2 r2
        clear H r1 t1 d1 t2 r2 hs hc0 hc1 cL cXc hq ho2 hrd1 hAR hHeld
        go_wp2_with fail
        refine hSB.mono ?_
        rintro e V3 ⟨rfl, mm, rfl⟩
        have B2 := B2.below (Below.drewNr mm)
        generalize V2.drewN mm = V2 at *
        go_upto_region 21 with (fail)
        have hXcl := B2.xc.lt
        have cXc := B2.xc.c
        have u1 := B2.d.r.c1
        have hXl := B2.d.r.lt
        refine wp_region_noPanic ?_
        refine wp_region_held_drew (S := fun Y => Below V2.heap.size V2 Y) (by kernel_rfl) (Below.drewNr (w := V2) 1) (fun hHeld => ?_)
        refine held_move 0 (Go.Operand.tmp 7) (some 85) (.bool true) (by kernel_rfl) (by kernel_rfl) (by kernel_rfl) (by kernel_rfl) (by kernel_rfl) (fun _ _ _ _ _ h => h) hHeld ?_
        refine held_any 1 (Go.Op.unOp Go.UnOp.not 4 (Go.Operand.tmp 85)) (some 86) (.bool false) (by kernel_rfl) (by kernel_rfl) (by kernel_rfl) (by kernel_rfl) (fun _ _ _ _ _ h => h) hHeld (fun oo ho w _ => by unfold execOp; simp only [ho]; kernel_rfl) ?_
        refine held_move 2 (Go.Operand.tmp 86) (some 87) (.bool false) (by kernel_rfl) (by kernel_rfl) (by kernel_rfl) (by kernel_rfl) (by kernel_rfl) (fun _ _ _ _ _ h => h) hHeld ?_
        refine held_cell 3 40 (Go.Operand.tmp 3) (some 88) (.pointer (some ⟨Xc, 0, none⟩)) (.pointer (some ⟨X, 0, none⟩)) (by kernel_rfl) (by kernel_rfl) (fun Y hY => load_dp Xc 0 Y _ ((hY.cell (p := ⟨Xc, 0, none⟩) hXcl).trans cXc)) (by kernel_rfl) (by kernel_rfl) (by kernel_rfl) (fun _ _ _ _ _ h => h) hHeld ?_
        refine held_call 4 33 #[Go.Operand.tmp 88] #[40] (some 89) #[.pointer (some ⟨X, 0, none⟩)] _ (by kernel_rfl) (by kernel_rfl) (by kernel_rfl) (by kernel_rfl) (fine_yes (B2.d.below hHeld) rfl) ?_
        rintro e Y1 ⟨rfl, hbY⟩
        refine ⟨_, rfl, hHeld.trans (hbY.mono hHeld.size), fun hHeld => ?_⟩
        refine held_any 5 (Go.Op.unOp Go.UnOp.not 4 (Go.Operand.tmp 89)) (some 90) (.bool false) (by kernel_rfl) (by kernel_rfl) (by kernel_rfl) (by kernel_rfl) (fun _ _ _ _ _ h => h) hHeld (fun oo ho w _ => by unfold execOp; simp only [ho]; kernel_rfl) ?_
        refine held_pick 6 (Go.Operand.tmp 87) (Go.Operand.const (Go.Value.bool true)) (Go.Operand.tmp 90) (some 91) false (.bool false) (by kernel_rfl) (by kernel_rfl) (by kernel_rfl) (by kernel_rfl) (by kernel_rfl) (by kernel_rfl) (fun _ _ _ _ _ h => h) hHeld ?_
        refine held_move 7 (Go.Operand.tmp 91) (some 92) (.bool false) (by kernel_rfl) (by kernel_rfl) (by kernel_rfl) (by kernel_rfl) (by kernel_rfl) (fun _ _ _ _ _ h => h) hHeld ?_
        refine held_move 8 (Go.Operand.tmp 0) (some 93) (.pointer (some ⟨R, 0, none⟩)) (by kernel_rfl) (by kernel_rfl) (by kernel_rfl) (by kernel_rfl) (by kernel_rfl) (fun _ _ _ _ _ h => h) hHeld ?_
        refine held_cell 10 40 (Go.Operand.tmp 3) (some 95) (.pointer (some ⟨Xc, 0, none⟩)) (.pointer (some ⟨X, 0, none⟩)) (by kernel_rfl) (by kernel_rfl) (fun Y hY => load_dp Xc 0 Y _ ((hY.cell (p := ⟨Xc, 0, none⟩) hXcl).trans cXc)) (by kernel_rfl) (by kernel_rfl) (by kernel_rfl) (fun _ _ _ _ _ h => h) hHeld ?_
        refine held_nil 11 (Go.Operand.tmp 95) (some 96) ⟨X, 0, none⟩ (by kernel_rfl) (by kernel_rfl) (by kernel_rfl) (by kernel_rfl) (by kernel_rfl) (fun _ _ _ _ _ h => h) hHeld ?_
        refine held_field 12 44 (Go.Operand.tmp 96) 1 (some 97) (.pointer (some ⟨X, 0, none⟩)) (.pointer (some ⟨X, 1, none⟩)) (by kernel_rfl) (by kernel_rfl) (fun w => by kernel_rfl) (by kernel_rfl) (by kernel_rfl) (by kernel_rfl) (fun _ _ _ _ _ h => h) hHeld ?_
        refine held_cell 13 3 (Go.Operand.tmp 97) (some 98) (.pointer (some ⟨X, 1, none⟩)) (.int .i64 (q : Int)) (by kernel_rfl) (by kernel_rfl) (fun Y hY => load_i64 X 1 Y _ ((hY.cell (p := ⟨X, 1, none⟩) hXl).trans u1)) (by kernel_rfl) (by kernel_rfl) (by kernel_rfl) (fun _ _ _ _ _ h => h) hHeld ?_
        refine held_call 9 34 #[Go.Operand.tmp 93] #[48] (some 94) #[.pointer (some ⟨R, 0, none⟩)] _ (by kernel_rfl) (by kernel_rfl) (by kernel_rfl) (by kernel_rfl) (rat_any (B2.r.below hHeld)) ?_
        rintro e Y2 ⟨rfl, rfl⟩
        refine ⟨_, rfl, hHeld, fun hHeld => ?_⟩
        refine held_bin 14 Go.BinOp.neq 3 (Go.Operand.tmp 94) (Go.Operand.tmp 98) 3 (some 99) (.int .i64 (q : Int)) (.int .i64 (q : Int)) (.bool false) (by kernel_rfl) (by kernel_rfl) (fun w => neq_int _ _ _ w _ _ _ _ (by simp)) (by kernel_rfl) (by kernel_rfl) (by kernel_rfl) (fun _ _ _ _ _ h => h) hHeld ?_
        refine held_pick 15 (Go.Operand.tmp 92) (Go.Operand.const (Go.Value.bool true)) (Go.Operand.tmp 99) (some 100) false (.bool false) (by kernel_rfl) (by kernel_rfl) (by kernel_rfl) (by kernel_rfl) (by kernel_rfl) (by kernel_rfl) (fun _ _ _ _ _ h => h) hHeld ?_
        refine wpAnyH_done (by kernel_rfl) ?_ _
        refine NoPanic.normal ?_
        simp only [put_list, List.set_cons_zero, List.set_cons_succ]
        have B3 := B2.below hHeld
        have B4 := Lib.hid (B3.next hL)
        have cN := B3.nb.c
        have fN := B3.nb.f
        clear B2 B3 hXcl cXc u1 hXl hHeld
        go_wp2_with fail
        go_roundw
        case rel => exact ⟨i + 1, q, by omega, by go_num, B4.out⟩
        case measure => simp [intOf]; omega
    · have hwd := hx.word p
      rcases (show xs.length < p + 4 ∨ (p + 4 ≤ xs.length ∧ g i 1 < wordI xs p) ∨ (p + 4 ≤ xs.length ∧ wordI xs p ≤ g i 1 ∧ (xs.length : Int) - p - 4 < wordI xs p) ∨ ∃ n : Nat, wordI xs p = n ∧ (n : Int) ≤ g i 1 ∧ p + 4 + n ≤ xs.length by
        by_cases h : xs.length < p + 4
        · exact .inl h
        · by_cases h2 : g i 1 < wordI xs p
          · exact .inr (.inl ⟨by omega, h2⟩)
          · by_cases h3 : (xs.length : Int) - p - 4 < wordI xs p
            · exact .inr (.inr (.inl ⟨by omega, by omega, h3⟩))
            · exact .inr (.inr (.inr ⟨(wordI xs p).toNat, by omega, by omega, by omega⟩))) with hp | ⟨hp, hm⟩ | ⟨hp, hm⟩ | ⟨n, hw, hm, hp⟩
      · go_upto_region 19 with (fail)
        refine wp_region_noPanic ?_
        refine wp_region_held_drew (S := fun Y => Turn (· = X) V Y) (by kernel_rfl) (Turn.of_below (Below.drewNr (w := V) 1)) (fun hHeld => ?_)
        refine held_cell 0 40 (Go.Operand.tmp 3) (some 69) (.pointer (some ⟨Xc, 0, none⟩)) (.pointer (some ⟨X, 0, none⟩)) (by kernel_rfl) (by kernel_rfl) (fun Y hY => load_dp Xc 0 Y _ ((hY.cell (k := Xc) hXcl hL.xcx).trans cXc)) (by kernel_rfl) (by kernel_rfl) (by kernel_rfl) (fun _ _ _ _ _ h => h) hHeld ?_
        refine held_cell 1 22 (Go.Operand.tmp 1) (some 70) (.pointer (some ⟨Lb, 0, none⟩)) (.slice (some ⟨bL, oL, none⟩) len cap) (by kernel_rfl) (by kernel_rfl) (fun Y hY => load_slice Lb 0 Y 22 (fun w => by kernel_rfl) _ ((hY.cell (k := Lb) hLbl hL.lbx).trans cL)) (by kernel_rfl) (by kernel_rfl) (by kernel_rfl) (fun _ _ _ _ _ h => h) hHeld ?_
        refine held_move 2 (Go.Operand.tmp 6) (some 71) (.int .i64 (i : Int)) (by kernel_rfl) (by kernel_rfl) (by kernel_rfl) (by kernel_rfl) (by kernel_rfl) (fun _ _ _ _ _ h => h) hHeld ?_
        refine held_index 3 22 (Go.Operand.tmp 70) (Go.Operand.tmp 71) (some 72) (.slice (some ⟨bL, oL, none⟩) len cap) (.int .i64 (i : Int)) (.pointer (some ⟨bL, oL + i * 2, none⟩)) (by kernel_rfl) (by kernel_rfl) (fun w => idx_doC bL oL len cap i hlt w) (by kernel_rfl) (by kernel_rfl) (by kernel_rfl) (fun _ _ _ _ _ h => h) hHeld ?_
        refine held_field 4 32 (Go.Operand.tmp 72) 1 (some 73) (.pointer (some ⟨bL, oL + i * 2, none⟩)) (.pointer (some ⟨bL, oL + i * 2 + 1, none⟩)) (by kernel_rfl) (by kernel_rfl) (fun w => field_do1 bL _ w) (by kernel_rfl) (by kernel_rfl) (by kernel_rfl) (fun _ _ _ _ _ h => h) hHeld ?_
        refine held_cell 5 3 (Go.Operand.tmp 73) (some 74) (.pointer (some ⟨bL, oL + i * 2 + 1, none⟩)) (.int .i64 (g i 1)) (by kernel_rfl) (by kernel_rfl) (fun Y hY => load_i64 bL (oL + i * 2 + 1) Y _ ((hY.cell (k := bL) hbLl hbLX).trans hc1)) (by kernel_rfl) (by kernel_rfl) (by kernel_rfl) (fun _ _ _ _ _ h => h) hHeld ?_
        refine held_call 6 29 #[Go.Operand.tmp 69, Go.Operand.tmp 74] #[40, 3] (some 75) #[.pointer (some ⟨X, 0, none⟩), .int .i64 (g i 1)] _ (by kernel_rfl) (by kernel_rfl) (by kernel_rfl) (by kernel_rfl) (dlist_no4 (hs.d.below (Below.drewNr (w := V) 1)) (by omega) (g i 1) hp) ?_
        rintro e V1 ⟨rfl, d1, t1⟩
        have t1 := hHeld.trans t1 (fun q hq => .inl hq)
        refine ⟨_, rfl, t1, fun _ => ?_⟩
        clear hHeld
        have hHeld := t1
        refine held_assign 7 (Go.Operand.tmp 75) (some 11) (.slice none 0 0) (by kernel_rfl) (by kernel_rfl) (by kernel_rfl) (by kernel_rfl) (by kernel_rfl) (fun _ _ _ _ _ h => h) hHeld ?_
        refine wpAnyH_done (by kernel_rfl) ?_ _
        refine NoPanic.normal ?_
        simp only [put_list, List.set_cons_zero, List.set_cons_succ]
        have cL1 := (t1.cell hLbl hL.lbx).trans cL
        have hc11 := (t1.cell (k := bL) hbLl hbLX).trans hc1
        have hEV1 := hE2 V1 (hs.t.and (t1.sub (fun _ hx => .inl (.inr (.inl hx)))))
        have r1 := hs.r.turn t1 (Ne.symm hL.xr) (fun a ha => (hL.a a ha).1)
        have H := rlist_no4 r1 hEV1 (by omega) (g i 1) hp
        go_wp2_with fail
        refine H.mono ?_
        intro e V2 hf
        have hfin := Lib.hid (PR.fell (k := 2) hs hL hlt (by decide) t1 d1 hf)
        obtain ⟨bt, rfl, _⟩ := hf
        go_wp2_with fail
        exact ⟨rfl, hfin.out⟩
      · go_upto_region 19 with (fail)
        refine wp_region_noPanic ?_
        refine wp_region_held_drew (S := fun Y => Turn (· = X) V Y) (by kernel_rfl) (Turn.of_below (Below.drewNr (w := V) 1)) (fun hHeld => ?_)
        refine held_cell 0 40 (Go.Operand.tmp 3) (some 69) (.pointer (some ⟨Xc, 0, none⟩)) (.pointer (some ⟨X, 0, none⟩)) (by kernel_rfl) (by kernel_rfl) (fun Y hY => load_dp Xc 0 Y _ ((hY.cell (k := Xc) hXcl hL.xcx).trans cXc)) (by kernel_rfl) (by kernel_rfl) (by kernel_rfl) (fun _ _ _ _ _ h => h) hHeld ?_
        refine held_cell 1 22 (Go.Operand.tmp 1) (some 70) (.pointer (some ⟨Lb, 0, none⟩)) (.slice (some ⟨bL, oL, none⟩) len cap) (by kernel_rfl) (by kernel_rfl) (fun Y hY => load_slice Lb 0 Y 22 (fun w => by kernel_rfl) _ ((hY.cell (k := Lb) hLbl hL.lbx).trans cL)) (by kernel_rfl) (by kernel_rfl) (by kernel_rfl) (fun _ _ _ _ _ h => h) hHeld ?_
        refine held_move 2 (Go.Operand.tmp 6) (some 71) (.int .i64 (i : Int)) (by kernel_rfl) (by kernel_rfl) (by kernel_rfl) (by kernel_rfl) (by kernel_rfl) (fun _ _ _ _ _ h => h) hHeld ?_
        refine held_index 3 22 (Go.Operand.tmp 70) (Go.Operand.tmp 71) (some 72) (.slice (some ⟨bL, oL, none⟩) len cap) (.int .i64 (i : Int)) (.pointer (some ⟨bL, oL + i * 2, none⟩)) (by kernel_rfl) (by kernel_rfl) (fun w => idx_doC bL oL len cap i hlt w) (by kernel_rfl) (by kernel_rfl) (by kernel_rfl) (fun _ _ _ _ _ h => h) hHeld ?_
        refine held_field 4 32 (Go.Operand.tmp 72) 1 (some 73) (.pointer (some ⟨bL, oL + i * 2, none⟩)) (.pointer (some ⟨bL, oL + i * 2 + 1, none⟩)) (by kernel_rfl) (by kernel_rfl) (fun w => field_do1 bL _ w) (by kernel_rfl) (by kernel_rfl) (by kernel_rfl) (fun _ _ _ _ _ h => h) hHeld ?_
        refine held_cell 5 3 (Go.Operand.tmp 73) (some 74) (.pointer (some ⟨bL, oL + i * 2 + 1, none⟩)) (.int .i64 (g i 1)) (by kernel_rfl) (by kernel_rfl) (fun Y hY => load_i64 bL (oL + i * 2 + 1) Y _ ((hY.cell (k := bL) hbLl hbLX).trans hc1)) (by kernel_rfl) (by kernel_rfl) (by kernel_rfl) (fun _ _ _ _ _ h => h) hHeld ?_
        refine held_call 6 29 #[Go.Operand.tmp 69, Go.Operand.tmp 74] #[40, 3] (some 75) #[.pointer (some ⟨X, 0, none⟩), .int .i64 (g i 1)] _ (by kernel_rfl) (by kernel_rfl) (by kernel_rfl) (by kernel_rfl) (dlist_big (hs.d.below (Below.drewNr (w := V) 1)) hx (by omega) (g i 1) hp hm) ?_
        rintro e V1 ⟨rfl, d1, t1⟩
        have t1 := hHeld.trans t1 (fun q hq => .inl hq)
        refine ⟨_, rfl, t1, fun _ => ?_⟩
        clear hHeld
        have hHeld := t1
        refine held_assign 7 (Go.Operand.tmp 75) (some 11) (.slice none 0 0) (by kernel_rfl) (by kernel_rfl) (by kernel_rfl) (by kernel_rfl) (by kernel_rfl) (fun _ _ _ _ _ h => h) hHeld ?_
        refine wpAnyH_done (by kernel_rfl) ?_ _
        refine NoPanic.normal ?_
        simp only [put_list, List.set_cons_zero, List.set_cons_succ]
        have cL1 := (t1.cell hLbl hL.lbx).trans cL
        have hc11 := (t1.cell (k := bL) hbLl hbLX).trans hc1
        have hEV1 := hE2 V1 (hs.t.and (t1.sub (fun _ hx => .inl (.inr (.inl hx)))))
        have r1 := hs.r.turn t1 (Ne.symm hL.xr) (fun a ha => (hL.a a ha).1)
        have H := rlist_big r1 hEV1 hx (by omega) hp (g i 1) hm
        go_wp2_with fail
        refine H.mono ?_
        intro e V2 hf
        have hfin := Lib.hid (PR.fell (k := 1) hs hL hlt (by decide) t1 d1 hf)
        obtain ⟨bt, rfl, _⟩ := hf
        go_wp2_with fail
        exact ⟨rfl, hfin.out⟩
      · go_upto_region 19 with (fail)
        refine wp_region_noPanic ?_
        refine wp_region_held_drew (S := fun Y => Turn (· = X) V Y) (by kernel_rfl) (Turn.of_below (Below.drewNr (w := V) 1)) (fun hHeld => ?_)
        refine held_cell 0 40 (Go.Operand.tmp 3) (some 69) (.pointer (some ⟨Xc, 0, none⟩)) (.pointer (some ⟨X, 0, none⟩)) (by kernel_rfl) (by kernel_rfl) (fun Y hY => load_dp Xc 0 Y _ ((hY.cell (k := Xc) hXcl hL.xcx).trans cXc)) (by kernel_rfl) (by kernel_rfl) (by kernel_rfl) (fun _ _ _ _ _ h => h) hHeld ?_
        refine held_cell 1 22 (Go.Operand.tmp 1) (some 70) (.pointer (some ⟨Lb, 0, none⟩)) (.slice (some ⟨bL, oL, none⟩) len cap) (by kernel_rfl) (by kernel_rfl) (fun Y hY => load_slice Lb 0 Y 22 (fun w => by kernel_rfl) _ ((hY.cell (k := Lb) hLbl hL.lbx).trans cL)) (by kernel_rfl) (by kernel_rfl) (by kernel_rfl) (fun _ _ _ _ _ h => h) hHeld ?_
        refine held_move 2 (Go.Operand.tmp 6) (some 71) (.int .i64 (i : Int)) (by kernel_rfl) (by kernel_rfl) (by kernel_rfl) (by kernel_rfl) (by kernel_rfl) (fun _ _ _ _ _ h => h) hHeld ?_
        refine held_index 3 22 (Go.Operand.tmp 70) (Go.Operand.tmp 71) (some 72) (.slice (some ⟨bL, oL, none⟩) len cap) (.int .i64 (i : Int)) (.pointer (some ⟨bL, oL + i * 2, none⟩)) (by kernel_rfl) (by kernel_rfl) (fun w => idx_doC bL oL len cap i hlt w) (by kernel_rfl) (by kernel_rfl) (by kernel_rfl) (fun _ _ _ _ _ h => h) hHeld ?_
        refine held_field 4 32 (Go.Operand.tmp 72) 1 (some 73) (.pointer (some ⟨bL, oL + i * 2, none⟩)) (.pointer (some ⟨bL, oL + i * 2 + 1, none⟩)) (by kernel_rfl) (by kernel_rfl) (fun w => field_do1 bL _ w) (by kernel_rfl) (by kernel_rfl) (by kernel_rfl) (fun _ _ _ _ _ h => h) hHeld ?_
        refine held_cell 5 3 (Go.Operand.tmp 73) (some 74) (.pointer (some ⟨bL, oL + i * 2 + 1, none⟩)) (.int .i64 (g i 1)) (by kernel_rfl) (by kernel_rfl) (fun Y hY => load_i64 bL (oL + i * 2 + 1) Y _ ((hY.cell (k := bL) hbLl hbLX).trans hc1)) (by kernel_rfl) (by kernel_rfl) (by kernel_rfl) (fun _ _ _ _ _ h => h) hHeld ?_
        refine held_call 6 29 #[Go.Operand.tmp 69, Go.Operand.tmp 74] #[40, 3] (some 75) #[.pointer (some ⟨X, 0, none⟩), .int .i64 (g i 1)] _ (by kernel_rfl) (by kernel_rfl) (by kernel_rfl) (by kernel_rfl) (dlist_long (hs.d.below (Below.drewNr (w := V) 1)) hx (by omega) (g i 1) hp hm) ?_
        rintro e V1 ⟨rfl, d1, t1⟩
        have t1 := hHeld.trans t1 (fun q hq => .inl hq)
        refine ⟨_, rfl, t1, fun _ => ?_⟩
        clear hHeld
        have hHeld := t1
        refine held_assign 7 (Go.Operand.tmp 75) (some 11) (.slice none 0 0) (by kernel_rfl) (by kernel_rfl) (by kernel_rfl) (by kernel_rfl) (by kernel_rfl) (fun _ _ _ _ _ h => h) hHeld ?_
        refine wpAnyH_done (by kernel_rfl) ?_ _
        refine NoPanic.normal ?_
        simp only [put_list, List.set_cons_zero, List.set_cons_succ]
        have cL1 := (t1.cell hLbl hL.lbx).trans cL
        have hc11 := (t1.cell (k := bL) hbLl hbLX).trans hc1
        have hEV1 := hE2 V1 (hs.t.and (t1.sub (fun _ hx => .inl (.inr (.inl hx)))))
        have r1 := hs.r.turn t1 (Ne.symm hL.xr) (fun a ha => (hL.a a ha).1)
        have H := rlist_long r1 hEV1 hx (by omega) hp (g i 1) hm
        go_wp2_with fail
        refine H.mono ?_
        intro e V2 hf
        have hfin := Lib.hid (PR.fell (k := 2) hs hL hlt (by decide) t1 d1 hf)
        obtain ⟨bt, rfl, _⟩ := hf
        go_wp2_with fail
        exact ⟨rfl, hfin.out⟩
      · skip
        go_upto_region 19 with (fail)
        refine wp_region_noPanic ?_
        refine wp_region_held_drew (S := fun Y => Turn (· = X) V Y) (by kernel_rfl) (Turn.of_below (Below.drewNr (w := V) 1)) (fun hHeld => ?_)
        refine held_cell 0 40 (Go.Operand.tmp 3) (some 69) (.pointer (some ⟨Xc, 0, none⟩)) (.pointer (some ⟨X, 0, none⟩)) (by kernel_rfl) (by kernel_rfl) (fun Y hY => load_dp Xc 0 Y _ ((hY.cell (k := Xc) hXcl hL.xcx).trans cXc)) (by kernel_rfl) (by kernel_rfl) (by kernel_rfl) (fun _ _ _ _ _ h => h) hHeld ?_
        refine held_cell 1 22 (Go.Operand.tmp 1) (some 70) (.pointer (some ⟨Lb, 0, none⟩)) (.slice (some ⟨bL, oL, none⟩) len cap) (by kernel_rfl) (by kernel_rfl) (fun Y hY => load_slice Lb 0 Y 22 (fun w => by kernel_rfl) _ ((hY.cell (k := Lb) hLbl hL.lbx).trans cL)) (by kernel_rfl) (by kernel_rfl) (by kernel_rfl) (fun _ _ _ _ _ h => h) hHeld ?_
        refine held_move 2 (Go.Operand.tmp 6) (some 71) (.int .i64 (i : Int)) (by kernel_rfl) (by kernel_rfl) (by kernel_rfl) (by kernel_rfl) (by kernel_rfl) (fun _ _ _ _ _ h => h) hHeld ?_
        refine held_index 3 22 (Go.Operand.tmp 70) (Go.Operand.tmp 71) (some 72) (.slice (some ⟨bL, oL, none⟩) len cap) (.int .i64 (i : Int)) (.pointer (some ⟨bL, oL + i * 2, none⟩)) (by kernel_rfl) (by kernel_rfl) (fun w => idx_doC bL oL len cap i hlt w) (by kernel_rfl) (by kernel_rfl) (by kernel_rfl) (fun _ _ _ _ _ h => h) hHeld ?_
        refine held_field 4 32 (Go.Operand.tmp 72) 1 (some 73) (.pointer (some ⟨bL, oL + i * 2, none⟩)) (.pointer (some ⟨bL, oL + i * 2 + 1, none⟩)) (by kernel_rfl) (by kernel_rfl) (fun w => field_do1 bL _ w) (by kernel_rfl) (by kernel_rfl) (by kernel_rfl) (fun _ _ _ _ _ h => h) hHeld ?_
        refine held_cell 5 3 (Go.Operand.tmp 73) (some 74) (.pointer (some ⟨bL, oL + i * 2 + 1, none⟩)) (.int .i64 (g i 1)) (by kernel_rfl) (by kernel_rfl) (fun Y hY => load_i64 bL (oL + i * 2 + 1) Y _ ((hY.cell (k := bL) hbLl hbLX).trans hc1)) (by kernel_rfl) (by kernel_rfl) (by kernel_rfl) (fun _ _ _ _ _ h => h) hHeld ?_
        refine held_call 6 29 #[Go.Operand.tmp 69, Go.Operand.tmp 74] #[40, 3] (some 75) #[.pointer (some ⟨X, 0, none⟩), .int .i64 (g i 1)] _ (by kernel_rfl) (by kernel_rfl) (by kernel_rfl) (by kernel_rfl) (dlist_ok (hs.d.below (Below.drewNr (w := V) 1)) hx (by omega) n hp (g i 1) hw hm) ?_
        rintro e V1 ⟨v1, rfl, ho1, d1, t1⟩
        obtain ⟨Ad, cd, rfl, _, _, hAd⟩ := own_slice ho1
        have hrd1 := own_read ho1
        have t1 := hHeld.trans t1 (fun q hq => .inl hq)
        have hAR : ∀ a, Ad = some a → ¬ a.block = R := fun a ha => by have h1 : V.heap.size ≤ a.block := (hAd a ha).1; have h2 := hs.r.lt; omega
        clear ho1 hAd
        refine ⟨_, rfl, t1, fun _ => ?_⟩
        clear hHeld
        have hHeld := t1
        refine held_assign 7 (Go.Operand.tmp 75) (some 11) (.slice Ad n cd) (by kernel_rfl) (by kernel_rfl) (by kernel_rfl) (by kernel_rfl) (by kernel_rfl) (fun _ _ _ _ _ h => h) hHeld ?_
        refine wpAnyH_done (by kernel_rfl) ?_ _
        refine NoPanic.normal ?_
        simp only [put_list, List.set_cons_zero, List.set_cons_succ]
        have r1 := hs.r.turn t1 (Ne.symm hL.xr) (fun a ha => (hL.a a ha).1)
        have cL1 := (t1.cell hLbl hL.lbx).trans cL
        have hc11 := (t1.cell (k := bL) hbLl hbLX).trans hc1
        have H := rlist_ok r1 hx (by omega) n hp (g i 1) hw hm
        go_wp2_with fail
        refine H.mono ?_
        rintro e V2 ⟨v2, rfl, ho2, r2, t2⟩
        obtain ⟨Ae, ce, rfl, _⟩ := ownsRow_form ho2
        have hSB := same_eq Ae Ad ((xs.drop (p + 4)).take n) ce cd V2 (own_read ho2) (hrd1.turn t2 (fun _ a ha => hAR a ha)) (by simp; omega)
        rw [show ((xs.drop (p + 4)).take n).length = n by simp; omega] at hSB
        obtain ⟨q, hq⟩ : ∃ q, q = p + 4 + n := ⟨_, rfl⟩
        have d1 : DrS V1 X A0 xs q c0 0 false 0 := by rw [hq]; exact d1
        have r2 : RdS V2 R A xs q c := by rw [hq]; exact r2
        have B2 := hs.go hL t1 d1 t2 r2
        clear H r1 t1 d1 t2 r2 hs hc0 hc1 cL cXc hq ho2 hrd1 hAR hHeld
        go_wp2_with fail
        refine hSB.mono ?_
        rintro e V3 ⟨rfl, mm, rfl⟩
        have B2 := B2.below (Below.drewNr mm)
        generalize V2.drewN mm = V2 at *
        go_upto_region 21 with (fail)
        have hXcl := B2.xc.lt
        have cXc := B2.xc.c
        have u1 := B2.d.r.c1
        have hXl := B2.d.r.lt
        refine wp_region_noPanic ?_
        refine wp_region_held_drew (S := fun Y => Below V2.heap.size V2 Y) (by kernel_rfl) (Below.drewNr (w := V2) 1) (fun hHeld => ?_)
        refine held_move 0 (Go.Operand.tmp 7) (some 85) (.bool true) (by kernel_rfl) (by kernel_rfl) (by kernel_rfl) (by kernel_rfl) (by kernel_rfl) (fun _ _ _ _ _ h => h) hHeld ?_
        refine held_any 1 (Go.Op.unOp Go.UnOp.not 4 (Go.Operand.tmp 85)) (some 86) (.bool false) (by kernel_rfl) (by kernel_rfl) (by kernel_rfl) (by kernel_rfl) (fun _ _ _ _ _ h => h) hHeld (fun oo ho w _ => by unfold execOp; simp only [ho]; kernel_rfl) ?_
        refine held_move 2 (Go.Operand.tmp 86) (some 87) (.bool false) (by kernel_rfl) (by kernel_rfl) (by kernel_rfl) (by kernel_rfl) (by kernel_rfl) (fun _ _ _ _ _ h => h) hHeld ?_
        refine held_cell 3 40 (Go.Operand.tmp 3) (some 88) (.pointer (some ⟨Xc, 0, none⟩)) (.pointer (some ⟨X, 0, none⟩)) (by kernel_rfl) (by kernel_rfl) (fun Y hY => load_dp Xc 0 Y _ ((hY.cell (p := ⟨Xc, 0, none⟩) hXcl).trans cXc)) (by kernel_rfl) (by kernel_rfl) (by kernel_rfl) (fun _ _ _ _ _ h => h) hHeld ?_
        refine held_call 4 33 #[Go.Operand.tmp 88] #[40] (some 89) #[.pointer (some ⟨X, 0, none⟩)] _ (by kernel_rfl) (by kernel_rfl) (by kernel_rfl) (by kernel_rfl) (fine_yes (B2.d.below hHeld) rfl) ?_
        rintro e Y1 ⟨rfl, hbY⟩
        refine ⟨_, rfl, hHeld.trans (hbY.mono hHeld.size), fun hHeld => ?_⟩
        refine held_any 5 (Go.Op.unOp Go.UnOp.not 4 (Go.Operand.tmp 89)) (some 90) (.bool false) (by kernel_rfl) (by kernel_rfl) (by kernel_rfl) (by kernel_rfl) (fun _ _ _ _ _ h => h) hHeld (fun oo ho w _ => by unfold execOp; simp only [ho]; kernel_rfl) ?_
        refine held_pick 6 (Go.Operand.tmp 87) (Go.Operand.const (Go.Value.bool true)) (Go.Operand.tmp 90) (some 91) false (.bool false) (by kernel_rfl) (by kernel_rfl) (by kernel_rfl) (by kernel_rfl) (by kernel_rfl) (by kernel_rfl) (fun _ _ _ _ _ h => h) hHeld ?_
        refine held_move 7 (Go.Operand.tmp 91) (some 92) (.bool false) (by kernel_rfl) (by kernel_rfl) (by kernel_rfl) (by kernel_rfl) (by kernel_rfl) (fun _ _ _ _ _ h => h) hHeld ?_
        refine held_move 8 (Go.Operand.tmp 0) (some 93) (.pointer (some ⟨R, 0, none⟩)) (by kernel_rfl) (by kernel_rfl) (by kernel_rfl) (by kernel_rfl) (by kernel_rfl) (fun _ _ _ _ _ h => h) hHeld ?_
        refine held_cell 10 40 (Go.Operand.tmp 3) (some 95) (.pointer (some ⟨Xc, 0, none⟩)) (.pointer (some ⟨X, 0, none⟩)) (by kernel_rfl) (by kernel_rfl) (fun Y hY => load_dp Xc 0 Y _ ((hY.cell (p := ⟨Xc, 0, none⟩) hXcl).trans cXc)) (by kernel_rfl) (by kernel_rfl) (by kernel_rfl) (fun _ _ _ _ _ h => h) hHeld ?_
        refine held_nil 11 (Go.Operand.tmp 95) (some 96) ⟨X, 0, none⟩ (by kernel_rfl) (by kernel_rfl) (by kernel_rfl) (by kernel_rfl) (by kernel_rfl) (fun _ _ _ _ _ h => h) hHeld ?_
        refine held_field 12 44 (Go.Operand.tmp 96) 1 (some 97) (.pointer (some ⟨X, 0, none⟩)) (.pointer (some ⟨X, 1, none⟩)) (by kernel_rfl) (by kernel_rfl) (fun w => by kernel_rfl) (by kernel_rfl) (by kernel_rfl) (by kernel_rfl) (fun _ _ _ _ _ h => h) hHeld ?_
        refine held_cell 13 3 (Go.Operand.tmp 97) (some 98) (.pointer (some ⟨X, 1, none⟩)) (.int .i64 (q : Int)) (by kernel_rfl) (by kernel_rfl) (fun Y hY => load_i64 X 1 Y _ ((hY.cell (p := ⟨X, 1, none⟩) hXl).trans u1)) (by kernel_rfl) (by kernel_rfl) (by kernel_rfl) (fun _ _ _ _ _ h => h) hHeld ?_
        refine held_call 9 34 #[Go.Operand.tmp 93] #[48] (some 94) #[.pointer (some ⟨R, 0, none⟩)] _ (by kernel_rfl) (by kernel_rfl) (by kernel_rfl) (by kernel_rfl) (rat_any (B2.r.below hHeld)) ?_
        rintro e Y2 ⟨rfl, rfl⟩
        refine ⟨_, rfl, hHeld, fun hHeld => ?_⟩
        refine held_bin 14 Go.BinOp.neq 3 (Go.Operand.tmp 94) (Go.Operand.tmp 98) 3 (some 99) (.int .i64 (q : Int)) (.int .i64 (q : Int)) (.bool false) (by kernel_rfl) (by kernel_rfl) (fun w => neq_int _ _ _ w _ _ _ _ (by simp)) (by kernel_rfl) (by kernel_rfl) (by kernel_rfl) (fun _ _ _ _ _ h => h) hHeld ?_
        refine held_pick 15 (Go.Operand.tmp 92) (Go.Operand.const (Go.Value.bool true)) (Go.Operand.tmp 99) (some 100) false (.bool false) (by kernel_rfl) (by kernel_rfl) (by kernel_rfl) (by kernel_rfl) (by kernel_rfl) (by kernel_rfl) (fun _ _ _ _ _ h => h) hHeld ?_
        refine wpAnyH_done (by kernel_rfl) ?_ _
        refine NoPanic.normal ?_
        simp only [put_list, List.set_cons_zero, List.set_cons_succ]
        have B3 := B2.below hHeld
        have B4 := Lib.hid (B3.next hL)
        have cN := B3.nb.c
        have fN := B3.nb.f
        clear B2 B3 hXcl cXc u1 hXl hHeld
        go_wp2_with fail
        go_roundw
        case rel => exact ⟨i + 1, q, by omega, by go_num, B4.out⟩
        case measure => simp [intOf]; omega
    · have hb0 := hx.at_ p
      rcases (show xs.length ≤ p ∨ (p < xs.length ∧ byteI xs p = 0) ∨ (p < xs.length ∧ byteI xs p = 1) ∨ (p < xs.length ∧ 2 ≤ byteI xs p) by omega) with hp | ⟨hp, hv⟩ | ⟨hp, hv⟩ | ⟨hp, hv⟩
      · -- short
        go_wp2_with fail
        refine (dbool_no hs.d (by omega) hp).mono ?_
        rintro e V1 ⟨rfl, d1, t1⟩
        have hEV1 := hE2 V1 (hs.t.and (t1.sub (fun _ hx => .inl (.inr (.inl hx)))))
        have r1 := hs.r.turn t1 (Ne.symm hL.xr) (fun a ha => (hL.a a ha).1)
        have H := rbool_no r1 hEV1 (by omega) hp
        go_wp2_with fail
        refine H.mono ?_
        intro e V2 hf
        have hfin := Lib.hid (PR.fell (k := 2) hs hL hlt (by decide) t1 d1 hf)
        obtain ⟨bt, rfl, _⟩ := hf
        go_wp2_with fail
        exact ⟨rfl, hfin.out⟩
      · go_wp2_with fail
        refine (dbool_0 hs.d hx (by omega) hp hv).mono ?_
        rintro e V1 ⟨rfl, d1, t1⟩
        have r1 := hs.r.turn t1 (Ne.symm hL.xr) (fun a ha => (hL.a a ha).1)
        have H := rbool_0 r1 hx (by omega) hp hv
        go_wp2_with fail
        refine H.mono ?_
        rintro e V2 ⟨rfl, r2, t2⟩
        obtain ⟨q, hq⟩ : ∃ q, q = p + 1 := ⟨_, rfl⟩
        rw [← hq] at d1 r2
        have B2 := hs.go hL t1 d1 t2 r2
        clear hv hb0 H r1 t1 d1 t2 r2 hs hc0 hc1 cL cXc hq
        go_upto_region 21 with (fail)
        have hXcl := B2.xc.lt
        have cXc := B2.xc.c
        have u1 := B2.d.r.c1
        have hXl := B2.d.r.lt
        refine wp_region_noPanic ?_
        refine wp_region_held_drew (S := fun Y => Below V2.heap.size V2 Y) (by kernel_rfl) (Below.drewNr (w := V2) 1) (fun hHeld => ?_)
        refine held_move 0 (Go.Operand.tmp 7) (some 85) (.bool true) (by kernel_rfl) (by kernel_rfl) (by kernel_rfl) (by kernel_rfl) (by kernel_rfl) (fun _ _ _ _ _ h => h) hHeld ?_
        refine held_any 1 (Go.Op.unOp Go.UnOp.not 4 (Go.Operand.tmp 85)) (some 86) (.bool false) (by kernel_rfl) (by kernel_rfl) (by kernel_rfl) (by kernel_rfl) (fun _ _ _ _ _ h => h) hHeld (fun oo ho w _ => by unfold execOp; simp only [ho]; kernel_rfl) ?_
        refine held_move 2 (Go.Operand.tmp 86) (some 87) (.bool false) (by kernel_rfl) (by kernel_rfl) (by kernel_rfl) (by kernel_rfl) (by kernel_rfl) (fun _ _ _ _ _ h => h) hHeld ?_
        refine held_cell 3 40 (Go.Operand.tmp 3) (some 88) (.pointer (some ⟨Xc, 0, none⟩)) (.pointer (some ⟨X, 0, none⟩)) (by kernel_rfl) (by kernel_rfl) (fun Y hY => load_dp Xc 0 Y _ ((hY.cell (p := ⟨Xc, 0, none⟩) hXcl).trans cXc)) (by kernel_rfl) (by kernel_rfl) (by kernel_rfl) (fun _ _ _ _ _ h => h) hHeld ?_
        refine held_call 4 33 #[Go.Operand.tmp 88] #[40] (some 89) #[.pointer (some ⟨X, 0, none⟩)] _ (by kernel_rfl) (by kernel_rfl) (by kernel_rfl) (by kernel_rfl) (fine_yes (B2.d.below hHeld) rfl) ?_
        rintro e Y1 ⟨rfl, hbY⟩
        refine ⟨_, rfl, hHeld.trans (hbY.mono hHeld.size), fun hHeld => ?_⟩
        refine held_any 5 (Go.Op.unOp Go.UnOp.not 4 (Go.Operand.tmp 89)) (some 90) (.bool false) (by kernel_rfl) (by kernel_rfl) (by kernel_rfl) (by kernel_rfl) (fun _ _ _ _ _ h => h) hHeld (fun oo ho w _ => by unfold execOp; simp only [ho]; kernel_rfl) ?_
        refine held_pick 6 (Go.Operand.tmp 87) (Go.Operand.const (Go.Value.bool true)) (Go.Operand.tmp 90) (some 91) false (.bool false) (by kernel_rfl) (by kernel_rfl) (by kernel_rfl) (by kernel_rfl) (by kernel_rfl) (by kernel_rfl) (fun _ _ _ _ _ h => h) hHeld ?_
        refine held_move 7 (Go.Operand.tmp 91) (some 92) (.bool false) (by kernel_rfl) (by kernel_rfl) (by kernel_rfl) (by kernel_rfl) (by kernel_rfl) (fun _ _ _ _ _ h => h) hHeld ?_
        refine held_move 8 (Go.Operand.tmp 0) (some 93) (.pointer (some ⟨R, 0, none⟩)) (by kernel_rfl) (by kernel_rfl) (by kernel_rfl) (by kernel_rfl) (by kernel_rfl) (fun _ _ _ _ _ h => h) hHeld ?_
        refine held_cell 10 40 (Go.Operand.tmp 3) (some 95) (.pointer (some ⟨Xc, 0, none⟩)) (.pointer (some ⟨X, 0, none⟩)) (by kernel_rfl) (by kernel_rfl) (fun Y hY => load_dp Xc 0 Y _ ((hY.cell (p := ⟨Xc, 0, none⟩) hXcl).trans cXc)) (by kernel_rfl) (by kernel_rfl) (by kernel_rfl) (fun _ _ _ _ _ h => h) hHeld ?_
        refine held_nil 11 (Go.Operand.tmp 95) (some 96) ⟨X, 0, none⟩ (by kernel_rfl) (by kernel_rfl) (by kernel_rfl) (by kernel_rfl) (by kernel_rfl) (fun _ _ _ _ _ h => h) hHeld ?_
        refine held_field 12 44 (Go.Operand.tmp 96) 1 (some 97) (.pointer (some ⟨X, 0, none⟩)) (.pointer (some ⟨X, 1, none⟩)) (by kernel_rfl) (by kernel_rfl) (fun w => by kernel_rfl) (by kernel_rfl) (by kernel_rfl) (by kernel_rfl) (fun _ _ _ _ _ h => h) hHeld ?_
        refine held_cell 13 3 (Go.Operand.tmp 97) (some 98) (.pointer (some ⟨X, 1, none⟩)) (.int .i64 (q : Int)) (by kernel_rfl) (by kernel_rfl) (fun Y hY => load_i64 X 1 Y _ ((hY.cell (p := ⟨X, 1, none⟩) hXl).trans u1)) (by kernel_rfl) (by kernel_rfl) (by kernel_rfl) (fun _ _ _ _ _ h => h) hHeld ?_
        refine held_call 9 34 #[Go.Operand.tmp 93] #[48] (some 94) #[.pointer (some ⟨R, 0, none⟩)] _ (by kernel_rfl) (by kernel_rfl) (by kernel_rfl) (by kernel_rfl) (rat_any (B2.r.below hHeld)) ?_
        rintro e Y2 ⟨rfl, rfl⟩
        refine ⟨_, rfl, hHeld, fun hHeld => ?_⟩
        refine held_bin 14 Go.BinOp.neq 3 (Go.Operand.tmp 94) (Go.Operand.tmp 98) 3 (some 99) (.int .i64 (q : Int)) (.int .i64 (q : Int)) (.bool false) (by kernel_rfl) (by kernel_rfl) (fun w => neq_int _ _ _ w _ _ _ _ (by simp)) (by kernel_rfl) (by kernel_rfl) (by kernel_rfl) (fun _ _ _ _ _ h => h) hHeld ?_
        refine held_pick 15 (Go.Operand.tmp 92) (Go.Operand.const (Go.Value.bool true)) (Go.Operand.tmp 99) (some 100) false (.bool false) (by kernel_rfl) (by kernel_rfl) (by kernel_rfl) (by kernel_rfl) (by kernel_rfl) (by kernel_rfl) (fun _ _ _ _ _ h => h) hHeld ?_
        refine wpAnyH_done (by kernel_rfl) ?_ _
        refine NoPanic.normal ?_
        simp only [put_list, List.set_cons_zero, List.set_cons_succ]
        have B3 := B2.below hHeld
        have B4 := Lib.hid (B3.next hL)
        have cN := B3.nb.c
        have fN := B3.nb.f
        clear B2 B3 hXcl cXc u1 hXl hHeld
        go_wp2_with fail
        go_roundw
        case rel => exact ⟨i + 1, q, by omega, by go_num, B4.out⟩
        case measure => simp [intOf]; omega
      · go_wp2_with fail
        refine (dbool_1 hs.d hx (by omega) hp hv).mono ?_
        rintro e V1 ⟨rfl, d1, t1⟩
        have r1 := hs.r.turn t1 (Ne.symm hL.xr) (fun a ha => (hL.a a ha).1)
        have H := rbool_1 r1 hx (by omega) hp hv
        go_wp2_with fail
        refine H.mono ?_
        rintro e V2 ⟨rfl, r2, t2⟩
        obtain ⟨q, hq⟩ : ∃ q, q = p + 1 := ⟨_, rfl⟩
        rw [← hq] at d1 r2
        have B2 := hs.go hL t1 d1 t2 r2
        clear hv hb0 H r1 t1 d1 t2 r2 hs hc0 hc1 cL cXc hq
        go_upto_region 21 with (fail)
        have hXcl := B2.xc.lt
        have cXc := B2.xc.c
        have u1 := B2.d.r.c1
        have hXl := B2.d.r.lt
        refine wp_region_noPanic ?_
        refine wp_region_held_drew (S := fun Y => Below V2.heap.size V2 Y) (by kernel_rfl) (Below.drewNr (w := V2) 1) (fun hHeld => ?_)
        refine held_move 0 (Go.Operand.tmp 7) (some 85) (.bool true) (by kernel_rfl) (by kernel_rfl) (by kernel_rfl) (by kernel_rfl) (by kernel_rfl) (fun _ _ _ _ _ h => h) hHeld ?_
        refine held_any 1 (Go.Op.unOp Go.UnOp.not 4 (Go.Operand.tmp 85)) (some 86) (.bool false) (by kernel_rfl) (by kernel_rfl) (by kernel_rfl) (by kernel_rfl) (fun _ _ _ _ _ h => h) hHeld (fun oo ho w _ => by unfold execOp; simp only [ho]; kernel_rfl) ?_
        refine held_move 2 (Go.Operand.tmp 86) (some 87) (.bool false) (by kernel_rfl) (by kernel_rfl) (by kernel_rfl) (by kernel_rfl) (by kernel_rfl) (fun _ _ _ _ _ h => h) hHeld ?_
        refine held_cell 3 40 (Go.Operand.tmp 3) (some 88) (.pointer (some ⟨Xc, 0, none⟩)) (.pointer (some ⟨X, 0, none⟩)) (by kernel_rfl) (by kernel_rfl) (fun Y hY => load_dp Xc 0 Y _ ((hY.cell (p := ⟨Xc, 0, none⟩) hXcl).trans cXc)) (by kernel_rfl) (by kernel_rfl) (by kernel_rfl) (fun _ _ _ _ _ h => h) hHeld ?_
        refine held_call 4 33 #[Go.Operand.tmp 88] #[40] (some 89) #[.pointer (some ⟨X, 0, none⟩)] _ (by kernel_rfl) (by kernel_rfl) (by kernel_rfl) (by kernel_rfl) (fine_yes (B2.d.below hHeld) rfl) ?_
        rintro e Y1 ⟨rfl, hbY⟩
        refine ⟨_, rfl, hHeld.trans (hbY.mono hHeld.size), fun hHeld => ?_⟩
        refine held_any 5 (Go.Op.unOp Go.UnOp.not 4 (Go.Operand.tmp 89)) (some 90) (.bool false) (by kernel_rfl) (by kernel_rfl) (by kernel_rfl) (by kernel_rfl) (fun _ _ _ _ _ h => h) hHeld (fun oo ho w _ => by unfold execOp; simp only [ho]; kernel_rfl) ?_
        refine held_pick 6 (Go.Operand.tmp 87) (Go.Operand.const (Go.Value.bool true)) (Go.Operand.tmp 90) (some 91) false (.bool false) (by kernel_rfl) (by kernel_rfl) (by kernel_rfl) (by kernel_rfl) (by kernel_rfl) (by kernel_rfl) (fun _ _ _ _ _ h => h) hHeld ?_
        refine held_move 7 (Go.Operand.tmp 91) (some 92) (.bool false) (by kernel_rfl) (by kernel_rfl) (by kernel_rfl) (by kernel_rfl) (by kernel_rfl) (fun _ _ _ _ _ h => h) hHeld ?_
        refine held_move 8 (Go.Operand.tmp 0) (some 93) (.pointer (some ⟨R, 0, none⟩)) (by kernel_rfl) (by kernel_rfl) (by kernel_rfl) (by kernel_rfl) (by kernel_rfl) (fun _ _ _ _ _ h => h) hHeld ?_
        refine held_cell 10 40 (Go.Operand.tmp 3) (some 95) (.pointer (some ⟨Xc, 0, none⟩)) (.pointer (some ⟨X, 0, none⟩)) (by kernel_rfl) (by kernel_rfl) (fun Y hY => load_dp Xc 0 Y _ ((hY.cell (p := ⟨Xc, 0, none⟩) hXcl).trans cXc)) (by kernel_rfl) (by kernel_rfl) (by kernel_rfl) (fun _ _ _ _ _ h => h) hHeld ?_
        refine held_nil 11 (Go.Operand.tmp 95) (some 96) ⟨X, 0, none⟩ (by kernel_rfl) (by kernel_rfl) (by kernel_rfl) (by kernel_rfl) (by kernel_rfl) (fun _ _ _ _ _ h => h) hHeld ?_
        refine held_field 12 44 (Go.Operand.tmp 96) 1 (some 97) (.pointer (some ⟨X, 0, none⟩)) (.pointer (some ⟨X, 1, none⟩)) (by kernel_rfl) (by kernel_rfl) (fun w => by kernel_rfl) (by kernel_rfl) (by kernel_rfl) (by kernel_rfl) (fun _ _ _ _ _ h => h) hHeld ?_
        refine held_cell 13 3 (Go.Operand.tmp 97) (some 98) (.pointer (some ⟨X, 1, none⟩)) (.int .i64 (q : Int)) (by kernel_rfl) (by kernel_rfl) (fun Y hY => load_i64 X 1 Y _ ((hY.cell (p := ⟨X, 1, none⟩) hXl).trans u1)) (by kernel_rfl) (by kernel_rfl) (by kernel_rfl) (fun _ _ _ _ _ h => h) hHeld ?_
        refine held_call 9 34 #[Go.Operand.tmp 93] #[48] (some 94) #[.pointer (some ⟨R, 0, none⟩)] _ (by kernel_rfl) (by kernel_rfl) (by kernel_rfl) (by kernel_rfl) (rat_any (B2.r.below hHeld)) ?_
        rintro e Y2 ⟨rfl, rfl⟩
        refine ⟨_, rfl, hHeld, fun hHeld => ?_⟩
        refine held_bin 14 Go.BinOp.neq 3 (Go.Operand.tmp 94) (Go.Operand.tmp 98) 3 (some 99) (.int .i64 (q : Int)) (.int .i64 (q : Int)) (.bool false) (by kernel_rfl) (by kernel_rfl) (fun w => neq_int _ _ _ w _ _ _ _ (by simp)) (by kernel_rfl) (by kernel_rfl) (by kernel_rfl) (fun _ _ _ _ _ h => h) hHeld ?_
        refine held_pick 15 (Go.Operand.tmp 92) (Go.Operand.const (Go.Value.bool true)) (Go.Operand.tmp 99) (some 100) false (.bool false) (by kernel_rfl) (by kernel_rfl) (by kernel_rfl) (by kernel_rfl) (by kernel_rfl) (by kernel_rfl) (fun _ _ _ _ _ h => h) hHeld ?_
        refine wpAnyH_done (by kernel_rfl) ?_ _
        refine NoPanic.normal ?_
        simp only [put_list, List.set_cons_zero, List.set_cons_succ]
        have B3 := B2.below hHeld
        have B4 := Lib.hid (B3.next hL)
        have cN := B3.nb.c
        have fN := B3.nb.f
        clear B2 B3 hXcl cXc u1 hXl hHeld
        go_wp2_with fail
        go_roundw
        case rel => exact ⟨i + 1, q, by omega, by go_num, B4.out⟩
        case measure => simp [intOf]; omega
      · -- form
        go_wp2_with fail
        refine (dbool_form hs.d hx (by omega) hp hv).mono ?_
        rintro e V1 ⟨rfl, d1, t1⟩
        have hEV1 := hE2 V1 (hs.t.and (t1.sub (fun _ hx => .inl (.inr (.inl hx)))))
        have r1 := hs.r.turn t1 (Ne.symm hL.xr) (fun a ha => (hL.a a ha).1)
        have H := rbool_form r1 hEV1 (by omega) hp hv
        go_wp2_with fail
        refine H.mono ?_
        intro e V2 hf
        have hfin := Lib.hid (PR.fell (k := 4) hs hL hlt (by decide) t1 d1 hf)
        obtain ⟨bt, rfl, _⟩ := hf
        go_wp2_with fail
        exact ⟨rfl, hfin.out⟩
end Go.Proofs.YtjgjaefbbhffbaaDoor
