import Derived.Test.YtjgjaefbbhffbaaDoorCot
import Derived.Test.YtjgjaefbbhffbaaDoorCog
import Derived.Test.YtjgjaefbbhffbaaDoorCol
import Derived.Test.YtjgjaefbbhffbaaDoorCow
/-
  CodeBack's function within.
-/
namespace Go.Proofs.YtjgjaefbbhffbaaDoor
open Go.RowKit

theorem load_u32k (b o : Nat) (w : World) (v : Value) (h : w.cell? ⟨b, o, none⟩ = some v) : (Instr.loadAt 35 (.pointer (some ⟨b, o, none⟩))).run Tryd.prog w = .ok v w := by
  have h2 := Tryd.underlying35
  go_simp
theorem idx_ss (b o n c i : Nat) (hi : i < n) (w : World) : (Instr.indexAt 56 (.slice (some ⟨b, o, none⟩) n c) (.int .i64 (i : Int))).run Tryd.prog w = .ok (.pointer (some ⟨b, o + i, none⟩)) w := by
  have h := idx_slice 56 23 1 Tryd.underlying56 (fun w => by kernel_rfl) b o n c i hi w
  rwa [Nat.mul_one] at h
/-- what CodeBack writes: the first i lists -/
def pre (h : List Int) (f : Nat → Option Addr × List Int × Nat) : Nat → List Int
  | 0 => h
  | i + 1 => pre h f i ++ (lstI (f i).2.1 ++ (f i).2.1)
theorem pre_split (h : List Int) (f : Nat → Option Addr × List Int × Nat) (i : Nat) : ∀ k, ∃ r, pre h f (i + k) = pre h f i ++ r
  | 0 => ⟨[], by simp⟩
  | k + 1 => by
    obtain ⟨r, hr⟩ := pre_split h f i k
    exact ⟨r ++ (lstI (f (i + k)).2.1 ++ (f (i + k)).2.1), by rw [← Nat.add_assoc]; show pre h f (i + k) ++ _ = _; rw [hr, List.append_assoc]⟩
/-- one reads as the other, as far as both go -/
def Agree (ys xs : List Int) : Prop := ∀ j, j < ys.length → j < xs.length → ys[j]? = xs[j]?
theorem Agree.cut {ys a s r : List Int} (h : Agree ys (a ++ (s ++ r))) (hl : a.length + s.length ≤ ys.length) : (ys.drop a.length).take s.length = s := by
  refine List.ext_getElem? fun j => ?_
  rw [List.getElem?_take]
  by_cases hj : j < s.length
  · rw [if_pos hj, List.getElem?_drop, h (a.length + j) (by omega) (by simp; omega), List.getElem?_append_right (by omega), List.getElem?_append_left (by omega)]
    congr 1
    omega
  · rw [if_neg hj, List.getElem?_eq_none (by omega)]
theorem word_cut (ys : List Int) (p : Nat) (m : Int) (hm : 0 ≤ m ∧ m < 4294967296) (h : (ys.drop p).take 4 = le4 m) : wordI ys p = m := by
  have h1 : wordI ((ys.drop p).take 4) 0 = wordI ys p := by
    unfold wordI
    rw [byteI_cut _ _ _ _ (by omega), byteI_cut _ _ _ _ (by omega), byteI_cut _ _ _ _ (by omega), byteI_cut _ _ _ _ (by omega)]
    rfl
  rw [← h1, h]
  show m % 256 + m / 256 % 256 * 256 + m / 65536 % 256 * 65536 + m / 16777216 % 256 * 16777216 = m
  omega
/-- all that the loop keeps -/
structure CBS (w : World) (Gd Nc Lb R : Nat) (AL : Option Addr) (len cap : Nat) (f : Nat → Option Addr × List Int × Nat) (n : Int) (A : Option Addr) (ys : List Int) (c p : Nat) (V : World) : Prop where
  gd : VarS V Gd (.bool true)
  nc : VarS V Nc (.int .u32 n)
  l : VarS V Lb (.slice AL len cap)
  ss : SsRead V AL len f
  r : RdS V R A ys p c
  t : Turn (fun q => q = Gd ∨ q = R) w V
theorem SsRead.turn {F : Nat → Prop} {w w' : World} {A : Option Addr} {len : Nat} {f : Nat → Option Addr × List Int × Nat} (h : SsRead w A len f) (ht : Turn F w w') (hA : 0 < len → ∀ a, A = some a → ¬ F a.block) (hB : ∀ i, i < len → 0 < (f i).2.1.length → ∀ a, (f i).1 = some a → ¬ F a.block) : SsRead w' A len f := fun hl => by
  obtain ⟨b, o, e, hlt, hc⟩ := h hl
  exact ⟨b, o, e, Nat.lt_of_lt_of_le hlt ht.size, fun i hi => ⟨(ht.cell hlt (hA hl _ e)).trans (hc i hi).1, (hc i hi).2.turn ht (fun h0 => hB i hi (by simpa using h0))⟩⟩
theorem CBS.turn {w V V' : World} {Gd Nc Lb R : Nat} {AL : Option Addr} {len cap : Nat} {f : Nat → Option Addr × List Int × Nat} {n : Int} {A : Option Addr} {ys : List Int} {c p q : Nat} (h : CBS w Gd Nc Lb R AL len cap f n A ys c p V)
    (hNc : ¬ Nc = Gd ∧ ¬ Nc = R) (hLb : ¬ Lb = Gd ∧ ¬ Lb = R) (hAL : 0 < len → ∀ a, AL = some a → ¬ a.block = Gd ∧ ¬ a.block = R) (hfl : ∀ i, i < len → ∀ a, 0 < (f i).2.1.length → (f i).1 = some a → ¬ a.block = Gd ∧ ¬ a.block = R)
    (ht : Turn (fun q => q = Gd ∨ q = R) V V') (hg : VarS V' Gd (.bool true)) (hr : RdS V' R A ys q c) : CBS w Gd Nc Lb R AL len cap f n A ys c q V' :=
  ⟨hg, h.nc.turn ht (fun hh => hh.elim hNc.1 hNc.2), h.l.turn ht (fun hh => hh.elim hLb.1 hLb.2), h.ss.turn ht (fun h0 a ha hh => hh.elim (hAL h0 a ha).1 (hAL h0 a ha).2) (fun i hi h0 a ha hh => hh.elim (hfl i hi a h0 ha).1 (hfl i hi a h0 ha).2), hr, h.t.and ht⟩
/-- what CodeBack knows behind read -/
def PK (Gd : Nat) (xl yl : Nat) (o : Option (Nat × Int)) (V : World) : Prop :=
  VarS V Gd (.bool true) ∧ ((xl ≤ yl ∧ o = if xl < yl then some (3, (xl : Int)) else none) ∨ (yl < xl ∧ ∃ z, o = some (2, z)))
theorem CBS.fell {E : Nat → Addr} {w V V1 V2 : World} {Gd Nc Lb R : Nat} {AL : Option Addr} {len cap : Nat} {f : Nat → Option Addr × List Int × Nat} {n : Int} {A : Option Addr} {ys : List Int} {c p xl : Nat} {z : Int} {e : Ending} (h : CBS w Gd Nc Lb R AL len cap f n A ys c p V) (hy : ys.length < xl)
    (t1 : Turn (fun q => q = Gd ∨ q = R) V V1) (g1 : VarS V1 Gd (.bool true)) (hf : FellAt E V1 2 z e V2) : ∃ o, Turn (fun q => q = Gd ∨ q = R) w V2 ∧ EndsAs E R A ys c w.heap.size o e V2 ∧ PK Gd xl ys.length o V2 :=
  ⟨_, (h.t.and t1).and (Turn.of_below hf.below), EndsAs.fell hf (by decide) (Nat.le_trans h.t.size t1.size), g1.below hf.below, .inr ⟨hy, z, rfl⟩⟩
set_option maxRecDepth 100000 in
set_option maxHeartbeats 12800000 in
theorem back1_any {E : Nat → Addr} {w : World} {Gd Nc Lb R : Nat} {AL : Option Addr} {len cap : Nat} {f : Nat → Option Addr × List Int × Nat} {n : Int} {A : Option Addr} {xs ys : List Int} {c : Nat} (hs0 : CBS w Gd Nc Lb R AL len cap f n A ys c 0 w)
    (hGR : ¬ Gd = R) (hNc : ¬ Nc = Gd ∧ ¬ Nc = R) (hLb : ¬ Lb = Gd ∧ ¬ Lb = R) (hAL : 0 < len → ∀ a, AL = some a → ¬ a.block = Gd ∧ ¬ a.block = R) (hfl : ∀ i, i < len → ∀ a, 0 < (f i).2.1.length → (f i).1 = some a → ¬ a.block = Gd ∧ ¬ a.block = R) (hA : ∀ a, A = some a → ¬ a.block = Gd)
    (hE2 : ∀ V, Turn (fun q => q = Gd ∨ q = R) w V → ErrsAt E V) (hyb : Byts ys) (hyl : ys.length ≤ 100000) (hxs : xs = pre (le4 n ++ [(len : Int)]) f len) (hag : Agree ys xs) (hl20 : len ≤ 20) (h30 : ∀ i, i < len → (f i).2.1.length ≤ 30) (hn : 0 ≤ n ∧ n < 4294967296) :
    Calls Tryd.prog 37 #[.pointer (some ⟨R, 0, none⟩), .pointer (some ⟨Gd, 0, none⟩), .pointer (some ⟨Nc, 0, none⟩), .pointer (some ⟨Lb, 0, none⟩)] w fun e w2 => ∃ o, Turn (fun q => q = Gd ∨ q = R) w w2 ∧ EndsAs E R A ys c w.heap.size o e w2 ∧ PK Gd xs.length ys.length o w2 := by
  have hE := hE2 w (Turn.of_below (Below.refl _ _))
  obtain ⟨r0, hr0⟩ := pre_split (le4 n ++ [(len : Int)]) f 0 len
  rw [Nat.zero_add] at hr0
  have hx5 : 5 ≤ xs.length := by rw [hxs, hr0]; simp [pre, le4]
  have hag0 : Agree ys ([] ++ (le4 n ++ ([(len : Int)] ++ r0))) := by
    have : xs = [] ++ (le4 n ++ ([(len : Int)] ++ r0)) := by rw [hxs, hr0]; simp [pre]
    rw [← this]; exact hag
  have hag4 : Agree ys (le4 n ++ ([(len : Int)] ++ r0)) := by simpa using hag0
  have HX := Lib.hid (And.intro hxs hr0)
  clear hxs hr0
  go_enter Tryd.func37, Tryd.ntmps37
  go_upto_region 2 with (fail)
  have hs := hs0
  by_cases hy4 : ys.length < 4
  · skip
    refine wp_region_held_drew (S := fun Y => Turn (fun q => q = Gd ∨ q = R) w Y ∧ VarS Y Gd (.bool true)) (by kernel_rfl) (⟨Turn.of_below (Below.drewNr (w := w) 1), hs.gd.below (Below.drewNr (w := w) 1)⟩) (fun hHeld => ?_)
    refine held_cell 0 4 (Go.Operand.tmp 1) (some 10) (.pointer (some ⟨Gd, 0, none⟩)) (.bool true) (by kernel_rfl) (by kernel_rfl) (fun Y hY => load_bool Gd 0 Y _ hY.2.c) (by kernel_rfl) (by kernel_rfl) (by kernel_rfl) (fun _ _ _ d _ h => by cases d <;> exact h) hHeld ?_
    refine held_move 1 (Go.Operand.tmp 10) (some 11) (.bool true) (by kernel_rfl) (by kernel_rfl) (by kernel_rfl) (by kernel_rfl) (by kernel_rfl) (fun _ _ _ d _ h => by cases d <;> exact h) hHeld ?_
    refine held_move 2 (Go.Operand.tmp 0) (some 12) (.pointer (some ⟨R, 0, none⟩)) (by kernel_rfl) (by kernel_rfl) (by kernel_rfl) (by kernel_rfl) (by kernel_rfl) (fun _ _ _ d _ h => by cases d <;> exact h) hHeld ?_
    refine held_cell 4 35 (Go.Operand.tmp 2) (some 14) (.pointer (some ⟨Nc, 0, none⟩)) (.int .u32 n) (by kernel_rfl) (by kernel_rfl) (fun Y hY => load_u32k Nc 0 Y _ ((hY.1.cell (k := Nc) hs.nc.lt (by omega)).trans hs.nc.c)) (by kernel_rfl) (by kernel_rfl) (by kernel_rfl) (fun _ _ _ d _ h => by cases d <;> exact h) hHeld ?_
    refine held_fall 3 26 #[Go.Operand.tmp 12] #[48] (some 13) #[.pointer (some ⟨R, 0, none⟩)] _ (by kernel_rfl) (by kernel_rfl) (by kernel_rfl) (by kernel_rfl) (ru32_no (hs.r.below (Below.drewNr (w := w) 1)) (hE.below (Below.drewNr (w := w) 1)) (by omega) (by omega)) ?_
    intro e V hf
    have hfin := CBS.fell (xl := xs.length) hs0 (by omega) (Turn.of_below (Below.drewNr (w := w) 1)) (hs.gd.below (Below.drewNr (w := w) 1)) hf
    obtain ⟨bt, rfl, _⟩ := hf
    exact ⟨_, rfl, rfl, hfin⟩
  have hw0 : wordI ys 0 = n := word_cut ys 0 n hn (by have := hag0.cut (by simp [le4]; omega); simpa [le4] using this)
  by_cases hy5 : ys.length < 5
  · skip
    refine wp_region_held_drew (S := fun Y => Turn (fun q => q = Gd ∨ q = R) w Y ∧ VarS Y Gd (.bool true)) (by kernel_rfl) (⟨Turn.of_below (Below.drewNr (w := w) 1), hs.gd.below (Below.drewNr (w := w) 1)⟩) (fun hHeld => ?_)
    refine held_cell 0 4 (Go.Operand.tmp 1) (some 10) (.pointer (some ⟨Gd, 0, none⟩)) (.bool true) (by kernel_rfl) (by kernel_rfl) (fun Y hY => load_bool Gd 0 Y _ hY.2.c) (by kernel_rfl) (by kernel_rfl) (by kernel_rfl) (fun _ _ _ d _ h => by cases d <;> exact h) hHeld ?_
    refine held_move 1 (Go.Operand.tmp 10) (some 11) (.bool true) (by kernel_rfl) (by kernel_rfl) (by kernel_rfl) (by kernel_rfl) (by kernel_rfl) (fun _ _ _ d _ h => by cases d <;> exact h) hHeld ?_
    refine held_move 2 (Go.Operand.tmp 0) (some 12) (.pointer (some ⟨R, 0, none⟩)) (by kernel_rfl) (by kernel_rfl) (by kernel_rfl) (by kernel_rfl) (by kernel_rfl) (fun _ _ _ d _ h => by cases d <;> exact h) hHeld ?_
    refine held_cell 4 35 (Go.Operand.tmp 2) (some 14) (.pointer (some ⟨Nc, 0, none⟩)) (.int .u32 n) (by kernel_rfl) (by kernel_rfl) (fun Y hY => load_u32k Nc 0 Y _ ((hY.1.cell (k := Nc) hs.nc.lt (by omega)).trans hs.nc.c)) (by kernel_rfl) (by kernel_rfl) (by kernel_rfl) (fun _ _ _ d _ h => by cases d <;> exact h) hHeld ?_
    refine held_call 3 26 #[Go.Operand.tmp 12] #[48] (some 13) #[.pointer (some ⟨R, 0, none⟩)] _ (by kernel_rfl) (by kernel_rfl) (by kernel_rfl) (by kernel_rfl) (ru32_ok (hs.r.below (Below.drewNr (w := w) 1)) hyb (by omega) (by omega)) ?_
    rintro e V1 ⟨rfl, r1, t1'⟩
    rw [hw0]
    have t1 := (Turn.of_below (F := fun q => q = Gd ∨ q = R) (Below.drewNr (w := w) 1)).and (t1'.sub (fun q hq => .inr hq))
    have g1 := hs.gd.turn ((Turn.of_below (F := (· = R)) (Below.drewNr (w := w) 1)).and t1') hGR
    refine ⟨_, rfl, ⟨t1, g1⟩, fun hHeld => ?_⟩
    refine held_bin 5 Go.BinOp.eql 35 (Go.Operand.tmp 13) (Go.Operand.tmp 14) 35 (some 15) (.int .u32 n) (.int .u32 n) (.bool true) (by kernel_rfl) (by kernel_rfl) (fun w => eql_int _ _ _ w _ _ _ _ (by simp)) (by kernel_rfl) (by kernel_rfl) (by kernel_rfl) (fun _ _ _ d _ h => by cases d <;> exact h) hHeld ?_
    refine held_pick 6 (Go.Operand.tmp 11) (Go.Operand.tmp 15) (Go.Operand.const (Go.Value.bool false)) (some 16) true (.bool true) (by kernel_rfl) (by kernel_rfl) (by kernel_rfl) (by kernel_rfl) (by kernel_rfl) (by kernel_rfl) (fun _ _ _ d _ h => by cases d <;> exact h) hHeld ?_
    refine held_move 7 (Go.Operand.tmp 16) (some 17) (.bool true) (by kernel_rfl) (by kernel_rfl) (by kernel_rfl) (by kernel_rfl) (by kernel_rfl) (fun _ _ _ d _ h => by cases d <;> exact h) hHeld ?_
    refine held_move 8 (Go.Operand.tmp 0) (some 18) (.pointer (some ⟨R, 0, none⟩)) (by kernel_rfl) (by kernel_rfl) (by kernel_rfl) (by kernel_rfl) (by kernel_rfl) (fun _ _ _ d _ h => by cases d <;> exact h) hHeld ?_
    refine held_cell 10 56 (Go.Operand.tmp 3) (some 20) (.pointer (some ⟨Lb, 0, none⟩)) (.slice AL len cap) (by kernel_rfl) (by kernel_rfl) (fun Y hY => load_slice Lb 0 Y 56 (fun w => by kernel_rfl) _ ((hY.1.cell (k := Lb) hs.l.lt (by omega)).trans hs.l.c)) (by kernel_rfl) (by kernel_rfl) (by kernel_rfl) (fun _ _ _ d _ h => by cases d <;> exact h) hHeld ?_
    refine held_any 11 (Go.Op.call { callee := Go.Callee.builtin Go.Builtin.len, args := #[Go.Operand.tmp 20], argTypes := #[56] }) (some 21) (.int .i64 (len : Int)) (by kernel_rfl) (by kernel_rfl) (by kernel_rfl) (by kernel_rfl) (fun _ _ _ d _ h => by cases d <;> exact h) hHeld (fun o ho w _ => exec_lenA (vx := .slice AL len cap) ho (by kernel_rfl) (fun _ => len_slice _ 23 _ Tryd.underlying56 AL len cap _)) ?_
    refine held_fall 9 24 #[Go.Operand.tmp 18] #[48] (some 19) #[.pointer (some ⟨R, 0, none⟩)] _ (by kernel_rfl) (by kernel_rfl) (by kernel_rfl) (by kernel_rfl) (ru8_no r1 (hE2 _ t1) (by omega) (by omega)) ?_
    intro e V hf
    have hfin := CBS.fell (xl := xs.length) hs0 (by omega) t1 g1 hf
    obtain ⟨bt, rfl, _⟩ := hf
    exact ⟨_, rfl, rfl, hfin⟩
  have hb4 : byteI ys 4 = (len : Int) := by
    have h4 := hag4.cut (by simp [le4]; omega)
    have h5 : byteI ((ys.drop 4).take 1) 0 = byteI ys 4 := byteI_cut ys 4 1 0 (by omega)
    rw [← h5]
    have e : (ys.drop 4).take 1 = [(len : Int)] := h4
    rw [e]; rfl
  refine wp_region_held_drew (S := fun Y => Turn (fun q => q = Gd ∨ q = R) w Y ∧ VarS Y Gd (.bool true)) (by kernel_rfl) (⟨Turn.of_below (Below.drewNr (w := w) 1), hs.gd.below (Below.drewNr (w := w) 1)⟩) (fun hHeld => ?_)
  refine held_cell 0 4 (Go.Operand.tmp 1) (some 10) (.pointer (some ⟨Gd, 0, none⟩)) (.bool true) (by kernel_rfl) (by kernel_rfl) (fun Y hY => load_bool Gd 0 Y _ hY.2.c) (by kernel_rfl) (by kernel_rfl) (by kernel_rfl) (fun _ _ _ d _ h => by cases d <;> exact h) hHeld ?_
  refine held_move 1 (Go.Operand.tmp 10) (some 11) (.bool true) (by kernel_rfl) (by kernel_rfl) (by kernel_rfl) (by kernel_rfl) (by kernel_rfl) (fun _ _ _ d _ h => by cases d <;> exact h) hHeld ?_
  refine held_move 2 (Go.Operand.tmp 0) (some 12) (.pointer (some ⟨R, 0, none⟩)) (by kernel_rfl) (by kernel_rfl) (by kernel_rfl) (by kernel_rfl) (by kernel_rfl) (fun _ _ _ d _ h => by cases d <;> exact h) hHeld ?_
  refine held_cell 4 35 (Go.Operand.tmp 2) (some 14) (.pointer (some ⟨Nc, 0, none⟩)) (.int .u32 n) (by kernel_rfl) (by kernel_rfl) (fun Y hY => load_u32k Nc 0 Y _ ((hY.1.cell (k := Nc) hs.nc.lt (by omega)).trans hs.nc.c)) (by kernel_rfl) (by kernel_rfl) (by kernel_rfl) (fun _ _ _ d _ h => by cases d <;> exact h) hHeld ?_
  refine held_call 3 26 #[Go.Operand.tmp 12] #[48] (some 13) #[.pointer (some ⟨R, 0, none⟩)] _ (by kernel_rfl) (by kernel_rfl) (by kernel_rfl) (by kernel_rfl) (ru32_ok (hs.r.below (Below.drewNr (w := w) 1)) hyb (by omega) (by omega)) ?_
  rintro e V1 ⟨rfl, r1, t1'⟩
  rw [hw0]
  have t1 := (Turn.of_below (F := fun q => q = Gd ∨ q = R) (Below.drewNr (w := w) 1)).and (t1'.sub (fun q hq => .inr hq))
  have g1 := hs.gd.turn ((Turn.of_below (F := (· = R)) (Below.drewNr (w := w) 1)).and t1') hGR
  refine ⟨_, rfl, ⟨t1, g1⟩, fun hHeld => ?_⟩
  refine held_bin 5 Go.BinOp.eql 35 (Go.Operand.tmp 13) (Go.Operand.tmp 14) 35 (some 15) (.int .u32 n) (.int .u32 n) (.bool true) (by kernel_rfl) (by kernel_rfl) (fun w => eql_int _ _ _ w _ _ _ _ (by simp)) (by kernel_rfl) (by kernel_rfl) (by kernel_rfl) (fun _ _ _ d _ h => by cases d <;> exact h) hHeld ?_
  refine held_pick 6 (Go.Operand.tmp 11) (Go.Operand.tmp 15) (Go.Operand.const (Go.Value.bool false)) (some 16) true (.bool true) (by kernel_rfl) (by kernel_rfl) (by kernel_rfl) (by kernel_rfl) (by kernel_rfl) (by kernel_rfl) (fun _ _ _ d _ h => by cases d <;> exact h) hHeld ?_
  refine held_move 7 (Go.Operand.tmp 16) (some 17) (.bool true) (by kernel_rfl) (by kernel_rfl) (by kernel_rfl) (by kernel_rfl) (by kernel_rfl) (fun _ _ _ d _ h => by cases d <;> exact h) hHeld ?_
  refine held_move 8 (Go.Operand.tmp 0) (some 18) (.pointer (some ⟨R, 0, none⟩)) (by kernel_rfl) (by kernel_rfl) (by kernel_rfl) (by kernel_rfl) (by kernel_rfl) (fun _ _ _ d _ h => by cases d <;> exact h) hHeld ?_
  refine held_cell 10 56 (Go.Operand.tmp 3) (some 20) (.pointer (some ⟨Lb, 0, none⟩)) (.slice AL len cap) (by kernel_rfl) (by kernel_rfl) (fun Y hY => load_slice Lb 0 Y 56 (fun w => by kernel_rfl) _ ((hY.1.cell (k := Lb) hs.l.lt (by omega)).trans hs.l.c)) (by kernel_rfl) (by kernel_rfl) (by kernel_rfl) (fun _ _ _ d _ h => by cases d <;> exact h) hHeld ?_
  refine held_any 11 (Go.Op.call { callee := Go.Callee.builtin Go.Builtin.len, args := #[Go.Operand.tmp 20], argTypes := #[56] }) (some 21) (.int .i64 (len : Int)) (by kernel_rfl) (by kernel_rfl) (by kernel_rfl) (by kernel_rfl) (fun _ _ _ d _ h => by cases d <;> exact h) hHeld (fun o ho w _ => exec_lenA (vx := .slice AL len cap) ho (by kernel_rfl) (fun _ => len_slice _ 23 _ Tryd.underlying56 AL len cap _)) ?_
  refine held_call 9 24 #[Go.Operand.tmp 18] #[48] (some 19) #[.pointer (some ⟨R, 0, none⟩)] _ (by kernel_rfl) (by kernel_rfl) (by kernel_rfl) (by kernel_rfl) (ru8_ok r1 hyb (by omega) (by omega)) ?_
  rintro e V2 ⟨rfl, r2, t2'⟩
  rw [hb4]
  have t2 := t1.and (t2'.sub (fun q hq => .inr hq))
  have g2 := g1.turn t2' hGR
  refine ⟨_, rfl, ⟨t2, g2⟩, fun hHeld => ?_⟩
  refine held_bin 12 Go.BinOp.eql 3 (Go.Operand.tmp 19) (Go.Operand.tmp 21) 3 (some 22) (.int .i64 (len : Int)) (.int .i64 (len : Int)) (.bool true) (by kernel_rfl) (by kernel_rfl) (fun w => eql_int _ _ _ w _ _ _ _ (by simp)) (by kernel_rfl) (by kernel_rfl) (by kernel_rfl) (fun _ _ _ d _ h => by cases d <;> exact h) hHeld ?_
  refine held_pick 13 (Go.Operand.tmp 17) (Go.Operand.tmp 22) (Go.Operand.const (Go.Value.bool false)) (some 23) true (.bool true) (by kernel_rfl) (by kernel_rfl) (by kernel_rfl) (by kernel_rfl) (by kernel_rfl) (by kernel_rfl) (fun _ _ _ d _ h => by cases d <;> exact h) hHeld ?_
  refine held_skip 14 (Go.Op.store 4 (Go.Operand.tmp 1) (Go.Operand.tmp 23)) none (V2.setCell ⟨Gd, 0, none⟩ (.bool true)) (by kernel_rfl) (by kernel_rfl) (fun o ho => exec_store (vx := .pointer (some ⟨Gd, 0, none⟩)) (vy := .bool true) ho (by kernel_rfl) (store_bool Gd 0 V2 g2.c g2.f true)) (⟨t2.and ((set_turn V2 Gd 0 (.bool true)).sub (fun q hq => .inl hq)), g2.set _⟩) ?_
  intro hHeld
  refine wpAnyH_done (by kernel_rfl) ?_ _
  simp only [Act.put, List.setIfInBounds_toArray, List.set_cons_zero, List.set_cons_succ]
  have hB5 : CBS w Gd Nc Lb R AL len cap f n A ys c 5 (V2.setCell ⟨Gd, 0, none⟩ (.bool true)) := hs0.turn hNc hLb hAL hfl hHeld.1 (g2.set _) (r2.turn (set_turn V2 Gd 0 (.bool true)) (Ne.symm hGR) hA)
  generalize V2.setCell ⟨Gd, 0, none⟩ (.bool true) = W2 at *
  clear hs hHeld r1 t1' t1 g1 r2 t2' t2 g2 hag0 hag4 hw0 hb4 hs0 hE
  have hx5l : (pre (le4 n ++ [(len : Int)]) f 0).length = 5 := rfl
  rw [← hx5l] at hB5
  obtain ⟨hd, hhd⟩ : ∃ hd, hd = le4 n ++ [(len : Int)] := ⟨_, rfl⟩
  rw [← hhd] at hB5 HX
  clear hhd hx5l hy4 hy5 hx5
  go_wp2_with fail
  go_loopw [5] (fun v wr => ∃ i : Nat, i ≤ len ∧ v = .int .i64 (i : Int) ∧ CBS w Gd Nc Lb R AL len cap f n A ys c (pre hd f i).length wr) (fun v _ => len - (intOf v).toNat)
  case atStart => exact ⟨0, Nat.zero_le _, rfl, hB5⟩
  case round =>
    obtain ⟨i, hi, rfl, hs⟩ := hrel
    have cL := hs.l.c
    by_cases hlt : i < len
    case neg =>
      obtain rfl : i = len := by omega
      have hxe : (pre hd f i).length = xs.length := by rw [HX.out.1]
      have hle := hs.r.le
      rw [hxe] at hle
      have hfin : ∃ o, Turn (fun q => q = Gd ∨ q = R) w wr ∧ EndsAs E R A ys c w.heap.size o (.returned (.tuple #[])) wr ∧ PK Gd xs.length ys.length o wr := ⟨_, hs.t, .inl ⟨rfl, _, hs.r, rfl⟩, hs.gd, .inl ⟨hle, by rw [hxe]⟩⟩
      have hfin := Lib.hid hfin
      clear hs hB5 hxe hle
      go_wp2_with fail
      go_end0
      exact hfin.out
    obtain ⟨bL, oL, rfl, hbLl, hcc⟩ := hs.ss (by omega)
    have hlow := hAL (by omega) _ rfl
    have hbG : ¬ bL = Gd := hlow.1
    have hbR : ¬ bL = R := hlow.2
    obtain ⟨hc1, hrl⟩ := hcc i hlt
    have hfli := hfl i hlt
    have h30i := h30 i hlt
    clear hcc
    obtain ⟨q, hq⟩ : ∃ q, q = (pre hd f i).length := ⟨_, rfl⟩
    obtain ⟨r, hr⟩ := pre_split hd f (i + 1) (len - (i + 1))
    rw [show i + 1 + (len - (i + 1)) = len by omega] at hr
    have hxi : xs = pre hd f i ++ (le4 ((f i).2.1.length : Int) ++ ((f i).2.1 ++ ((f i).2.1 ++ r))) := by rw [HX.out.1, hr]; simp [pre, lstI]
    have hnext : (pre hd f (i + 1)).length = q + 4 + (f i).2.1.length + (f i).2.1.length := by rw [hq]; simp [pre, lstI, le4]; omega
    obtain ⟨l, hl⟩ : ∃ l, l = (f i).2.1 := ⟨_, rfl⟩
    rw [← hl] at hxi hc1 hrl hfli h30i hnext
    have hagi : Agree ys (pre hd f i ++ (le4 (l.length : Int) ++ (l ++ (l ++ r)))) := by rw [← hxi]; exact hag
    have hxl : xs.length = q + 4 + l.length + l.length + r.length := by rw [hxi, hq]; simp [le4]; omega
    have hF1 : q + 4 ≤ ys.length → wordI ys q = (l.length : Int) := fun h => word_cut ys q _ (by omega) (by have := hagi.cut (by rw [← hq]; simpa [le4] using h); rw [← hq] at this; simpa [le4] using this)
    have hF2 : q + 4 + l.length ≤ ys.length → (ys.drop (q + 4)).take l.length = l := fun h => by
      have h2 : Agree ys ((pre hd f i ++ le4 (l.length : Int)) ++ (l ++ (l ++ r))) := by rw [List.append_assoc]; exact hagi
      have e : (pre hd f i ++ le4 (l.length : Int)).length = q + 4 := by rw [hq]; simp [le4]
      have h3 := h2.cut (by rw [e]; exact h)
      rwa [e] at h3
    have hF3 : q + 4 + l.length + l.length ≤ ys.length → (ys.drop (q + 4 + l.length)).take l.length = l := fun h => by
      have h2 : Agree ys ((pre hd f i ++ le4 (l.length : Int) ++ l) ++ (l ++ r)) := by simpa [List.append_assoc] using hagi
      have e : (pre hd f i ++ le4 (l.length : Int) ++ l).length = q + 4 + l.length := by rw [hq]; simp [le4]; omega
      have h3 := h2.cut (by rw [e]; exact h)
      rwa [e] at h3
    rw [← hq] at hs
    have HQ := Lib.hid (And.intro hnext hxl)
    obtain ⟨Bi, hBi⟩ : ∃ Bi, (f i).1 = Bi := ⟨_, rfl⟩
    obtain ⟨ci, hci⟩ : ∃ ci, (f i).2.2 = ci := ⟨_, rfl⟩
    rw [hBi] at hrl hfli
    rw [hBi, hci] at hc1
    have hix := fun w => idx_ss bL oL len cap i hlt w
    clear hxi hagi hr hnext hq hl hBi hci hB5
    have hEr := hE2 wr hs.t
    have hxq : q + 4 + l.length + l.length ≤ xs.length := by omega
    clear hxl
    by_cases hA1 : ys.length < q + 4
    · have hys : ys.length < xs.length := by omega
      have H := rlist_no4 hs.r hEr (by omega) 30 hA1
      go_wp2_with fail
      refine H.mono ?_
      intro e V2 hf
      have hfin := Lib.hid (CBS.fell (xl := xs.length) hs hys (Turn.of_below (Below.refl _ _)) hs.gd hf)
      obtain ⟨bt, rfl, _⟩ := hf
      go_wp2_with fail
      exact ⟨rfl, hfin.out⟩
    have hF1 := hF1 (by omega)
    by_cases hA2 : ys.length < q + 4 + l.length
    · have hys : ys.length < xs.length := by omega
      have H := rlist_long hs.r hEr hyb (by omega) (by omega) 30 (by rw [hF1]; omega)
      clear hF1
      go_wp2_with fail
      refine H.mono ?_
      intro e V2 hf
      have hfin := Lib.hid (CBS.fell (xl := xs.length) hs hys (Turn.of_below (Below.refl _ _)) hs.gd hf)
      obtain ⟨bt, rfl, _⟩ := hf
      go_wp2_with fail
      exact ⟨rfl, hfin.out⟩
    have hF2 := hF2 (by omega)
    have H := rlist_ok hs.r hyb (by omega) l.length (by omega) 30 hF1 (by omega)
    rw [hF2] at H
    clear hF1 hF2
    go_wp2_with fail
    refine H.mono ?_
    rintro e V1 ⟨v1, rfl, ho1, r1, t1⟩
    obtain ⟨Ax, cx, rfl, _, _, hAx⟩ := own_slice ho1
    have hrx := own_read ho1
    have hAxR : ∀ a, Ax = some a → ¬ a.block = R ∧ ¬ a.block = Gd := fun a ha => by
      have h1 := (hAx a ha).1
      have h2 := hs.r.lt
      have h3 := hs.gd.lt
      omega
    have g1 := hs.gd.turn t1 hGR
    have t1 : Turn (fun q => q = Gd ∨ q = R) wr V1 := t1.sub (fun _ hq => .inr hq)
    have hs1 := hs.turn hNc hLb hAL hfl t1 g1 r1
    have hE1 := hE2 V1 hs1.t
    have cL1 := hs1.l.c
    have hc11 := (t1.cell (k := bL) hbLl (fun hh => hh.elim hbG hbR)).trans hc1
    clear H ho1 hAx hEr cL
    by_cases hA3 : ys.length < q + 4 + l.length + l.length
    · have hys : ys.length < xs.length := by omega
      have H := rraw_no r1 hE1 (by omega) (l.length : Int) (by omega) (by omega)
      clear hF3
      go_wp2_with fail
      refine H.mono ?_
      intro e V2 hf
      have hfin := Lib.hid (CBS.fell (xl := xs.length) hs1 hys (Turn.of_below (Below.refl _ _)) g1 hf)
      obtain ⟨bt, rfl, _⟩ := hf
      go_wp2_with fail
      exact ⟨rfl, hfin.out⟩
    have hF3 := hF3 (by omega)
    have H := rraw_ok r1 (by omega) l.length (by omega)
    rw [hF3] at H
    clear hF3 hs hc1
    go_wp2_with fail
    refine H.mono ?_
    rintro e V2 ⟨v2, rfl, ho2, r2, t2⟩
    obtain ⟨Ay, cy, rfl, _⟩ := ownsRow_form ho2
    have g2 := g1.turn t2 hGR
    have hrx2 := hrx.turn t2 (fun _ a ha => (hAxR a ha).1)
    have hry2 := own_read ho2
    have t2 : Turn (fun q => q = Gd ∨ q = R) V1 V2 := t2.sub (fun _ hq => .inr hq)
    have hs2 := hs1.turn hNc hLb hAL hfl t2 g2 r2
    have cL2 := hs2.l.c
    have cG2 := g2.c
    have hbl1 : bL < V1.heap.size := Nat.lt_of_lt_of_le hbLl t1.size
    have hc12 := (t2.cell (k := bL) hbl1 (fun hh => hh.elim hbG hbR)).trans hc11
    have hrl2 := (hrl.turn t1 (fun h0 a ha hh => hh.elim (hfli a (by simpa using h0) ha).1 (hfli a (by simpa using h0) ha).2)).turn t2 (fun h0 a ha hh => hh.elim (hfli a (by simpa using h0) ha).1 (hfli a (by simpa using h0) ha).2)
    have hbl2 : bL < V2.heap.size := Nat.lt_of_lt_of_le hbl1 t2.size
    have H1 := same_eq Ax Bi l cx ci V2 hrx2 hrl2 (by omega)
    clear H hs1 r1 g1 t1 hE1 cL1 hc11 ho2 hrx hbLl r2 t2
    go_wp2_with fail
    refine H1.mono ?_
    rintro e V3 ⟨rfl, m3, rfl⟩
    have H2 := same_eq Ay Bi l cy ci (V2.drewN m3) hry2 hrl2 (by omega)
    have cL3 : (V2.drewN m3).cell? ⟨Lb, 0, none⟩ = some (.slice (some ⟨bL, oL, none⟩) len cap) := cL2
    have hc13 : (V2.drewN m3).cell? ⟨bL, oL + i, none⟩ = some (.slice Bi l.length ci) := hc12
    have hs3 := hs2.turn hNc hLb hAL hfl (Turn.of_below (Below.drewNr (w := V2) m3)) (g2.below (Below.drewNr m3)) (hs2.r.below (Below.drewNr m3))
    generalize V2.drewN m3 = V3 at *
    clear H1 hs2 cL2 hc12 cG2 g2
    go_wp2_with fail
    refine H2.mono ?_
    rintro e V4 ⟨rfl, m4, rfl⟩
    have hs4 := hs3.turn hNc hLb hAL hfl (Turn.of_below (Below.drewNr (w := V3) m4)) (hs3.gd.below (Below.drewNr m4)) (hs3.r.below (Below.drewNr m4))
    generalize V3.drewN m4 = V4 at *
    have g4 := hs4.gd
    have cG4 := g4.c
    have fG4 := g4.f
    have ht5 := set_turn V4 Gd 0 (.bool true)
    have hs5 := hs4.turn (q := q + 4 + l.length + l.length) hNc hLb hAL hfl (ht5.sub (fun _ hq => .inl hq)) (g4.set _) (hs4.r.turn ht5 (Ne.symm hGR) hA)
    rw [← HQ.out.1] at hs5
    have hs5 := Lib.hid hs5
    clear H2 hs3 cL3 hc13 hs4 ht5 g4
    go_wp2_with fail
    go_roundw
    case rel => exact ⟨i + 1, by omega, by go_num, hs5.out⟩
    case measure => simp [intOf]; omega
end Go.Proofs.YtjgjaefbbhffbaaDoor
