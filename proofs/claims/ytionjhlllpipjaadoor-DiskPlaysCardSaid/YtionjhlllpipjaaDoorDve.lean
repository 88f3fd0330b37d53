import Derived.Test.YtionjhlllpipjaaDoorDvd
/-
  The document's disk: Crash.
-/
namespace Go.Proofs.YtionjhlllpipjaaDoor
open Go.RowKit

theorem idxI (b o n c i : Nat) (hi : i < n) (w : World) : (Instr.indexAt 29 (.slice (some ⟨b, o, none⟩) n c) (.int .i64 (i : Int))).run Tryd.prog w = .ok (.pointer (some ⟨b, o + i, none⟩)) w := by
  have h := idx_slice 29 3 1 Tryd.underlying29 (fun w => by kernel_rfl) b o n c i hi w
  rwa [Nat.mul_one] at h
theorem sliceAt_lhK {P : Program} {t e : TypeId} (hu : P.underlying t = some (.slice e)) (hs : (P.info? e).map (·.size) = some 1) (b o n cap l : Nat) (hc : n ≤ cap) (h0 : l < n) (w : World) :
    (Instr.sliceAt t (.slice (some ⟨b, o, none⟩) n cap) (some (.int .i64 (l : Int))) (some (.int .i64 ((l : Int) + 1))) none).run P w = .ok (.slice (some ⟨b, o + l, none⟩) 1 (cap - l)) w := by
  have e2 : P.elem t = e := by simp [Program.elem, hu]
  rw [run_sliceAt_slice (h := by rw [e2]; exact hu)]
  exact slice_sl_lh hu hs b o n cap l 1 (by omega) hc h0 w
theorem sliceAt_l01 {P : Program} {t e : TypeId} (hu : P.underlying t = some (.slice e)) (hs : (P.info? e).map (·.size) = some 1) (b o n cap : Nat) (hc : n ≤ cap) (h0 : 0 < n) (w : World) :
    (Instr.sliceAt t (.slice (some ⟨b, o, none⟩) n cap) (some (.int .i64 0)) (some (.int .i64 1)) none).run P w = .ok (.slice (some ⟨b, o, none⟩) 1 cap) w := by
  have h := sliceAt_lhK hu hs b o n cap 0 hc h0 w
  rw [Nat.add_zero, Nat.sub_zero] at h
  exact h
/-- a crash of the first so many sectors: what they hold, and how many of keep were taken -/
def dcr (vs : List (List (List UInt8))) (keep : List Int) : Nat → List (List (List UInt8)) × Nat
  | 0 => (vs, 0)
  | k + 1 => match vs[k]? with
    | none => dcr vs keep k
    | some l => if l.length < 2 then dcr vs keep k else ((dcr vs keep k).1.set k ((l.drop (choice (keep.drop (dcr vs keep k).2) (l.length - 1))).take 1), (dcr vs keep k).2 + 1)
theorem dcr_len (vs : List (List (List UInt8))) (keep : List Int) : ∀ k, (dcr vs keep k).1.length = vs.length
  | 0 => rfl
  | k + 1 => by
    have ih := dcr_len vs keep k
    unfold dcr
    split
    · exact ih
    · split
      · exact ih
      · rw [List.length_set]; exact ih
theorem dcr_at (vs : List (List (List UInt8))) (keep : List Int) : ∀ k, (dcr vs keep k).2 ≤ k
  | 0 => Nat.le_refl _
  | k + 1 => by
    have ih := dcr_at vs keep k
    unfold dcr
    split
    · omega
    · split
      · omega
      · show _ + 1 ≤ _; omega
theorem dcr_get (vs : List (List (List UInt8))) (keep : List Int) : ∀ k j, k ≤ j → (dcr vs keep k).1[j]? = vs[j]?
  | 0, _, _ => rfl
  | k + 1, j, h => by
    have ih := dcr_get vs keep k j (by omega)
    unfold dcr
    split
    · exact ih
    · split
      · exact ih
      · rw [List.getElem?_set_ne (by omega)]; exact ih
theorem dcr_few (vs : List (List (List UInt8))) (keep : List Int) (k : Nat) (l : List (List UInt8)) (hl : vs[k]? = some l) (h : l.length < 2) : dcr vs keep (k + 1) = dcr vs keep k := by
  show (match vs[k]? with | none => _ | some l => _) = _
  rw [hl]
  exact if_pos h
theorem dcr_some (vs : List (List (List UInt8))) (keep : List Int) (k : Nat) (l : List (List UInt8)) (hl : vs[k]? = some l) (h : ¬ l.length < 2) : dcr vs keep (k + 1) = ((dcr vs keep k).1.set k ((l.drop (choice (keep.drop (dcr vs keep k).2) (l.length - 1))).take 1), (dcr vs keep k).2 + 1) := by
  show (match vs[k]? with | none => _ | some l => _) = _
  rw [hl]
  exact if_neg h
section
variable {w : World} {n X T cT : Nat} {P : Nat → Prop} {vs : List (List (List UInt8))} {left : Int} {gone : Bool}
set_option maxRecDepth 100000 in
set_option maxHeartbeats 3200000 in
theorem dcrash_any (h : DdS w n X T cT P vs left gone) (keep : List Int) (AK : Option Addr) (ck : Nat) (hkr : SlRead w AK (ints .i64 keep)) (hkX : 0 < keep.length → ∀ a, AK = some a → a.block ≠ X ∧ a.block ≠ T) (hkx : ∀ x ∈ keep, x ≤ 9223372036854775807) :
    Calls Tryd.prog 20 #[.pointer (some ⟨X, 0, none⟩), .slice AK keep.length ck] w fun e w' => e = .returned (.tuple #[]) ∧ DdS w' n X T cT P (dcr vs keep vs.length).1 (-1) false ∧ Turn (fun q => q = X ∨ q = T) w w' := by
  have hlen := h.len
  have hne := h.ne
  go_enter Tryd.func20, Tryd.ntmps20
  go_wp2_with fail
  go_loopw [4, 5] (fun a x wr => ∃ k : Nat, k ≤ vs.length ∧ a = .int .i64 ((dcr vs keep k).2 : Int) ∧ x = .int .i64 (k : Int) ∧ DdS wr n X T cT P (dcr vs keep k).1 left gone ∧ Turn (fun q => q = T) w wr) (fun _ x _ => vs.length - (intOf x).toNat)
  case atStart => exact ⟨0, by omega, rfl, rfl, h, Turn.of_below (Below.refl _ _)⟩
  clear h
  case round =>
    obtain ⟨k, hk, rfl, rfl, hd, ht⟩ := hrel
    have c0 := hd.c0
    have hvl := dcr_len vs keep k
    have hat0 := dcr_at vs keep k
    by_cases hlt : k < vs.length
    · obtain ⟨l, hl⟩ : ∃ l, vs[k]? = some l := ⟨_, List.getElem?_eq_getElem hlt⟩
      have hl2 : (dcr vs keep k).1[k]? = some l := (dcr_get vs keep k k (Nat.le_refl _)).trans hl
      obtain ⟨hp0, hp1, hp2⟩ := hd.pos l (List.mem_of_getElem? hl2)
      obtain ⟨A0, c, cT1, hcl, hver⟩ := hd.sec k l hl2
      obtain ⟨g, og, _, _, rfl, _, _⟩ := hver 0 l[0] (List.getElem?_eq_getElem hp0)
      have hklt : (k : Int) < ((dcr vs keep k).1.length : Int) := by omega
      by_cases h2 : l.length < 2
      · have h2' : (l.length : Int) < 2 := by omega
        have HS := Lib.hid (by rw [← dcr_few vs keep k l hl h2] at hd; exact And.intro hd ht)
        have HA := Lib.hid (dcr_few vs keep k l hl h2)
        clear hver hd ht
        go_wp2_with fail
        go_roundw
        case rel => exact ⟨k + 1, by omega, by rw [HA.out], by go_num, HS.out⟩
        case measure => simp [intOf] <;> omega
      · have hn := dcr_some vs keep k l hl h2
        have hjl : choice (keep.drop (dcr vs keep k).2) (l.length - 1) < l.length := by have := choice_le (keep.drop (dcr vs keep k).2) (l.length - 1); omega
        have hk2 : k < (dcr vs keep k).1.length := by omega
        have h2' : ¬ (l.length : Int) < 2 := by omega
        have hkr2 := hkr.turnM ht (fun h0 a ha => (hkX (by simpa using h0) a ha).2)
        generalize (dcr vs keep k).1 = vs2 at *
        generalize (dcr vs keep k).2 = at_ at *
        by_cases hat : at_ < keep.length
        · obtain ⟨bk, ok, x, rfl, hcx, hxk⟩ := hkr2.at_ (j := at_) hat
          have hbkl : bk < wr.heap.size := cell_lt hcx
          have hxm : x ≤ 9223372036854775807 := hkx x (List.mem_of_getElem? hxk)
          have hch : choice (keep.drop at_) (l.length - 1) = (max x 0).toNat % l.length := by
            have hd1 : keep.drop at_ = x :: keep.drop (at_ + 1) := by
              rw [List.drop_eq_getElem_cons hat]
              congr 1
              exact (List.getElem?_eq_some_iff.1 hxk).2
            rw [hd1]
            show (max x 0).toNat % (1 + (l.length - 1)) = _
            rw [show 1 + (l.length - 1) = l.length by omega]
          rw [hch] at hn hjl
          have HN := Lib.hid (And.intro (congrArg Prod.fst hn) (congrArg Prod.snd hn))
          have HD := Lib.hid (And.intro hd ht)
          have hati : (at_ : Int) < (keep.length : Int) := by omega
          have hXl := hd.ltX
          have hTl := hd.ltT
          clear hn hch hver hd ht
          go_upto_region 7 with (fail)
          refine wp_region_noPanic ?_
          refine wp_region_held_drew (S := fun V => Below wr.heap.size wr V) (by kernel_rfl) (Below.drewNr (w := wr) 1) (fun hHeld => ?_)
          refine held_move 0 (Go.Operand.tmp 1) (some 29) (.slice (some ⟨bk, ok, none⟩) keep.length ck) (by kernel_rfl) (by kernel_rfl) (by kernel_rfl) (by kernel_rfl) (by kernel_rfl) (fun _ _ _ _ _ h => h) hHeld ?_
          refine held_move 1 (Go.Operand.tmp 4) (some 30) (.int .i64 (at_ : Int)) (by kernel_rfl) (by kernel_rfl) (by kernel_rfl) (by kernel_rfl) (by kernel_rfl) (fun _ _ _ _ _ h => h) hHeld ?_
          refine held_index 2 29 (Go.Operand.tmp 29) (Go.Operand.tmp 30) (some 31) (.slice (some ⟨bk, ok, none⟩) keep.length ck) (.int .i64 (at_ : Int)) (.pointer (some ⟨bk, ok + at_, none⟩)) (by kernel_rfl) (by kernel_rfl) (fun w => idxI bk ok keep.length ck at_ hat w) (by kernel_rfl) (by kernel_rfl) (by kernel_rfl) (fun _ _ _ _ _ h => h) hHeld ?_
          refine held_cell 3 3 (Go.Operand.tmp 31) (some 32) (.pointer (some ⟨bk, ok + at_, none⟩)) (.int .i64 x) (by kernel_rfl) (by kernel_rfl) (fun V hV => load_i64 bk (ok + at_) V _ ((hV.cell (p := ⟨bk, ok + at_, none⟩) hbkl).trans hcx)) (by kernel_rfl) (by kernel_rfl) (by kernel_rfl) (fun _ _ _ _ _ h => h) hHeld ?_
          refine held_any 4 (Go.Op.call { callee := Go.Callee.builtin Go.Builtin.max, args := #[Go.Operand.tmp 32, Go.Operand.const (Go.Value.int Go.IntKind.i64 0)], argTypes := #[3, 3] }) (some 33) (.int .i64 (((max x 0).toNat : Nat) : Int)) (by kernel_rfl) (by kernel_rfl) (by kernel_rfl) (by kernel_rfl) (fun _ _ _ _ _ h => h) hHeld (fun o ho w h => exec_max (vx := .int .i64 x) (vy := .int .i64 0) ho (by kernel_rfl) (fun _ => max_i64 _ _ x w)) ?_
          refine held_move 5 (Go.Operand.tmp 0) (some 34) (.pointer (some ⟨X, 0, none⟩)) (by kernel_rfl) (by kernel_rfl) (by kernel_rfl) (by kernel_rfl) (by kernel_rfl) (fun _ _ _ _ _ h => h) hHeld ?_
          refine held_nil 6 (Go.Operand.tmp 34) (some 35) ⟨X, 0, none⟩ (by kernel_rfl) (by kernel_rfl) (by kernel_rfl) (by kernel_rfl) (by kernel_rfl) (fun _ _ _ _ _ h => h) hHeld ?_
          refine held_field 7 51 (Go.Operand.tmp 35) 0 (some 36) (.pointer (some ⟨X, 0, none⟩)) (.pointer (some ⟨X, 0, none⟩)) (by kernel_rfl) (by kernel_rfl) (fun w => by kernel_rfl) (by kernel_rfl) (by kernel_rfl) (by kernel_rfl) (fun _ _ _ _ _ h => h) hHeld ?_
          refine held_cell 8 49 (Go.Operand.tmp 36) (some 37) (.pointer (some ⟨X, 0, none⟩)) (.slice (some ⟨T, 0, none⟩) vs2.length cT) (by kernel_rfl) (by kernel_rfl) (fun V hV => load_slice X 0 V 49 (fun w => by kernel_rfl) _ ((hV.cell (p := ⟨X, 0, none⟩) hXl).trans c0)) (by kernel_rfl) (by kernel_rfl) (by kernel_rfl) (fun _ _ _ _ _ h => h) hHeld ?_
          refine held_move 9 (Go.Operand.tmp 5) (some 38) (.int .i64 (k : Int)) (by kernel_rfl) (by kernel_rfl) (by kernel_rfl) (by kernel_rfl) (by kernel_rfl) (fun _ _ _ _ _ h => h) hHeld ?_
          refine held_index 10 49 (Go.Operand.tmp 37) (Go.Operand.tmp 38) (some 39) (.slice (some ⟨T, 0, none⟩) vs2.length cT) (.int .i64 (k : Int)) (.pointer (some ⟨T, k, none⟩)) (by kernel_rfl) (by kernel_rfl) (fun w => idxT3 T vs2.length cT k hk2 w) (by kernel_rfl) (by kernel_rfl) (by kernel_rfl) (fun _ _ _ _ _ h => h) hHeld ?_
          refine held_cell 11 62 (Go.Operand.tmp 39) (some 40) (.pointer (some ⟨T, k, none⟩)) (.slice (some ⟨g, og, none⟩) l.length c) (by kernel_rfl) (by kernel_rfl) (fun V hV => load_slice T k V 62 (fun w => by kernel_rfl) _ ((hV.cell (p := ⟨T, k, none⟩) hTl).trans cT1)) (by kernel_rfl) (by kernel_rfl) (by kernel_rfl) (fun _ _ _ _ _ h => h) hHeld ?_
          refine held_any 12 (Go.Op.call { callee := Go.Callee.builtin Go.Builtin.len, args := #[Go.Operand.tmp 40], argTypes := #[62] }) (some 41) (.int .i64 (l.length : Int)) (by kernel_rfl) (by kernel_rfl) (by kernel_rfl) (by kernel_rfl) (fun _ _ _ _ _ h => h) hHeld (fun oo ho w _ => exec_lenA (vx := .slice (some ⟨g, og, none⟩) l.length c) ho (by kernel_rfl) (fun _ => len_slice _ 32 _ Tryd.underlying62 (some ⟨g, og, none⟩) l.length c _)) ?_
          refine held_bin 13 Go.BinOp.rem 3 (Go.Operand.tmp 33) (Go.Operand.tmp 41) 3 (some 42) (.int .i64 (((max x 0).toNat : Nat) : Int)) (.int .i64 (l.length : Int)) (.int .i64 (((max x 0).toNat % l.length : Nat) : Int)) (by kernel_rfl) (by kernel_rfl) (rem_nat _ _ _ _ _ (by omega) (by omega)) (by kernel_rfl) (by kernel_rfl) (by kernel_rfl) (fun _ _ _ _ _ h => h) hHeld ?_
          refine held_assign 14 (Go.Operand.tmp 42) (some 6) (.int .i64 (((max x 0).toNat % l.length : Nat) : Int)) (by kernel_rfl) (by kernel_rfl) (by kernel_rfl) (by kernel_rfl) (by kernel_rfl) (fun _ _ _ _ _ h => h) hHeld ?_
          refine wpAnyH_done (by kernel_rfl) ?_ _
          refine NoPanic.normal ?_
          simp only [put_list, List.set_cons_zero, List.set_cons_succ]
          go_upto_region 8 with (fail)
          generalize (max x 0).toNat % l.length = j at *
          refine wp_world (fun V => DdS V n X T cT P vs2 left gone ∧ Turn (fun q => q = T) w V) ⟨HD.out.1.below hHeld, HD.out.2.trans (Turn.of_below (F := fun q => q = T) hHeld) (fun q hq => .inl hq)⟩ ?_
          clear HD hHeld hXl hTl c0 cT1 hcl hcx hbkl
          rintro wr2 ⟨hd2, ht2⟩
          obtain ⟨A0, c, cT1, hcl, hver⟩ := hd2.sec k l hl2
          obtain ⟨g, og, _, _, rfl, _, _⟩ := hver 0 l[0] (List.getElem?_eq_getElem hp0)
          have hXl := hd2.ltX
          have hTl := hd2.ltT
          have c0 := hd2.c0
          have hfT := (hd2.fr k).2
          have hl1 : ((l.drop j).take 1).length = 1 := by simp; omega
          have hv1 := (hver.cut j c hjl hcl).take 1
          rw [cutA_some hjl hcl] at hv1
          have hset := (hd2.below (Below.drewNr (w := wr2) 1)).sect k hk2 (some ⟨g, og + j, none⟩) (c - j) ((l.drop j).take 1) (by omega) (hv1.turn (F := fun _ => False) (Turn.of_below (Below.drewNr (w := wr2) 1)) (fun _ _ => id)) ⟨by omega, by omega, fun b hb => hp2 b (List.mem_of_mem_drop (List.mem_of_mem_take hb))⟩
          rw [hl1] at hset
          have HS := Lib.hid (And.intro hset.1 ((ht2.trans (Turn.of_below (F := fun q => q = T) (Below.drewNr (w := wr2) 1)) (fun q hq => .inl hq)).trans hset.2 (fun q hq => .inl hq)))
          clear hset hv1 hver hl1 hd2 ht2
          go_upto_region 9 with (fail)
          refine wp_region_held_cut (S := fun V => Below wr2.heap.size wr2 V) 16 (by kernel_rfl) (by kernel_rfl) (Below.drewNr (w := wr2) 1) (fun hHeld => ?_)
          refine held_move 0 (Go.Operand.tmp 0) (some 45) (.pointer (some ⟨X, 0, none⟩)) (by kernel_rfl) (by kernel_rfl) (by kernel_rfl) (by kernel_rfl) (by kernel_rfl) (fun _ _ _ _ _ h => h) hHeld ?_
          refine held_nil 1 (Go.Operand.tmp 45) (some 46) ⟨X, 0, none⟩ (by kernel_rfl) (by kernel_rfl) (by kernel_rfl) (by kernel_rfl) (by kernel_rfl) (fun _ _ _ _ _ h => h) hHeld ?_
          refine held_field 2 51 (Go.Operand.tmp 46) 0 (some 47) (.pointer (some ⟨X, 0, none⟩)) (.pointer (some ⟨X, 0, none⟩)) (by kernel_rfl) (by kernel_rfl) (fun w => by kernel_rfl) (by kernel_rfl) (by kernel_rfl) (by kernel_rfl) (fun _ _ _ _ _ h => h) hHeld ?_
          refine held_cell 3 49 (Go.Operand.tmp 47) (some 48) (.pointer (some ⟨X, 0, none⟩)) (.slice (some ⟨T, 0, none⟩) vs2.length cT) (by kernel_rfl) (by kernel_rfl) (fun V hV => load_slice X 0 V 49 (fun w => by kernel_rfl) _ ((hV.cell (p := ⟨X, 0, none⟩) hXl).trans c0)) (by kernel_rfl) (by kernel_rfl) (by kernel_rfl) (fun _ _ _ _ _ h => h) hHeld ?_
          refine held_move 4 (Go.Operand.tmp 5) (some 49) (.int .i64 (k : Int)) (by kernel_rfl) (by kernel_rfl) (by kernel_rfl) (by kernel_rfl) (by kernel_rfl) (fun _ _ _ _ _ h => h) hHeld ?_
          refine held_move 5 (Go.Operand.tmp 0) (some 50) (.pointer (some ⟨X, 0, none⟩)) (by kernel_rfl) (by kernel_rfl) (by kernel_rfl) (by kernel_rfl) (by kernel_rfl) (fun _ _ _ _ _ h => h) hHeld ?_
          refine held_nil 6 (Go.Operand.tmp 50) (some 51) ⟨X, 0, none⟩ (by kernel_rfl) (by kernel_rfl) (by kernel_rfl) (by kernel_rfl) (by kernel_rfl) (fun _ _ _ _ _ h => h) hHeld ?_
          refine held_field 7 51 (Go.Operand.tmp 51) 0 (some 52) (.pointer (some ⟨X, 0, none⟩)) (.pointer (some ⟨X, 0, none⟩)) (by kernel_rfl) (by kernel_rfl) (fun w => by kernel_rfl) (by kernel_rfl) (by kernel_rfl) (by kernel_rfl) (fun _ _ _ _ _ h => h) hHeld ?_
          refine held_cell 8 49 (Go.Operand.tmp 52) (some 53) (.pointer (some ⟨X, 0, none⟩)) (.slice (some ⟨T, 0, none⟩) vs2.length cT) (by kernel_rfl) (by kernel_rfl) (fun V hV => load_slice X 0 V 49 (fun w => by kernel_rfl) _ ((hV.cell (p := ⟨X, 0, none⟩) hXl).trans c0)) (by kernel_rfl) (by kernel_rfl) (by kernel_rfl) (fun _ _ _ _ _ h => h) hHeld ?_
          refine held_move 9 (Go.Operand.tmp 5) (some 54) (.int .i64 (k : Int)) (by kernel_rfl) (by kernel_rfl) (by kernel_rfl) (by kernel_rfl) (by kernel_rfl) (fun _ _ _ _ _ h => h) hHeld ?_
          refine held_index 10 49 (Go.Operand.tmp 53) (Go.Operand.tmp 54) (some 55) (.slice (some ⟨T, 0, none⟩) vs2.length cT) (.int .i64 (k : Int)) (.pointer (some ⟨T, k, none⟩)) (by kernel_rfl) (by kernel_rfl) (fun w => idxT3 T vs2.length cT k hk2 w) (by kernel_rfl) (by kernel_rfl) (by kernel_rfl) (fun _ _ _ _ _ h => h) hHeld ?_
          refine held_cell 11 62 (Go.Operand.tmp 55) (some 56) (.pointer (some ⟨T, k, none⟩)) (.slice (some ⟨g, og, none⟩) l.length c) (by kernel_rfl) (by kernel_rfl) (fun V hV => load_slice T k V 62 (fun w => by kernel_rfl) _ ((hV.cell (p := ⟨T, k, none⟩) hTl).trans cT1)) (by kernel_rfl) (by kernel_rfl) (by kernel_rfl) (fun _ _ _ _ _ h => h) hHeld ?_
          refine held_move 12 (Go.Operand.tmp 6) (some 57) (.int .i64 (j : Int)) (by kernel_rfl) (by kernel_rfl) (by kernel_rfl) (by kernel_rfl) (by kernel_rfl) (fun _ _ _ _ _ h => h) hHeld ?_
          refine held_move 13 (Go.Operand.tmp 6) (some 58) (.int .i64 (j : Int)) (by kernel_rfl) (by kernel_rfl) (by kernel_rfl) (by kernel_rfl) (by kernel_rfl) (fun _ _ _ _ _ h => h) hHeld ?_
          refine held_bin 14 Go.BinOp.add 3 (Go.Operand.tmp 58) (Go.Operand.const (Go.Value.int Go.IntKind.i64 1)) 3 (some 59) (.int .i64 (j : Int)) (Go.Value.int Go.IntKind.i64 1) (.int .i64 ((j : Int) + 1)) (by kernel_rfl) (by kernel_rfl) (fun w => add_int _ _ _ w _ _ _ rfl (by omega) (by omega)) (by kernel_rfl) (by kernel_rfl) (by kernel_rfl) (fun _ _ _ _ _ h => h) hHeld ?_
          refine held_slice 15 62 (Go.Operand.tmp 56) (some (Go.Operand.tmp 57)) (some (Go.Operand.tmp 59)) none (some 60) (.slice (some ⟨g, og, none⟩) l.length c) (some (.int .i64 (j : Int))) (some (.int .i64 ((j : Int) + 1))) none (.slice (some ⟨g, og + j, none⟩) 1 (c - j)) (by kernel_rfl) (by kernel_rfl) (fun w => sliceAt_lhK Tryd.underlying62 (by kernel_rfl) g og l.length c j hcl hjl w) (by kernel_rfl) (by kernel_rfl) (by kernel_rfl) (fun _ _ _ _ _ h => h) hHeld ?_
          refine wpAnyH_done (by kernel_rfl) ?_ _
          show wpList _ _ _ _ _ _
          simp only [Act.put, List.setIfInBounds_toArray, List.set_cons_zero, List.set_cons_succ, List.drop_succ_cons, List.drop_zero]
          have hcT := (hHeld.cell (p := ⟨T, k, none⟩) hTl).trans cT1
          have hfT2 : wr2.drew.frozen? ⟨T, k, none⟩ = false := hfT
          clear cT1 hfT hHeld
          go_wp2_with fail
          go_roundw
          case rel => exact ⟨k + 1, by omega, by rw [HN.out.2]; rfl, by go_num, by rw [HN.out.1]; exact HS.out⟩
          case measure => simp [intOf] <;> omega
        · have hch : choice (keep.drop at_) (l.length - 1) = 0 := by rw [List.drop_of_length_le (by omega)]; rfl
          rw [hch] at hn hjl
          have HN := Lib.hid (And.intro (congrArg Prod.fst hn) (congrArg Prod.snd hn))
          have hati : ¬ (at_ : Int) < (keep.length : Int) := by omega
          have HD := Lib.hid (And.intro hd ht)
          clear hn hch hver hd ht
          go_upto_region 8 with (fail)
          refine wp_world (fun V => DdS V n X T cT P vs2 left gone ∧ Turn (fun q => q = T) w V) HD.out ?_
          clear HD c0 cT1 hcl
          rintro wr2 ⟨hd2, ht2⟩
          obtain ⟨A0, c, cT1, hcl, hver⟩ := hd2.sec k l hl2
          obtain ⟨g, og, _, _, rfl, _, _⟩ := hver 0 l[0] (List.getElem?_eq_getElem hp0)
          have hXl := hd2.ltX
          have hTl := hd2.ltT
          have c0 := hd2.c0
          have hfT := (hd2.fr k).2
          have hl1 : ((l.drop 0).take 1).length = 1 := by simp; omega
          have hv1 := (hver.cut 0 c hjl hcl).take 1
          rw [cutA_some hjl hcl, Nat.add_zero] at hv1
          have hset := (hd2.below (Below.drewNr (w := wr2) 1)).sect k hk2 (some ⟨g, og, none⟩) c ((l.drop 0).take 1) (by omega) (hv1.turn (F := fun _ => False) (Turn.of_below (Below.drewNr (w := wr2) 1)) (fun _ _ => id)) ⟨by omega, by omega, fun b hb => hp2 b (List.mem_of_mem_drop (List.mem_of_mem_take hb))⟩
          rw [hl1] at hset
          have HS := Lib.hid (And.intro hset.1 ((ht2.trans (Turn.of_below (F := fun q => q = T) (Below.drewNr (w := wr2) 1)) (fun q hq => .inl hq)).trans hset.2 (fun q hq => .inl hq)))
          clear hset hv1 hver hl1 hd2 ht2
          go_upto_region 9 with (fail)
          refine wp_region_held_cut (S := fun V => Below wr2.heap.size wr2 V) 16 (by kernel_rfl) (by kernel_rfl) (Below.drewNr (w := wr2) 1) (fun hHeld => ?_)
          refine held_move 0 (Go.Operand.tmp 0) (some 45) (.pointer (some ⟨X, 0, none⟩)) (by kernel_rfl) (by kernel_rfl) (by kernel_rfl) (by kernel_rfl) (by kernel_rfl) (fun _ _ _ _ _ h => h) hHeld ?_
          refine held_nil 1 (Go.Operand.tmp 45) (some 46) ⟨X, 0, none⟩ (by kernel_rfl) (by kernel_rfl) (by kernel_rfl) (by kernel_rfl) (by kernel_rfl) (fun _ _ _ _ _ h => h) hHeld ?_
          refine held_field 2 51 (Go.Operand.tmp 46) 0 (some 47) (.pointer (some ⟨X, 0, none⟩)) (.pointer (some ⟨X, 0, none⟩)) (by kernel_rfl) (by kernel_rfl) (fun w => by kernel_rfl) (by kernel_rfl) (by kernel_rfl) (by kernel_rfl) (fun _ _ _ _ _ h => h) hHeld ?_
          refine held_cell 3 49 (Go.Operand.tmp 47) (some 48) (.pointer (some ⟨X, 0, none⟩)) (.slice (some ⟨T, 0, none⟩) vs2.length cT) (by kernel_rfl) (by kernel_rfl) (fun V hV => load_slice X 0 V 49 (fun w => by kernel_rfl) _ ((hV.cell (p := ⟨X, 0, none⟩) hXl).trans c0)) (by kernel_rfl) (by kernel_rfl) (by kernel_rfl) (fun _ _ _ _ _ h => h) hHeld ?_
          refine held_move 4 (Go.Operand.tmp 5) (some 49) (.int .i64 (k : Int)) (by kernel_rfl) (by kernel_rfl) (by kernel_rfl) (by kernel_rfl) (by kernel_rfl) (fun _ _ _ _ _ h => h) hHeld ?_
          refine held_move 5 (Go.Operand.tmp 0) (some 50) (.pointer (some ⟨X, 0, none⟩)) (by kernel_rfl) (by kernel_rfl) (by kernel_rfl) (by kernel_rfl) (by kernel_rfl) (fun _ _ _ _ _ h => h) hHeld ?_
          refine held_nil 6 (Go.Operand.tmp 50) (some 51) ⟨X, 0, none⟩ (by kernel_rfl) (by kernel_rfl) (by kernel_rfl) (by kernel_rfl) (by kernel_rfl) (fun _ _ _ _ _ h => h) hHeld ?_
          refine held_field 7 51 (Go.Operand.tmp 51) 0 (some 52) (.pointer (some ⟨X, 0, none⟩)) (.pointer (some ⟨X, 0, none⟩)) (by kernel_rfl) (by kernel_rfl) (fun w => by kernel_rfl) (by kernel_rfl) (by kernel_rfl) (by kernel_rfl) (fun _ _ _ _ _ h => h) hHeld ?_
          refine held_cell 8 49 (Go.Operand.tmp 52) (some 53) (.pointer (some ⟨X, 0, none⟩)) (.slice (some ⟨T, 0, none⟩) vs2.length cT) (by kernel_rfl) (by kernel_rfl) (fun V hV => load_slice X 0 V 49 (fun w => by kernel_rfl) _ ((hV.cell (p := ⟨X, 0, none⟩) hXl).trans c0)) (by kernel_rfl) (by kernel_rfl) (by kernel_rfl) (fun _ _ _ _ _ h => h) hHeld ?_
          refine held_move 9 (Go.Operand.tmp 5) (some 54) (.int .i64 (k : Int)) (by kernel_rfl) (by kernel_rfl) (by kernel_rfl) (by kernel_rfl) (by kernel_rfl) (fun _ _ _ _ _ h => h) hHeld ?_
          refine held_index 10 49 (Go.Operand.tmp 53) (Go.Operand.tmp 54) (some 55) (.slice (some ⟨T, 0, none⟩) vs2.length cT) (.int .i64 (k : Int)) (.pointer (some ⟨T, k, none⟩)) (by kernel_rfl) (by kernel_rfl) (fun w => idxT3 T vs2.length cT k hk2 w) (by kernel_rfl) (by kernel_rfl) (by kernel_rfl) (fun _ _ _ _ _ h => h) hHeld ?_
          refine held_cell 11 62 (Go.Operand.tmp 55) (some 56) (.pointer (some ⟨T, k, none⟩)) (.slice (some ⟨g, og, none⟩) l.length c) (by kernel_rfl) (by kernel_rfl) (fun V hV => load_slice T k V 62 (fun w => by kernel_rfl) _ ((hV.cell (p := ⟨T, k, none⟩) hTl).trans cT1)) (by kernel_rfl) (by kernel_rfl) (by kernel_rfl) (fun _ _ _ _ _ h => h) hHeld ?_
          refine held_move 12 (Go.Operand.tmp 6) (some 57) (.int .i64 0) (by kernel_rfl) (by kernel_rfl) (by kernel_rfl) (by kernel_rfl) (by kernel_rfl) (fun _ _ _ _ _ h => h) hHeld ?_
          refine held_move 13 (Go.Operand.tmp 6) (some 58) (.int .i64 0) (by kernel_rfl) (by kernel_rfl) (by kernel_rfl) (by kernel_rfl) (by kernel_rfl) (fun _ _ _ _ _ h => h) hHeld ?_
          refine held_bin 14 Go.BinOp.add 3 (Go.Operand.tmp 58) (Go.Operand.const (Go.Value.int Go.IntKind.i64 1)) 3 (some 59) (.int .i64 0) (Go.Value.int Go.IntKind.i64 1) (.int .i64 1) (by kernel_rfl) (by kernel_rfl) (fun w => add_int _ _ _ w _ _ _ (by omega) (by omega) (by omega)) (by kernel_rfl) (by kernel_rfl) (by kernel_rfl) (fun _ _ _ _ _ h => h) hHeld ?_
          refine held_slice 15 62 (Go.Operand.tmp 56) (some (Go.Operand.tmp 57)) (some (Go.Operand.tmp 59)) none (some 60) (.slice (some ⟨g, og, none⟩) l.length c) (some (.int .i64 0)) (some (.int .i64 1)) none (.slice (some ⟨g, og, none⟩) 1 c) (by kernel_rfl) (by kernel_rfl) (fun w => sliceAt_l01 Tryd.underlying62 (by kernel_rfl) g og l.length c hcl hjl w) (by kernel_rfl) (by kernel_rfl) (by kernel_rfl) (fun _ _ _ _ _ h => h) hHeld ?_
          refine wpAnyH_done (by kernel_rfl) ?_ _
          show wpList _ _ _ _ _ _
          simp only [Act.put, List.setIfInBounds_toArray, List.set_cons_zero, List.set_cons_succ, List.drop_succ_cons, List.drop_zero]
          have hcT := (hHeld.cell (p := ⟨T, k, none⟩) hTl).trans cT1
          have hfT2 : wr2.drew.frozen? ⟨T, k, none⟩ = false := hfT
          clear cT1 hfT hHeld
          go_wp2_with fail
          go_roundw
          case rel => exact ⟨k + 1, by omega, by rw [HN.out.2]; rfl, by go_num, by rw [HN.out.1]; exact HS.out⟩
          case measure => simp [intOf] <;> omega
    · obtain rfl : k = vs.length := by omega
      have hp1 := hd.put 2 (.bool false) left false (.inr ⟨rfl, rfl, rfl⟩)
      have hp2 := hp1.1.put 1 (.int .i64 (-1)) (-1) false (.inl ⟨rfl, rfl, rfl, by omega, by omega⟩)
      have hX2 := hd.c2
      have hf2 := (hd.fr 2).1
      have hX1 := hp1.1.c1
      have hf1 := (hp1.1.fr 1).1
      have HF := Lib.hid (And.intro hp2.1 (((ht.mono (fun q hq => (.inr hq : q = X ∨ q = T))).trans hp1.2 (fun q hq => .inl (.inl hq))).trans hp2.2 (fun q hq => .inl (.inl hq))))
      clear hp1 hp2 hd ht
      go_wp2_with fail
      go_end0
      exact ⟨rfl, HF.out⟩
end
end Go.Proofs.YtionjhlllpipjaaDoor
