import Derived.Test.YtionjhlllpipjaaDoorDva
import Derived.Test.YtionjhlllpipjaaDoorDku
/-
  The document's disk: Read, Sync.
-/
namespace Go.Proofs.YtionjhlllpipjaaDoor
open Go.RowKit

theorem idxT3 (b n c i : Nat) (hi : i < n) (w : World) : (Instr.indexAt 49 (.slice (some ⟨b, 0, none⟩) n c) (.int .i64 (i : Int))).run Tryd.prog w = .ok (.pointer (some ⟨b, i, none⟩)) w := by
  have h := idx_slice 49 62 1 Tryd.underlying49 (fun w => by kernel_rfl) b 0 n c i hi w
  rwa [Nat.zero_add, Nat.mul_one] at h
theorem idxT2 (b o n c i : Nat) (hi : i < n) (w : World) : (Instr.indexAt 62 (.slice (some ⟨b, o, none⟩) n c) (.int .i64 (i : Int))).run Tryd.prog w = .ok (.pointer (some ⟨b, o + i, none⟩)) w := by
  have h := idx_slice 62 32 1 Tryd.underlying62 (fun w => by kernel_rfl) b o n c i hi w
  rwa [Nat.mul_one] at h
/-- Bytes of a list of bytes -/
theorem bytes_B (A : Option Addr) (l : List UInt8) (c : Nat) (w : World) (h : SlRead w A (bcells l)) (hl : l.length ≤ 100000) : Calls Tryd.prog 28 #[.slice A l.length c] w fun e w' => ∃ v, e = .returned v ∧ w'.ownsRow w.heap.size 5 1 v l.length (bcells l) ∧ Below w.heap.size w w' := by
  have h := bytes_any A (l.map fun b => (b.toNat : Int)) c w (by rw [← bcells_ints]; exact h) (by simp; omega)
  rw [List.length_map, ← bcells_ints] at h
  exact h
theorem VerR.cut {w : World} {P : Nat → Prop} {A : Option Addr} {l : List (List UInt8)} (h : VerR w P A l) (k c : Nat) (hk : k < l.length) (hc : l.length ≤ c) : VerR w P (cutA A k c) (l.drop k) := fun j b hb => by
  rw [List.getElem?_drop] at hb
  obtain ⟨g, o, Ab, cb, rfl, h1, h2, h3, h4, h5, h6⟩ := h (k + j) b hb
  exact ⟨g, o + k, Ab, cb, cutA_some hk hc, h1, h2, by rw [Nat.add_assoc]; exact h3, h4, h5, h6⟩
theorem VerR.take {w : World} {P : Nat → Prop} {A : Option Addr} {l : List (List UInt8)} (h : VerR w P A l) (k : Nat) : VerR w P A (l.take k) := fun j b hb => by
  rw [List.getElem?_take] at hb
  split at hb
  · exact h j b hb
  · cases hb
def lastV (l : List (List UInt8)) : List (List UInt8) := l.drop (l.length - 1)
def syncV (vs : List (List (List UInt8))) (k : Nat) : List (List (List UInt8)) := (vs.take k).map lastV ++ vs.drop k
theorem syncV_len (vs : List (List (List UInt8))) (k : Nat) (h : k ≤ vs.length) : (syncV vs k).length = vs.length := by simp [syncV]; omega
theorem syncV_get (vs : List (List (List UInt8))) (k : Nat) (h : k < vs.length) : (syncV vs k)[k]? = vs[k]? := by
  unfold syncV
  rw [List.getElem?_append_right (by simp; omega)]
  simp only [List.length_map, List.length_take, Nat.min_eq_left (Nat.le_of_lt h), Nat.sub_self, List.getElem?_drop, Nat.add_zero]
theorem syncV_set (vs : List (List (List UInt8))) (k : Nat) (l : List (List UInt8)) (hl : vs[k]? = some l) : (syncV vs k).set k (lastV l) = syncV vs (k + 1) := by
  have hk := (List.getElem?_eq_some_iff.1 hl).1
  have hd : vs.drop k = l :: vs.drop (k + 1) := by
    rw [List.drop_eq_getElem_cons hk]
    have := (List.getElem?_eq_some_iff.1 hl).2
    rw [this]
  unfold syncV
  rw [List.set_append_right _ _ (by simp; omega), hd, List.take_add_one, hl]
  simp [Nat.min_eq_left (Nat.le_of_lt hk)]
theorem syncV_all (vs : List (List (List UInt8))) : syncV vs vs.length = vs.map lastV := by simp [syncV]
section
variable {w : World} {n X T cT : Nat} {P : Nat → Prop} {vs : List (List (List UInt8))} {left : Int} {gone : Bool}
set_option maxRecDepth 100000 in
set_option maxHeartbeats 1600000 in
theorem dread_in (h : DdS w n X T cT P vs left false) (i : Nat) (l : List (List UInt8)) (hl : vs[i]? = some l) (b : List UInt8) (hb : l[l.length - 1]? = some b) : Calls Tryd.prog 22 #[.pointer (some ⟨X, 0, none⟩), .int .i64 (i : Int)] w fun e w' =>
    ∃ v, e = .returned (.tuple #[v, .int .i64 0]) ∧ w'.ownsRow w.heap.size 5 1 v 128 (bcells b) ∧ Below w.heap.size w w' := by
  have hc2 := h.c2
  have c0 := h.c0
  have hi := (List.getElem?_eq_some_iff.1 hl).1
  have hXl := h.ltX
  have hTl := h.ltT
  obtain ⟨hp0, hp1, hp2⟩ := h.pos l (List.mem_of_getElem? hl)
  have hblen := hp2 b (List.mem_of_getElem? hb)
  obtain ⟨A0, c, cT1, _, hver⟩ := h.sec i l hl
  obtain ⟨g, o, Ab, cb, rfl, _, hgl, cg, _, hbr, _⟩ := hver _ b hb
  have hlen := h.len.2
  have HBy : ∀ V, Below w.heap.size w V → Calls Tryd.prog 28 #[.slice Ab 128 cb] V fun e w' => ∃ v, e = .returned v ∧ w'.ownsRow V.heap.size 5 1 v 128 (bcells b) ∧ Below V.heap.size V w' := fun V hV => by
    have h := bytes_B Ab b cb V (hbr.below hV) (by omega)
    rwa [hblen] at h
  clear h hver hbr hp2 hl hb
  have d0 : ¬ (i : Int) < 0 := by omega
  have d1 : ¬ (vs.length : Int) ≤ (i : Int) := by omega
  go_enter Tryd.func22, Tryd.ntmps22
  go_upto_region 5 with (fail)
  refine wp_region_noPanic ?_
  refine wp_region_held_drew (S := fun V => Below w.heap.size w V) (by kernel_rfl) (Below.drewNr (w := w) 1) (fun hHeld => ?_)
  refine held_move 0 (Go.Operand.tmp 0) (some 23) (.pointer (some ⟨X, 0, none⟩)) (by kernel_rfl) (by kernel_rfl) (by kernel_rfl) (by kernel_rfl) (by kernel_rfl) (fun _ _ _ _ _ h => h) hHeld ?_
  refine held_nil 1 (Go.Operand.tmp 23) (some 24) ⟨X, 0, none⟩ (by kernel_rfl) (by kernel_rfl) (by kernel_rfl) (by kernel_rfl) (by kernel_rfl) (fun _ _ _ _ _ h => h) hHeld ?_
  refine held_field 2 51 (Go.Operand.tmp 24) 0 (some 25) (.pointer (some ⟨X, 0, none⟩)) (.pointer (some ⟨X, 0, none⟩)) (by kernel_rfl) (by kernel_rfl) (fun w => by kernel_rfl) (by kernel_rfl) (by kernel_rfl) (by kernel_rfl) (fun _ _ _ _ _ h => h) hHeld ?_
  refine held_cell 3 49 (Go.Operand.tmp 25) (some 26) (.pointer (some ⟨X, 0, none⟩)) (.slice (some ⟨T, 0, none⟩) vs.length cT) (by kernel_rfl) (by kernel_rfl) (fun V hV => load_slice X 0 V 49 (fun w => by kernel_rfl) _ ((hV.cell (p := ⟨X, 0, none⟩) hXl).trans c0)) (by kernel_rfl) (by kernel_rfl) (by kernel_rfl) (fun _ _ _ _ _ h => h) hHeld ?_
  refine held_move 4 (Go.Operand.tmp 1) (some 27) (.int .i64 (i : Int)) (by kernel_rfl) (by kernel_rfl) (by kernel_rfl) (by kernel_rfl) (by kernel_rfl) (fun _ _ _ _ _ h => h) hHeld ?_
  refine held_index 5 49 (Go.Operand.tmp 26) (Go.Operand.tmp 27) (some 28) (.slice (some ⟨T, 0, none⟩) vs.length cT) (.int .i64 (i : Int)) (.pointer (some ⟨T, i, none⟩)) (by kernel_rfl) (by kernel_rfl) (fun w => idxT3 T vs.length cT i hi w) (by kernel_rfl) (by kernel_rfl) (by kernel_rfl) (fun _ _ _ _ _ h => h) hHeld ?_
  refine held_cell 6 62 (Go.Operand.tmp 28) (some 29) (.pointer (some ⟨T, i, none⟩)) (.slice (some ⟨g, o, none⟩) l.length c) (by kernel_rfl) (by kernel_rfl) (fun V hV => load_slice T i V 62 (fun w => by kernel_rfl) _ ((hV.cell (p := ⟨T, i, none⟩) hTl).trans cT1)) (by kernel_rfl) (by kernel_rfl) (by kernel_rfl) (fun _ _ _ _ _ h => h) hHeld ?_
  refine held_move 7 (Go.Operand.tmp 0) (some 30) (.pointer (some ⟨X, 0, none⟩)) (by kernel_rfl) (by kernel_rfl) (by kernel_rfl) (by kernel_rfl) (by kernel_rfl) (fun _ _ _ _ _ h => h) hHeld ?_
  refine held_nil 8 (Go.Operand.tmp 30) (some 31) ⟨X, 0, none⟩ (by kernel_rfl) (by kernel_rfl) (by kernel_rfl) (by kernel_rfl) (by kernel_rfl) (fun _ _ _ _ _ h => h) hHeld ?_
  refine held_field 9 51 (Go.Operand.tmp 31) 0 (some 32) (.pointer (some ⟨X, 0, none⟩)) (.pointer (some ⟨X, 0, none⟩)) (by kernel_rfl) (by kernel_rfl) (fun w => by kernel_rfl) (by kernel_rfl) (by kernel_rfl) (by kernel_rfl) (fun _ _ _ _ _ h => h) hHeld ?_
  refine held_cell 10 49 (Go.Operand.tmp 32) (some 33) (.pointer (some ⟨X, 0, none⟩)) (.slice (some ⟨T, 0, none⟩) vs.length cT) (by kernel_rfl) (by kernel_rfl) (fun V hV => load_slice X 0 V 49 (fun w => by kernel_rfl) _ ((hV.cell (p := ⟨X, 0, none⟩) hXl).trans c0)) (by kernel_rfl) (by kernel_rfl) (by kernel_rfl) (fun _ _ _ _ _ h => h) hHeld ?_
  refine held_move 11 (Go.Operand.tmp 1) (some 34) (.int .i64 (i : Int)) (by kernel_rfl) (by kernel_rfl) (by kernel_rfl) (by kernel_rfl) (by kernel_rfl) (fun _ _ _ _ _ h => h) hHeld ?_
  refine held_index 12 49 (Go.Operand.tmp 33) (Go.Operand.tmp 34) (some 35) (.slice (some ⟨T, 0, none⟩) vs.length cT) (.int .i64 (i : Int)) (.pointer (some ⟨T, i, none⟩)) (by kernel_rfl) (by kernel_rfl) (fun w => idxT3 T vs.length cT i hi w) (by kernel_rfl) (by kernel_rfl) (by kernel_rfl) (fun _ _ _ _ _ h => h) hHeld ?_
  refine held_cell 13 62 (Go.Operand.tmp 35) (some 36) (.pointer (some ⟨T, i, none⟩)) (.slice (some ⟨g, o, none⟩) l.length c) (by kernel_rfl) (by kernel_rfl) (fun V hV => load_slice T i V 62 (fun w => by kernel_rfl) _ ((hV.cell (p := ⟨T, i, none⟩) hTl).trans cT1)) (by kernel_rfl) (by kernel_rfl) (by kernel_rfl) (fun _ _ _ _ _ h => h) hHeld ?_
  refine held_any 14 (Go.Op.call { callee := Go.Callee.builtin Go.Builtin.len, args := #[Go.Operand.tmp 36], argTypes := #[62] }) (some 37) (.int .i64 (l.length : Int)) (by kernel_rfl) (by kernel_rfl) (by kernel_rfl) (by kernel_rfl) (fun _ _ _ _ _ h => h) hHeld (fun oo ho w _ => exec_lenA (vx := .slice (some ⟨g, o, none⟩) l.length c) ho (by kernel_rfl) (fun _ => len_slice _ 32 _ Tryd.underlying62 (some ⟨g, o, none⟩) l.length c _)) ?_
  refine held_bin 15 Go.BinOp.sub 3 (Go.Operand.tmp 37) (Go.Operand.const (Go.Value.int Go.IntKind.i64 1)) 3 (some 38) (.int .i64 (l.length : Int)) (Go.Value.int Go.IntKind.i64 1) (.int .i64 ((l.length - 1 : Nat) : Int)) (by kernel_rfl) (by kernel_rfl) (fun w => sub_int _ _ _ w _ _ _ (by omega) (by omega) (by omega)) (by kernel_rfl) (by kernel_rfl) (by kernel_rfl) (fun _ _ _ _ _ h => h) hHeld ?_
  refine held_index 16 62 (Go.Operand.tmp 29) (Go.Operand.tmp 38) (some 39) (.slice (some ⟨g, o, none⟩) l.length c) (.int .i64 ((l.length - 1 : Nat) : Int)) (.pointer (some ⟨g, o + (l.length - 1), none⟩)) (by kernel_rfl) (by kernel_rfl) (fun w => idxT2 g o l.length c (l.length - 1) (by omega) w) (by kernel_rfl) (by kernel_rfl) (by kernel_rfl) (fun _ _ _ _ _ h => h) hHeld ?_
  refine held_cell 17 32 (Go.Operand.tmp 39) (some 40) (.pointer (some ⟨g, o + (l.length - 1), none⟩)) (.slice Ab 128 cb) (by kernel_rfl) (by kernel_rfl) (fun V hV => load_slice g (o + (l.length - 1)) V 32 (fun w => by kernel_rfl) _ ((hV.cell (p := ⟨g, o + (l.length - 1), none⟩) hgl).trans cg)) (by kernel_rfl) (by kernel_rfl) (by kernel_rfl) (fun _ _ _ _ _ h => h) hHeld ?_
  refine held_call 18 28 #[Go.Operand.tmp 40] #[32] (some 41) #[.slice Ab 128 cb] _ (by kernel_rfl) (by kernel_rfl) (by kernel_rfl) (by kernel_rfl) (HBy _ hHeld) ?_
  rintro e Y1 ⟨v1, rfl, hown, hbY⟩
  obtain ⟨Av, cv, rfl, _⟩ := own_slice hown
  refine ⟨_, rfl, hHeld.trans (hbY.mono hHeld.size), fun hHeld => ?_⟩
  refine held_assign 19 (Go.Operand.tmp 41) (some 4) (.slice Av 128 cv) (by kernel_rfl) (by kernel_rfl) (by kernel_rfl) (by kernel_rfl) (by kernel_rfl) (fun _ _ _ _ _ h => h) hHeld ?_
  refine held_assign 20 (Go.Operand.const (Go.Value.int Go.IntKind.i64 0)) (some 5) (Go.Value.int Go.IntKind.i64 0) (by kernel_rfl) (by kernel_rfl) (by kernel_rfl) (by kernel_rfl) (by kernel_rfl) (fun _ _ _ _ _ h => h) hHeld ?_
  refine wpAnyH_done (by kernel_rfl) ?_ _
  refine NoPanic.normal ?_
  simp only [put_list, List.set_cons_zero, List.set_cons_succ]
  have HF := Lib.hid (And.intro (ownsRow_lower hown (show w.heap.size ≤ _ from (by assumption : Below w.heap.size w _).size)) hHeld)
  go_wp2_with fail
  go_ret2
  exact ⟨_, rfl, HF.out⟩
set_option maxRecDepth 100000 in
set_option maxHeartbeats 1600000 in
theorem dsync_off (h : DdS w n X T cT P vs left true) : Calls Tryd.prog 16 #[.pointer (some ⟨X, 0, none⟩)] w fun e w' => e = .returned (.int .i64 101) ∧ w' = w := by
  have hc2 := h.c2
  clear h
  go_enter Tryd.func16, Tryd.ntmps16
  go_wp2_with fail
  go_ret
  exact ⟨rfl, rfl⟩
set_option maxRecDepth 100000 in
set_option maxHeartbeats 1600000 in
theorem dsync_fail (h : DdS w n X T cT P vs 0 false) : Calls Tryd.prog 16 #[.pointer (some ⟨X, 0, none⟩)] w fun e w' => e = .returned (.int .i64 101) ∧ DdS w' n X T cT P vs 0 true ∧ Turn (· = X) w w' := by
  have hc2 := h.c2
  have H := burn_any h
  rw [show decide ((0 : Int) ≠ 0) = false by decide] at H
  clear h
  go_enter Tryd.func16, Tryd.ntmps16
  go_wp2_with fail
  refine H.mono ?_
  rintro e W1 ⟨rfl, hd, ht⟩
  have HF := Lib.hid (And.intro hd ht)
  clear hd ht H
  go_wp2_with fail
  go_ret
  exact ⟨rfl, HF.out⟩
set_option maxRecDepth 100000 in
set_option maxHeartbeats 3200000 in
theorem dsync_ok (h : DdS w n X T cT P vs left false) (h0 : left ≠ 0) : Calls Tryd.prog 16 #[.pointer (some ⟨X, 0, none⟩)] w fun e w' => e = .returned (.int .i64 0) ∧ DdS w' n X T cT P (vs.map lastV) (burnL left) false ∧ Turn (fun q => q = X ∨ q = T) w w' := by
  have hc2 := h.c2
  have H := burn_any h
  rw [decide_eq_true h0, show burnG false left = false from if_neg h0] at H
  have hlen := h.len
  clear h
  generalize burnL left = left2 at *
  go_enter Tryd.func16, Tryd.ntmps16
  go_wp2_with fail
  refine H.mono ?_
  rintro e W1 ⟨rfl, hd, ht⟩
  clear H hc2 h0
  go_wp2_with fail
  go_loopw [3] (fun x wr => ∃ i : Nat, i ≤ vs.length ∧ x = .int .i64 (i : Int) ∧ DdS wr n X T cT P (syncV vs i) left2 false ∧ Turn (fun q => q = X ∨ q = T) w wr) (fun x _ => vs.length - (intOf x).toNat)
  case atStart => exact ⟨0, by omega, rfl, by simpa [syncV] using hd, ht.mono (fun q hq => .inl hq)⟩
  clear hd ht
  case round =>
    obtain ⟨i, hi, rfl, hd, ht⟩ := hrel
    have c0 := hd.c0
    have hsl := syncV_len vs i hi
    by_cases hlt : i < vs.length
    · obtain ⟨l, hl⟩ : ∃ l, vs[i]? = some l := ⟨vs[i], List.getElem?_eq_getElem hlt⟩
      have hl2 : (syncV vs i)[i]? = some l := (syncV_get vs i hlt).trans hl
      obtain ⟨hp0, hp1, hp2⟩ := hd.pos l (List.mem_of_getElem? hl2)
      obtain ⟨A0, c, cT1, hcl, hver⟩ := hd.sec i l hl2
      have hXl := hd.ltX
      have hTl := hd.ltT
      have hfT := (hd.fr i).2
      have hset := (hd.below (Below.drewNr (w := wr) 1)).sect i (by omega) (cutA A0 (l.length - 1) c) (c - (l.length - 1)) (lastV l) (by simp [lastV]; omega) ((hver.cut (l.length - 1) c (by omega) hcl).turn (F := fun _ => False) (Turn.of_below (Below.drewNr (w := wr) 1)) (fun _ _ => id)) ⟨by simp [lastV]; omega, by simp [lastV]; omega, fun b hb => hp2 b (List.mem_of_mem_drop hb)⟩
      rw [syncV_set vs i l hl, show (lastV l).length = l.length - (l.length - 1) by simp [lastV]] at hset
      have HS := Lib.hid (And.intro hset.1 ((ht.trans (Turn.of_below (F := fun q => q = X ∨ q = T) (Below.drewNr (w := wr) 1)) (fun q hq => .inl hq)).trans hset.2 (fun q hq => .inl (.inr hq))))
      obtain ⟨n0, hn0⟩ : ∃ n0, n0 = l.length := ⟨_, rfl⟩
      rw [← hn0] at HS hp0 hp1 hcl cT1
      generalize syncV vs i = vs2 at *
      have hi2 : i < vs2.length := by omega
      clear hset hver hp2 hd ht hn0 hl hl2
      have hilt : (i : Int) < (vs2.length : Int) := by omega
      go_upto_region 6 with (fail)
      refine wp_region_held_cut (S := fun V => Below wr.heap.size wr V) 22 (by kernel_rfl) (by kernel_rfl) (Below.drewNr (w := wr) 1) (fun hHeld => ?_)
      refine held_move 0 (Go.Operand.tmp 0) (some 22) (.pointer (some ⟨X, 0, none⟩)) (by kernel_rfl) (by kernel_rfl) (by kernel_rfl) (by kernel_rfl) (by kernel_rfl) (fun _ _ _ _ _ h => h) hHeld ?_
      refine held_nil 1 (Go.Operand.tmp 22) (some 23) ⟨X, 0, none⟩ (by kernel_rfl) (by kernel_rfl) (by kernel_rfl) (by kernel_rfl) (by kernel_rfl) (fun _ _ _ _ _ h => h) hHeld ?_
      refine held_field 2 51 (Go.Operand.tmp 23) 0 (some 24) (.pointer (some ⟨X, 0, none⟩)) (.pointer (some ⟨X, 0, none⟩)) (by kernel_rfl) (by kernel_rfl) (fun w => by kernel_rfl) (by kernel_rfl) (by kernel_rfl) (by kernel_rfl) (fun _ _ _ _ _ h => h) hHeld ?_
      refine held_cell 3 49 (Go.Operand.tmp 24) (some 25) (.pointer (some ⟨X, 0, none⟩)) (.slice (some ⟨T, 0, none⟩) vs2.length cT) (by kernel_rfl) (by kernel_rfl) (fun V hV => load_slice X 0 V 49 (fun w => by kernel_rfl) _ ((hV.cell (p := ⟨X, 0, none⟩) hXl).trans c0)) (by kernel_rfl) (by kernel_rfl) (by kernel_rfl) (fun _ _ _ _ _ h => h) hHeld ?_
      refine held_move 4 (Go.Operand.tmp 3) (some 26) (.int .i64 (i : Int)) (by kernel_rfl) (by kernel_rfl) (by kernel_rfl) (by kernel_rfl) (by kernel_rfl) (fun _ _ _ _ _ h => h) hHeld ?_
      refine held_move 5 (Go.Operand.tmp 0) (some 27) (.pointer (some ⟨X, 0, none⟩)) (by kernel_rfl) (by kernel_rfl) (by kernel_rfl) (by kernel_rfl) (by kernel_rfl) (fun _ _ _ _ _ h => h) hHeld ?_
      refine held_nil 6 (Go.Operand.tmp 27) (some 28) ⟨X, 0, none⟩ (by kernel_rfl) (by kernel_rfl) (by kernel_rfl) (by kernel_rfl) (by kernel_rfl) (fun _ _ _ _ _ h => h) hHeld ?_
      refine held_field 7 51 (Go.Operand.tmp 28) 0 (some 29) (.pointer (some ⟨X, 0, none⟩)) (.pointer (some ⟨X, 0, none⟩)) (by kernel_rfl) (by kernel_rfl) (fun w => by kernel_rfl) (by kernel_rfl) (by kernel_rfl) (by kernel_rfl) (fun _ _ _ _ _ h => h) hHeld ?_
      refine held_cell 8 49 (Go.Operand.tmp 29) (some 30) (.pointer (some ⟨X, 0, none⟩)) (.slice (some ⟨T, 0, none⟩) vs2.length cT) (by kernel_rfl) (by kernel_rfl) (fun V hV => load_slice X 0 V 49 (fun w => by kernel_rfl) _ ((hV.cell (p := ⟨X, 0, none⟩) hXl).trans c0)) (by kernel_rfl) (by kernel_rfl) (by kernel_rfl) (fun _ _ _ _ _ h => h) hHeld ?_
      refine held_move 9 (Go.Operand.tmp 3) (some 31) (.int .i64 (i : Int)) (by kernel_rfl) (by kernel_rfl) (by kernel_rfl) (by kernel_rfl) (by kernel_rfl) (fun _ _ _ _ _ h => h) hHeld ?_
      refine held_index 10 49 (Go.Operand.tmp 30) (Go.Operand.tmp 31) (some 32) (.slice (some ⟨T, 0, none⟩) vs2.length cT) (.int .i64 (i : Int)) (.pointer (some ⟨T, i, none⟩)) (by kernel_rfl) (by kernel_rfl) (fun w => idxT3 T vs2.length cT i hi2 w) (by kernel_rfl) (by kernel_rfl) (by kernel_rfl) (fun _ _ _ _ _ h => h) hHeld ?_
      refine held_cell 11 62 (Go.Operand.tmp 32) (some 33) (.pointer (some ⟨T, i, none⟩)) (.slice A0 n0 c) (by kernel_rfl) (by kernel_rfl) (fun V hV => load_slice T i V 62 (fun w => by kernel_rfl) _ ((hV.cell (p := ⟨T, i, none⟩) hTl).trans cT1)) (by kernel_rfl) (by kernel_rfl) (by kernel_rfl) (fun _ _ _ _ _ h => h) hHeld ?_
      refine held_move 12 (Go.Operand.tmp 0) (some 34) (.pointer (some ⟨X, 0, none⟩)) (by kernel_rfl) (by kernel_rfl) (by kernel_rfl) (by kernel_rfl) (by kernel_rfl) (fun _ _ _ _ _ h => h) hHeld ?_
      refine held_nil 13 (Go.Operand.tmp 34) (some 35) ⟨X, 0, none⟩ (by kernel_rfl) (by kernel_rfl) (by kernel_rfl) (by kernel_rfl) (by kernel_rfl) (fun _ _ _ _ _ h => h) hHeld ?_
      refine held_field 14 51 (Go.Operand.tmp 35) 0 (some 36) (.pointer (some ⟨X, 0, none⟩)) (.pointer (some ⟨X, 0, none⟩)) (by kernel_rfl) (by kernel_rfl) (fun w => by kernel_rfl) (by kernel_rfl) (by kernel_rfl) (by kernel_rfl) (fun _ _ _ _ _ h => h) hHeld ?_
      refine held_cell 15 49 (Go.Operand.tmp 36) (some 37) (.pointer (some ⟨X, 0, none⟩)) (.slice (some ⟨T, 0, none⟩) vs2.length cT) (by kernel_rfl) (by kernel_rfl) (fun V hV => load_slice X 0 V 49 (fun w => by kernel_rfl) _ ((hV.cell (p := ⟨X, 0, none⟩) hXl).trans c0)) (by kernel_rfl) (by kernel_rfl) (by kernel_rfl) (fun _ _ _ _ _ h => h) hHeld ?_
      refine held_move 16 (Go.Operand.tmp 3) (some 38) (.int .i64 (i : Int)) (by kernel_rfl) (by kernel_rfl) (by kernel_rfl) (by kernel_rfl) (by kernel_rfl) (fun _ _ _ _ _ h => h) hHeld ?_
      refine held_index 17 49 (Go.Operand.tmp 37) (Go.Operand.tmp 38) (some 39) (.slice (some ⟨T, 0, none⟩) vs2.length cT) (.int .i64 (i : Int)) (.pointer (some ⟨T, i, none⟩)) (by kernel_rfl) (by kernel_rfl) (fun w => idxT3 T vs2.length cT i hi2 w) (by kernel_rfl) (by kernel_rfl) (by kernel_rfl) (fun _ _ _ _ _ h => h) hHeld ?_
      refine held_cell 18 62 (Go.Operand.tmp 39) (some 40) (.pointer (some ⟨T, i, none⟩)) (.slice A0 n0 c) (by kernel_rfl) (by kernel_rfl) (fun V hV => load_slice T i V 62 (fun w => by kernel_rfl) _ ((hV.cell (p := ⟨T, i, none⟩) hTl).trans cT1)) (by kernel_rfl) (by kernel_rfl) (by kernel_rfl) (fun _ _ _ _ _ h => h) hHeld ?_
      refine held_any 19 (Go.Op.call { callee := Go.Callee.builtin Go.Builtin.len, args := #[Go.Operand.tmp 40], argTypes := #[62] }) (some 41) (.int .i64 (n0 : Int)) (by kernel_rfl) (by kernel_rfl) (by kernel_rfl) (by kernel_rfl) (fun _ _ _ _ _ h => h) hHeld (fun oo ho w _ => exec_lenA (vx := .slice A0 n0 c) ho (by kernel_rfl) (fun _ => len_slice _ 32 _ Tryd.underlying62 A0 n0 c _)) ?_
      refine held_bin 20 Go.BinOp.sub 3 (Go.Operand.tmp 41) (Go.Operand.const (Go.Value.int Go.IntKind.i64 1)) 3 (some 42) (.int .i64 (n0 : Int)) (Go.Value.int Go.IntKind.i64 1) (.int .i64 ((n0 - 1 : Nat) : Int)) (by kernel_rfl) (by kernel_rfl) (fun w => sub_int _ _ _ w _ _ _ (by omega) (by omega) (by omega)) (by kernel_rfl) (by kernel_rfl) (by kernel_rfl) (fun _ _ _ _ _ h => h) hHeld ?_
      refine held_slice 21 62 (Go.Operand.tmp 33) (some (Go.Operand.tmp 42)) none none (some 43) (.slice A0 n0 c) (some (.int .i64 ((n0 - 1 : Nat) : Int))) none none (.slice (cutA A0 (n0 - 1) c) (n0 - (n0 - 1)) (c - (n0 - 1))) (by kernel_rfl) (by kernel_rfl) (fun w => sliceAt_lK Tryd.underlying62 (by kernel_rfl) A0 n0 c (n0 - 1) (by omega) w) (by kernel_rfl) (by kernel_rfl) (by kernel_rfl) (fun _ _ _ _ _ h => h) hHeld ?_
      refine wpAnyH_done (by kernel_rfl) ?_ _
      show wpList _ _ _ _ _ _
      simp only [Act.put, List.setIfInBounds_toArray, List.set_cons_zero, List.set_cons_succ, List.drop_succ_cons, List.drop_zero]
      have hcT := (hHeld.cell (p := ⟨T, i, none⟩) hTl).trans cT1
      have hfT2 : wr.drew.frozen? ⟨T, i, none⟩ = false := hfT
      clear cT1 hfT hHeld
      go_wp2_with fail
      go_roundw
      case rel => exact ⟨i + 1, by omega, by go_num, HS.out⟩
      case measure => simp [intOf] <;> omega
    · obtain rfl : i = vs.length := by omega
      rw [syncV_all] at hd c0
      have HF := Lib.hid (And.intro hd ht)
      have hml : (vs.map lastV).length = vs.length := by simp
      clear hd ht
      rw [hml] at c0
      go_wp2_with fail
      go_ret
      exact ⟨rfl, HF.out⟩
end
end Go.Proofs.YtionjhlllpipjaaDoor
