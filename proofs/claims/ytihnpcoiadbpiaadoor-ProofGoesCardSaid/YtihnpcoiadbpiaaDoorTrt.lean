import Derived.Test.YtihnpcoiadbpiaaDoorTnd
namespace Go.Proofs.YtihnpcoiadbpiaaDoor
open Go.RowKit

def rootF : Nat → List (Nat → BitVec 8) → (Nat → BitVec 8)
  | 0, _ => shaOf []
  | _ + 1, [] => shaOf []
  | _ + 1, [h] => h
  | n + 1, h :: g :: hs => nodeOf (rootF n ((h :: g :: hs).take (spl (h :: g :: hs).length))) (rootF n ((h :: g :: hs).drop (spl (h :: g :: hs).length)))
def rootOf (hs : List (Nat → BitVec 8)) : Nat → BitVec 8 := rootF hs.length hs
theorem rootF_eq : ∀ (n m : Nat) (hs : List (Nat → BitVec 8)), hs.length ≤ n → hs.length ≤ m → rootF n hs = rootF m hs
  | 0, 0, _, _, _ => rfl
  | 0, m + 1, hs, h, _ => by
    obtain rfl := List.eq_nil_of_length_eq_zero (Nat.le_zero.1 h)
    rfl
  | n + 1, 0, hs, _, h => by
    obtain rfl := List.eq_nil_of_length_eq_zero (Nat.le_zero.1 h)
    rfl
  | n + 1, m + 1, [], _, _ => rfl
  | n + 1, m + 1, [h], _, _ => rfl
  | n + 1, m + 1, h :: g :: hs, h1, h2 => by
    have hs2 := spl_spec (h :: g :: hs).length (by simp)
    have a1 : ((h :: g :: hs).take (spl (h :: g :: hs).length)).length ≤ n := by rw [List.length_take]; omega
    have a2 : ((h :: g :: hs).take (spl (h :: g :: hs).length)).length ≤ m := by rw [List.length_take]; omega
    have a3 : ((h :: g :: hs).drop (spl (h :: g :: hs).length)).length ≤ n := by rw [List.length_drop]; omega
    have a4 : ((h :: g :: hs).drop (spl (h :: g :: hs).length)).length ≤ m := by rw [List.length_drop]; omega
    show nodeOf (rootF n _) (rootF n _) = nodeOf (rootF m _) (rootF m _)
    rw [rootF_eq n m _ a1 a2, rootF_eq n m _ a3 a4]
theorem rootOf_two (hs : List (Nat → BitVec 8)) (h : 2 ≤ hs.length) : rootOf hs = nodeOf (rootOf (hs.take (spl hs.length))) (rootOf (hs.drop (spl hs.length))) := by
  rcases hs with _ | ⟨x, _ | ⟨y, hs⟩⟩
  · simp at h
  · simp at h
  · have hs2 := spl_spec (x :: y :: hs).length (by simp)
    have hl : (x :: y :: hs).length = hs.length + 2 := by simp
    unfold rootOf
    rw [show rootF (x :: y :: hs).length (x :: y :: hs) = nodeOf (rootF (hs.length + 1) ((x :: y :: hs).take (spl (x :: y :: hs).length))) (rootF (hs.length + 1) ((x :: y :: hs).drop (spl (x :: y :: hs).length))) from rfl]
    rw [rootF_eq (hs.length + 1) ((x :: y :: hs).take (spl (x :: y :: hs).length)).length _ (by rw [List.length_take]; omega) (Nat.le_refl _), rootF_eq (hs.length + 1) ((x :: y :: hs).drop (spl (x :: y :: hs).length)).length _ (by rw [List.length_drop]; omega) (Nat.le_refl _)]
def hcells (hs : List (Nat → BitVec 8)) : List Value := hs.flatMap fun h => (arr8 32 h).toList
theorem hcells_length (hs : List (Nat → BitVec 8)) : (hcells hs).length = 32 * hs.length := by
  unfold hcells
  induction hs with
  | nil => rfl
  | cons h hs ih => simp only [List.flatMap_cons, List.length_append, ih, List.length_cons, Array.length_toList, arr8_size]; omega
theorem hcells_append (a b : List (Nat → BitVec 8)) : hcells (a ++ b) = hcells a ++ hcells b := by simp [hcells]
theorem SlRead.htake {w : World} {A : Option Addr} {hs : List (Nat → BitVec 8)} (h : SlRead w A (hcells hs)) (k : Nat) (_hk : k ≤ hs.length) : SlRead w A (hcells (hs.take k)) := by
  intro hn
  have e : hcells hs = hcells (hs.take k) ++ hcells (hs.drop k) := by rw [← hcells_append, List.take_append_drop]
  obtain ⟨b, o, rfl, hlt, hc⟩ := h (by rw [e, List.length_append]; omega)
  refine ⟨b, o, rfl, hlt, fun j u hj => hc j u ?_⟩
  rw [e, List.getElem?_append_left (List.getElem?_eq_some_iff.1 hj).1]
  exact hj
theorem SlRead.hdrop {w : World} {b o : Nat} {hs : List (Nat → BitVec 8)} (h : SlRead w (some ⟨b, o, none⟩) (hcells hs)) (k : Nat) (hk : k ≤ hs.length) : SlRead w (some ⟨b, o + 32 * k, none⟩) (hcells (hs.drop k)) := by
  intro hn
  have e : hcells hs = hcells (hs.take k) ++ hcells (hs.drop k) := by rw [← hcells_append, List.take_append_drop]
  obtain ⟨b', o', e', hlt, hc⟩ := h (by rw [e, List.length_append]; omega)
  injection e' with e'
  injection e' with e1 e2
  subst e1 e2
  refine ⟨b, o + 32 * k, rfl, hlt, fun j u hj => ?_⟩
  have hl : (hcells (hs.take k)).length = 32 * k := by rw [hcells_length, List.length_take]; congr 1; omega
  have := hc (32 * k + j) u (by rw [e, List.getElem?_append_right (by omega), hl, show 32 * k + j - 32 * k = j by omega]; exact hj)
  rw [show o + 32 * k + j = o + (32 * k + j) by omega]
  exact this
theorem info32 : (Tryd.prog.info? 24).map (·.size) = some 32 := by kernel_rfl
theorem sl32_h (b o n cap k : Nat) (hk : k ≤ cap) (w : World) : (Instr.sliceAt 26 (.slice (some ⟨b, o, none⟩) n cap) none (some (.int .i64 (k : Int))) none).run Tryd.prog w = .ok (.slice (some ⟨b, o, none⟩) k cap) w := by
  have hu := Tryd.underlying26
  have e2 : Tryd.prog.elem 26 = 24 := by simp [Program.elem, hu]
  have := run_slice_h (P := Tryd.prog) w 26 (some ⟨b, o, none⟩) n cap (by rw [e2]; exact hu) .i64 (k : Int) (by omega) (by omega)
  rw [e2] at this
  obtain ⟨i, hi, hz⟩ := Option.map_eq_some_iff.1 info32
  rw [run_sliceAt_slice (h := by rw [e2]; exact hu), this]
  simp [sizeOf, typeInfo, hi, hz, Result.andThen, sliced, Addr.add]
theorem sl32_l (b o n cap k : Nat) (hk : k < cap) (hn : k ≤ n) (w : World) : (Instr.sliceAt 26 (.slice (some ⟨b, o, none⟩) n cap) (some (.int .i64 (k : Int))) none none).run Tryd.prog w = .ok (.slice (some ⟨b, o + 32 * k, none⟩) (n - k) (cap - k)) w := by
  have hu := Tryd.underlying26
  have e2 : Tryd.prog.elem 26 = 24 := by simp [Program.elem, hu]
  have := run_slice_l (P := Tryd.prog) w 26 (some ⟨b, o, none⟩) n cap (by rw [e2]; exact hu) .i64 (k : Int) (by omega) (by omega)
  rw [e2] at this
  obtain ⟨i, hi, hz⟩ := Option.map_eq_some_iff.1 info32
  rw [run_sliceAt_slice (h := by rw [e2]; exact hu), this]
  have hne : ¬ cap = k := by omega
  simp [sizeOf, typeInfo, hi, hz, Result.andThen, sliced, Addr.add, hne]
  try (split <;> simp <;> omega)

theorem idx32_0 (b o n cap : Nat) (hn : 0 < n) (w : World) : (Instr.indexAt 26 (.slice (some ⟨b, o, none⟩) n cap) (.int .i64 0)).run Tryd.prog w = .ok (.pointer (some ⟨b, o, none⟩)) w := by
  have hu := Tryd.underlying26
  have e2 : Tryd.prog.elem 26 = 24 := by simp [Program.elem, hu]
  obtain ⟨i, hi, hz⟩ := Option.map_eq_some_iff.1 info32
  rw [run_indexAt_slice (h := by rw [e2]; exact hu)]
  simp [e2, sizeOf, typeInfo, hi, hz, Result.andThen, Addr.add]
  intro h; omega

set_option maxRecDepth 100000 in
set_option maxHeartbeats 800000 in
theorem root_any_small (hs : List (Nat → BitVec 8)) (A : Option Addr) (cap : Nat) (w : World) (hn : hs.length < 2) (hA : SlRead w A (hcells hs)) (hc : hs.length ≤ cap) (_hcap : hs.length ≤ 4611686018427387904) (hk : KAt w) :
    Calls Tryd.prog 23 #[.slice A hs.length cap] w fun e w' => e = .returned (.agg (arr8 32 (rootOf hs))) ∧ Below w.heap.size w w' := by
  rcases hs with _ | ⟨h, hs⟩
  · have hr : rootOf [] = shaOf [] := rfl
    rw [hr]
    have e0 : (((0 : Nat) : Int) == 0) = true := by decide
    simp only [List.length_nil]
    go_enter Tryd.func23, Tryd.ntmps23
    go_wp2_with fail
    refine (suml_any none [] 0 _ SlRead.nil_ (by simp) (by simp) (hk.below ((Below.refl _ _).alloc (Nat.le_refl _) _))).mono ?_
    rw [show flat [] = [] from rfl]
    rintro e W ⟨rfl, hb⟩
    have hx := (rowIs_new w (Array.replicate 32 (.int .u8 0)) 24 w.heap.size 32 (fun _ => .int .u8 0) rfl (by simp) (fun i hi => by simp [hi])).of_block (hb.block _ (by simp))
    have hbb : Below w.heap.size w W := ((Below.refl _ _).alloc (Nat.le_refl _) _).trans (hb.mono (by simp))
    obtain ⟨ox, hx3, hx4, _⟩ := hx
    generalize hF : shaOf [] = F at *
    have HF := Lib.hid hF; clear hF
    have hbs := below_setRow (g := w.heap.size) hbb (Nat.le_refl _) (arr8 32 F)
    clear hb hbb
    go_wp2_with (refine wpList_store_row rfl 24 _ _ rfl _ (arr8 32 F) rfl rfl _ _ hx3 (by kernel_rfl) (by simpa using hx4) (arr8_one _ _) ?_)
    refine bodyPost_ret (results_cell_row rfl _ _ _ _ _ _ _ rfl (setRow_heap _ _ _ _ _ _ hx3) Tryd.underlying24 rfl (by kernel_rfl)) rfl ?_
    rw [HF.out]
    exact ⟨rfl, hbs⟩
  · obtain rfl : hs = [] := List.eq_nil_of_length_eq_zero (by simp at hn; omega)
    have hr : rootOf [h] = h := rfl
    rw [hr]
    clear hr
    simp only [List.length_cons, List.length_nil, Nat.zero_add] at hc ⊢
    obtain ⟨b, o, rfl, hblt, hcell⟩ := hA (by rw [hcells_length]; simp)
    have hrg : w.rangeAt b o (arr8 32 h).toList := fun j v hv => hcell j v (by simpa [hcells] using hv)
    clear hA hcell
    have e0 : (((1 : Nat) : Int) == 0) = false := by decide
    have e1 : (((1 : Nat) : Int) == 1) = true := by decide
    go_enter Tryd.func23, Tryd.ntmps23
    go_upto_region 5 with (fail)
    refine wp_world (fun W => Below w.heap.size w W ∧ W.rowIs w.heap.size 24 32 (fun _ => .int .u8 0) ∧ W.rangeAt b o (arr8 32 h).toList ∧ b < W.heap.size) ?_ ?_
    · have hb0 : Below w.heap.size w (w.alloc (.cells (Array.replicate 32 (.int .u8 0)) 24)) := (Below.refl _ _).alloc (Nat.le_refl _) _
      exact ⟨hb0, rowIs_new w (Array.replicate 32 (.int .u8 0)) 24 w.heap.size 32 (fun _ => .int .u8 0) rfl (by simp) (fun i hi => by simp [hi]), fun j v hv => (hb0.cell (p := ⟨b, o + j, none⟩) hblt).trans (hrg j v hv), Nat.lt_of_lt_of_le hblt hb0.size⟩
    rintro W ⟨hb0, hx, hrg0, hbW⟩
    have HLD : ∀ w', Below W.heap.size W w' → (Instr.loadAt 24 (.pointer (some ⟨b, o, none⟩))).run Tryd.prog w' = .ok (.agg (arr8 32 h)) w' := by
      intro w' hb
      have := load_row (P := Tryd.prog) 24 b o (arr8 32 h).toList _ Tryd.underlying24 rfl (by simp only [Array.length_toList, arr8_size]; kernel_rfl) w' (fun j v hv => (hb.cell (p := ⟨b, o + j, none⟩) hbW).trans (hrg0 j v hv))
      simpa using this
    clear hrg hrg0
    refine wp_region_text_tail 3 [Sp.k 0 (some 11) [] (.slice (some ⟨b, o, none⟩) 1 cap),
      Sp.k 1 (some 12) [0] (.pointer (some ⟨b, o, none⟩)),
      Sp.k 2 (some 13) [1] (.agg (arr8 32 h))] (by kernel_rfl)
      ⟨owes_move 0 (some 11) [] (.slice (some ⟨b, o, none⟩) 1 cap) (Go.Operand.tmp 0) (fun v => by kernel_rfl) (fun v => by kernel_rfl),
      owes_index 1 (some 12) [0] (.pointer (some ⟨b, o, none⟩)) 26 (Go.Operand.tmp 11) (Go.Operand.const (Go.Value.int Go.IntKind.i64 0)) (.slice (some ⟨b, o, none⟩) 1 cap) (Go.Value.int Go.IntKind.i64 0) (fun v => by kernel_rfl) (fun v => by kernel_rfl) (idx32_0 b o 1 cap (by omega)),
      owes_load 2 (some 13) [1] (.agg (arr8 32 h)) 24 (Go.Operand.tmp 12) (.pointer (some ⟨b, o, none⟩)) (fun v => by kernel_rfl) (fun v => by kernel_rfl) (fun w' hb => HLD w' hb), trivial⟩ ?_
    intro v w' hb' hall
    clear hall HLD
    simp only [putsL_k, putsL_nil, List.set_cons_zero, List.set_cons_succ]
    simp only [List.drop_succ_cons, List.drop_zero]
    have hbb : Below w.heap.size w w' := hb0.trans (hb'.mono hb0.size)
    obtain ⟨ox, hx3, hx4, _⟩ := hx.of_block (hb'.block _ hx.lt)
    have hbs := below_setRow (g := w.heap.size) hbb (Nat.le_refl _) (arr8 32 h)
    clear hbb hb' hb0 hx
    refine wpList_store_row rfl 24 _ _ rfl w.heap.size (arr8 32 h) rfl rfl _ _ hx3 (by kernel_rfl) (by simpa using hx4) (arr8_one _ _) ?_
    go_wp2_with fail
    refine bodyPost_ret (results_cell_row rfl _ _ _ _ _ _ _ rfl (setRow_heap _ _ _ _ _ _ hx3) Tryd.underlying24 rfl (by kernel_rfl)) rfl ?_
    exact ⟨rfl, hbs⟩

set_option maxRecDepth 100000 in
set_option maxHeartbeats 1600000 in
theorem root_any (n : Nat) : ∀ (hs : List (Nat → BitVec 8)) (A : Option Addr) (cap : Nat) (w : World), hs.length ≤ n → SlRead w A (hcells hs) → hs.length ≤ cap → hs.length ≤ 4611686018427387904 → KAt w → 
    Calls Tryd.prog 23 #[.slice A hs.length cap] w fun e w' => e = .returned (.agg (arr8 32 (rootOf hs))) ∧ Below w.heap.size w w' := by
  induction n with
  | zero => exact fun hs A cap w h1 h2 h3 h4 h5 => root_any_small hs A cap w (by omega) h2 h3 h4 h5
  | succ n ih =>
  intro hs A cap w hn hA hc hcap hk
  by_cases hsm : hs.length < 2
  · exact root_any_small hs A cap w hsm hA hc hcap hk
  obtain ⟨b, o, rfl, hblt, hcell⟩ := hA (by rw [hcells_length]; omega)
  have hA : SlRead w (some ⟨b, o, none⟩) (hcells hs) := fun _ => ⟨b, o, rfl, hblt, hcell⟩
  clear hblt hcell
  have hsp := spl_spec hs.length (by omega)
  have hrt := rootOf_two hs (by omega)
  have htl : (hs.take (spl hs.length)).length = spl hs.length := by rw [List.length_take]; omega
  have hdl : (hs.drop (spl hs.length)).length = hs.length - spl hs.length := by rw [List.length_drop]
  have hkpos : 0 < spl hs.length := by omega
  have ihL := fun w' h => ih (hs.take (spl hs.length)) (some ⟨b, o, none⟩) cap w' (by omega) h (by omega) (by omega)
  have ihR := fun w' h => ih (hs.drop (spl hs.length)) (some ⟨b, o + 32 * spl hs.length, none⟩) (cap - spl hs.length) w' (by omega) h (by omega) (by omega)
  rw [htl] at ihL
  rw [hdl] at ihR
  have hAL := fun w' (h : SlRead w' (some ⟨b, o, none⟩) (hcells hs)) => h.htake (spl hs.length) (by omega)
  have hAR := fun w' (h : SlRead w' (some ⟨b, o, none⟩) (hcells hs)) => h.hdrop (spl hs.length) (by omega)
  rw [hrt]
  generalize hm : hs.length = m at *
  generalize hkk : spl m = k at *
  generalize rootOf (hs.take k) = FL at *
  generalize rootOf (hs.drop k) = FR at *
  have HK := Lib.hid hkk
  have hspl : ∀ W : World, Calls Tryd.prog 22 #[.int .i64 (m : Int)] W fun e w' => e = .returned (.int .i64 (k : Int)) ∧ Below W.heap.size W w' := by
    intro W
    have := split_any (m : Int) (by omega) W
    rwa [Int.toNat_natCast, HK.out] at this
  clear hkk hm htl hdl hrt ih hsm
  have e0 : ((m : Int) == 0) = false := by simp; omega
  have e1 : ((m : Int) == 1) = false := by simp; omega
  go_enter Tryd.func23, Tryd.ntmps23
  go_upto_region 6 with (fail)
  refine wp_world (fun W => Below w.heap.size w W ∧ W.rowIs w.heap.size 24 32 (fun _ => .int .u8 0)) ?_ ?_
  · exact ⟨(Below.refl _ _).alloc (Nat.le_refl _) _, rowIs_new w (Array.replicate 32 (.int .u8 0)) 24 w.heap.size 32 (fun _ => .int .u8 0) rfl (by simp) (fun i hi => by simp [hi])⟩
  rintro W ⟨hb, hx⟩
  have hA := hA.below hb
  have hk := hk.below hb
  generalize hB : w.heap.size = B at *
  have HB := Lib.hid hB; clear hB
  go_wp2_with fail
  refine (hspl W).mono ?_
  rintro e W1 ⟨rfl, hb1⟩
  have hBW : B ≤ W.heap.size := by have := hx.lt; omega
  have hA := hA.below hb1
  have hk := hk.below hb1
  have hx := hx.of_block (hb1.block _ hx.lt)
  have hb := hb.trans (hb1.mono hBW)
  clear hspl hb1
  go_upto_region 7 with (fail)
  have hAd : SlRead W1.drew (some ⟨b, o, none⟩) (hcells hs) := hA.below (Below.drewNr (w := W1) 1)
  have hkd : KAt W1.drew := hk.of_block rfl
  have HL : ∀ w', Below W1.drew.heap.size W1.drew w' → Calls Tryd.prog 23 #[.slice (some ⟨b, o, none⟩) k cap] w' fun e w'' => e = .returned (.agg (arr8 32 FL)) ∧ Below w'.heap.size w' w'' := fun w' hb => ihL w' (hAL w' (hAd.below hb)) (hkd.below hb)
  have HR : ∀ w', Below W1.drew.heap.size W1.drew w' → Calls Tryd.prog 23 #[.slice (some ⟨b, o + 32 * k, none⟩) (m - k) (cap - k)] w' fun e w'' => e = .returned (.agg (arr8 32 FR)) ∧ Below w'.heap.size w' w'' := fun w' hb => ihR w' (hAR w' (hAd.below hb)) (hkd.below hb)
  have HN : ∀ w', Below W1.drew.heap.size W1.drew w' → Calls Tryd.prog 28 #[.agg (arr8 32 FL), .agg (arr8 32 FR)] w' fun e w'' => e = .returned (.agg (arr8 32 (nodeOf FL FR))) ∧ Below w'.heap.size w' w'' := fun w' hb => node_any FL FR w' (hkd.below hb)
  generalize hF : nodeOf FL FR = F at *
  have HF := Lib.hid hF; clear hF
  clear ihL ihR hAL hAR
  refine wp_region_spec_tail 9 [Sp.k 0 (some 17) [] (.slice (some ⟨b, o, none⟩) m cap),
    Sp.k 1 (some 18) [] (.int .i64 k),
    Sp.k 2 (some 19) [0, 1] (.slice (some ⟨b, o, none⟩) k cap),
    Sp.k 3 (some 20) [2] (.agg (arr8 32 FL)),
    Sp.k 4 (some 21) [] (.slice (some ⟨b, o, none⟩) m cap),
    Sp.k 5 (some 22) [] (.int .i64 k),
    Sp.k 6 (some 23) [4, 5] (.slice (some ⟨b, o + 32 * k, none⟩) (m - k) (cap - k)),
    Sp.k 7 (some 24) [6] (.agg (arr8 32 FR)),
    Sp.k 8 (some 25) [3, 7] (.agg (arr8 32 F))] (by kernel_rfl) (by kernel_rfl)
    ⟨owes_move 0 (some 17) [] (.slice (some ⟨b, o, none⟩) m cap) (Go.Operand.tmp 0) (fun v => by kernel_rfl) (fun v => by kernel_rfl),
    owes_move 1 (some 18) [] (.int .i64 k) (Go.Operand.tmp 3) (fun v => by kernel_rfl) (fun v => by kernel_rfl),
    owes_slice 2 (some 19) [0, 1] (.slice (some ⟨b, o, none⟩) k cap) 26 (Go.Operand.tmp 17) none (some (Go.Operand.tmp 18)) none (.slice (some ⟨b, o, none⟩) m cap) none (some (.int .i64 k)) none (fun v => by kernel_rfl) (fun v => by kernel_rfl) (sl32_h b o _ cap k (by omega)),
    owes_call 3 (some 20) [2] (.agg (arr8 32 FL)) 23 #[Go.Operand.tmp 19] #[26] (fun v => by kernel_rfl) (fun _ _ => by kernel_rfl) (fun v w' hb ho => by
        exact ⟨#[.slice (some ⟨b, o, none⟩) k cap], by kernel_rfl, (HL w' hb).mono (fun _ _ h => h)⟩),
    owes_move 4 (some 21) [] (.slice (some ⟨b, o, none⟩) m cap) (Go.Operand.tmp 0) (fun v => by kernel_rfl) (fun v => by kernel_rfl),
    owes_move 5 (some 22) [] (.int .i64 k) (Go.Operand.tmp 3) (fun v => by kernel_rfl) (fun v => by kernel_rfl),
    owes_slice 6 (some 23) [4, 5] (.slice (some ⟨b, o + 32 * k, none⟩) (m - k) (cap - k)) 26 (Go.Operand.tmp 21) (some (Go.Operand.tmp 22)) none none (.slice (some ⟨b, o, none⟩) m cap) (some (.int .i64 k)) none none (fun v => by kernel_rfl) (fun v => by kernel_rfl) (sl32_l b o m cap k (by omega) (by omega)),
    owes_call 7 (some 24) [6] (.agg (arr8 32 FR)) 23 #[Go.Operand.tmp 23] #[26] (fun v => by kernel_rfl) (fun _ _ => by kernel_rfl) (fun v w' hb ho => by
        exact ⟨#[.slice (some ⟨b, o + 32 * k, none⟩) (m - k) (cap - k)], by kernel_rfl, (HR w' hb).mono (fun _ _ h => h)⟩),
    owes_call 8 (some 25) [3, 7] (.agg (arr8 32 F)) 28 #[Go.Operand.tmp 20, Go.Operand.tmp 24] #[24, 24] (fun v => by kernel_rfl) (fun _ _ => by kernel_rfl) (fun v w' hb ho => by
        exact ⟨#[.agg (arr8 32 FL), .agg (arr8 32 FR)], by kernel_rfl, (HN w' hb).mono (fun _ _ h => h)⟩), trivial⟩ ?_
  intro v w' hb' hall
  clear hall HL HR HN
  have hbb : Below B w w' := hb.trans ((Below.drewNr (w := W1) 1).trans (hb'.mono (show B ≤ W1.heap.size by have := hx.lt; omega)))
  simp only [putsL_k, putsL_nil, List.set_cons_zero, List.set_cons_succ]
  simp only [List.drop_succ_cons, List.drop_zero]
  have hx2 := hx.of_block (hb'.block _ hx.lt)
  obtain ⟨ox, hx3, hx4, _⟩ := hx2
  have hbs := below_setRow (g := B) hbb (by omega) (arr8 32 F)
  clear hbb hb'
  refine wpList_store_row rfl 24 _ _ rfl B (arr8 32 F) rfl rfl _ _ hx3 (by kernel_rfl) (by simpa using hx4) (arr8_one _ _) ?_
  go_wp2_with fail
  refine bodyPost_ret (results_cell_row rfl _ _ _ _ _ _ _ rfl (setRow_heap _ _ _ _ _ _ hx3) Tryd.underlying24 rfl (by kernel_rfl)) rfl ?_
  rw [HB.out, HF.out]
  exact ⟨rfl, hbs⟩
end Go.Proofs.YtihnpcoiadbpiaaDoor
