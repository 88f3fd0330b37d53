import Derived.Test.YtmbfjnbanlhjpaaDoorHex
import Derived.Lib.AppendStr
namespace Go.Proofs.YtmbfjnbanlhjpaaDoor
open Go.RowKit

def tx : Nat → ByteArray
  | 0 => ⟨#[97, 98, 99]⟩
  | 1 => ⟨#[97, 98, 99, 100, 98, 99, 100, 101, 99, 100, 101, 102, 100, 101, 102, 103, 101, 102, 103, 104, 102, 103, 104, 105, 103, 104, 105, 106, 104, 105, 106, 107, 105, 106, 107, 108, 106, 107, 108, 109, 107, 108, 109, 110, 108, 109, 110, 111, 109, 110, 111, 112, 110, 111, 112, 113]⟩
  | _ => ⟨#[]⟩
def wn : Nat → ByteArray
  | 0 => ⟨#[98, 97, 55, 56, 49, 54, 98, 102, 56, 102, 48, 49, 99, 102, 101, 97, 52, 49, 52, 49, 52, 48, 100, 101, 53, 100, 97, 101, 50, 50, 50, 51, 98, 48, 48, 51, 54, 49, 97, 51, 57, 54, 49, 55, 55, 97, 57, 99, 98, 52, 49, 48, 102, 102, 54, 49, 102, 50, 48, 48, 49, 53, 97, 100]⟩
  | 1 => ⟨#[50, 52, 56, 100, 54, 97, 54, 49, 100, 50, 48, 54, 51, 56, 98, 56, 101, 53, 99, 48, 50, 54, 57, 51, 48, 99, 51, 101, 54, 48, 51, 57, 97, 51, 51, 99, 101, 52, 53, 57, 54, 52, 102, 102, 50, 49, 54, 55, 102, 54, 101, 99, 101, 100, 100, 52, 49, 57, 100, 98, 48, 54, 99, 49]⟩
  | _ => ⟨#[101, 51, 98, 48, 99, 52, 52, 50, 57, 56, 102, 99, 49, 99, 49, 52, 57, 97, 102, 98, 102, 52, 99, 56, 57, 57, 54, 102, 98, 57, 50, 52, 50, 55, 97, 101, 52, 49, 101, 52, 54, 52, 57, 98, 57, 51, 52, 99, 97, 52, 57, 53, 57, 57, 49, 98, 55, 56, 53, 50, 98, 56, 53, 53]⟩
def tb (k : Nat) : List (BitVec 8) := (tx k).data.toList.map fun y => y.toBitVec
def lst32 (f : Nat → BitVec 8) : List (BitVec 8) := (List.range 32).map f
theorem tb_cells (k : Nat) : Lib.strCells (tx k) = ints .u8 (bys (tb k)) := by
  match k with
  | 0 => rfl
  | 1 => rfl
  | _ + 2 => rfl
theorem tb_len (k : Nat) : (tb k).length = (tx k).size := by
  match k with
  | 0 => rfl
  | 1 => rfl
  | _ + 2 => rfl
theorem tx_size (k : Nat) : (tx k).size ≤ 56 := by
  match k with
  | 0 => exact Nat.le_of_ble_eq_true rfl
  | 1 => exact Nat.le_of_ble_eq_true rfl
  | _ + 2 => exact Nat.le_of_ble_eq_true rfl
theorem hv0 : (hexL (lst32 (shaOf (tb 0)))).toArray = (wn 0).data := by decide +kernel
theorem hv1 : (hexL (lst32 (shaOf (tb 1)))).toArray = (wn 1).data := by decide +kernel
theorem hv2 : (hexL (lst32 (shaOf (tb 2)))).toArray = (wn 2).data := by decide +kernel

theorem hvk (k : Nat) (hk : k < 3) : (⟨(hexL (lst32 (shaOf (tb k)))).toArray⟩ : ByteArray) = wn k := by
  have h : k = 0 ∨ k = 1 ∨ k = 2 := by omega
  rcases h with rfl | rfl | rfl
  · rw [hv0]
  · rw [hv1]
  · rw [hv2]
theorem eq_str (s : ByteArray) (p q : Operand) (w : World) : (do eqGuard .eql 9 p q (.string s) (.string s); binOp .eql 9 (.string s) (.string s) : Sem Value).run Tryd.prog w = .ok (.bool true) w := by
  have h1 := Tryd.underlying9
  go_simp
theorem row_read {w : World} {g : Nat} {t : TypeId} {f : Nat → BitVec 8} (h : w.rowIs g t 32 (fun i => v8 (f i))) : SlRead w (some ⟨g, 0, none⟩) (ints .u8 (bys (lst32 f))) := by
  intro _
  refine ⟨g, 0, rfl, h.lt, fun j u hj => ?_⟩
  rw [bys_ints] at hj
  have hjn : j < 32 := by
    have := (List.getElem?_eq_some_iff.1 hj).1
    simpa [lst32] using this
  rw [Nat.zero_add, h.cell hjn, ← hj]
  simp [lst32, hjn]

set_option maxRecDepth 100000 in
set_option maxHeartbeats 1600000 in
theorem vectors_walk (z : Int) (w : World) (hk : KAt w) :
    Calls Tryd.prog 4 #[.int .i64 z] w fun e w' => e = .returned (.bool true) ∧ Below w.heap.size w w' := by
  obtain ⟨i0, hi, hz0, hz1, hz2⟩ := info_parts Tryd.info5
  obtain ⟨k, hkz, hkl⟩ := exists_mod z 3 (by omega)
  go_enter Tryd.func4, Tryd.ntmps4
  go_wp2_with fail
  refine (first_any _ hk).mono ?_
  rintro e W ⟨rfl, hb⟩
  go_upto_region 7 with (fail)
  have hk3 : k = 0 ∨ k = 1 ∨ k = 2 := by omega
  refine wp_world (fun W' => Below w.heap.size w W' ∧ W'.cell? ⟨W.heap.size, k, none⟩ = some (.string (tx k)) ∧ W'.cell? ⟨W.heap.size + 1, k, none⟩ = some (.string (wn k)) ∧ W.heap.size + 1 < W'.heap.size) ?_ ?_
  · refine ⟨(hb.alloc hb.size _).alloc (Nat.le_trans hb.size (by simp)) _, ?_, ?_, by simp⟩
    · rw [World.cell?_alloc_lt _ _ _ (by simp), World.cell?_alloc_new]
      rcases hk3 with rfl | rfl | rfl <;> rfl
    · refine (World.cell?_alloc_at _ _ _ _ (by simp)).trans ?_
      rcases hk3 with rfl | rfl | rfl <;> rfl
  have hwW := hb.size
  clear hb
  generalize W.heap.size = G at *
  rintro W3 ⟨hb, ct, cw, hs3⟩
  go_wp2_with fail
  refine (number_nat z 3 k W3 (by omega) hkz).mono ?_
  rintro e W4 ⟨rfl, m, rfl⟩
  have hkl3 : k < 3 := by omega
  have hts := tx_size k
  have hk0 : (k : Int) < 3 := by omega
  generalize htx : tx k = T at *
  have HTX := Lib.hid htx; clear htx
  go_wp2_with (at_builtin; refine Lib.wpList_append_own_string _ rfl _ _ 22 9 rfl W3.heap.size 5 i0 Tryd.underlying22 Tryd.underlying9 hi hz0 hz1 hz2 (.slice none 0 0) 0 [] rfl (World.ownsRow_nil _ _ _ _) T rfl ?c1 ?c2 ?c3 ?_)
  case c1 => unfold maxLen; omega
  case c2 => omega
  case c3 => exact Nat.le_refl _
  intro v' w5 hown hgrow _
  obtain ⟨Ab, cb, rfl, hcb⟩ := ownsRow_form hown
  have hbd : Below W3.heap.size W3 w5 := (Below.drewNr m).grown hgrow (Nat.le_refl _) (by intro j hj; cases hj)
  have hb5 := hb.trans (hbd.mono hb.size)
  have cw5 : w5.cell? ⟨G + 1, k, none⟩ = some (.string (wn k)) := (hbd.cell (p := ⟨G + 1, k, none⟩) hs3).trans cw
  have hs5 : G + 1 < w5.heap.size := Nat.lt_of_lt_of_le hs3 hbd.size
  have hlen : (tb k).length = T.size := by rw [tb_len, HTX.out]
  rw [← HTX.out, tb_cells k, HTX.out] at hown
  have hrd := SlRead.of_own hown
  have hso := suml_one Ab (tb k) cb w5 hrd (by rw [hlen]; by_cases h : 0 < T.size; exact hcb h; omega) (by rw [hlen]; omega) (hk.below hb5)
  rw [hlen] at hso
  clear hown hgrow hbd hb ct cw hs3 hrd
  go_wp2_with fail
  refine hso.mono ?_
  rintro e W6 ⟨rfl, hb6⟩
  have hbb6 := hb5.trans (hb6.mono hb5.size)
  have cw6 := (hb6.cell (p := ⟨G + 1, k, none⟩) hs5).trans cw5
  have hs6 := Nat.lt_of_lt_of_le hs5 hb6.size
  clear hso hb5 cw5 hs5 hb6
  go_upto_region 10 with (refine wpList_store_row rfl 26 _ _ rfl _ _ rfl rfl _ _ (heap_alloc_new _ _) (by kernel_rfl) (by simp) (arr8_one _ _) ?_; rw [alloc_setRow])
  generalize hGA : W6.heap.size = GA at *
  have hr7 : (W6.alloc (.cells (arr8 32 (shaOf (tb k))) 26)).rowIs GA 26 32 (fun i => v8 (shaOf (tb k) i)) := rowIs_new _ _ _ _ _ _ hGA.symm (by simp) (fun i hi => arr8_get 32 _ i hi)
  have hb7 := hbb6.alloc hbb6.size (.cells (arr8 32 (shaOf (tb k))) 26)
  have cw7 : (W6.alloc (.cells (arr8 32 (shaOf (tb k))) 26)).cell? ⟨G + 1, k, none⟩ = some (.string (wn k)) := (World.cell?_alloc_lt _ _ _ (by rw [hGA]; exact hs6)).trans cw6
  have hs7 : G + 1 < (W6.alloc (.cells (arr8 32 (shaOf (tb k))) 26)).heap.size := by simp; omega
  generalize W6.alloc (.cells (arr8 32 (shaOf (tb k))) 26) = W7 at *
  clear hbb6 cw6 hs6 hGA
  have hsl := fun w' => sliceAt_arr (P := Tryd.prog) 32 Tryd.underlying26 (show (Tryd.prog.info? 5).map (·.size) = some 1 by kernel_rfl) GA (by omega) w'
  have hida : ∀ W : World, (Instr.indexAt 36 (.slice (some ⟨G + 1, 0, none⟩) 3 3) (.int .i64 (k : Int))).run Tryd.prog W = .ok (.pointer (some ⟨G + 1, k, none⟩)) W := by
    intro W
    have h1 := Tryd.underlying36
    have h2 := Tryd.underlying9
    go_simp
  have hld : ∀ W : World, W.cell? ⟨G + 1, k, none⟩ = some (.string (wn k)) → (Instr.loadAt 9 (.pointer (some ⟨G + 1, k, none⟩))).run Tryd.prog W = .ok (.string (wn k)) W := by
    intro W hW
    have h2 := Tryd.underlying9
    go_simp
  have keep : ∀ {W W' : World}, (SlRead W (some ⟨GA, 0, none⟩) (ints .u8 (bys (lst32 (shaOf (tb k))))) ∧ W.cell? ⟨G + 1, k, none⟩ = some (.string (wn k)) ∧ Below w.heap.size w W ∧ G + 1 < W.heap.size) → Below W.heap.size W W' → (SlRead W' (some ⟨GA, 0, none⟩) (ints .u8 (bys (lst32 (shaOf (tb k))))) ∧ W'.cell? ⟨G + 1, k, none⟩ = some (.string (wn k)) ∧ Below w.heap.size w W' ∧ G + 1 < W'.heap.size) :=
    fun h hb => ⟨h.1.below hb, (hb.cell (p := ⟨G + 1, k, none⟩) h.2.2.2).trans h.2.1, h.2.2.1.trans (hb.mono h.2.2.1.size), Nat.lt_of_lt_of_le h.2.2.2 hb.size⟩
  refine wp_region_noPanic ?_
  refine wp_region_held_drew (S := fun W => SlRead W (some ⟨GA, 0, none⟩) (ints .u8 (bys (lst32 (shaOf (tb k))))) ∧ W.cell? ⟨G + 1, k, none⟩ = some (.string (wn k)) ∧ Below w.heap.size w W ∧ G + 1 < W.heap.size) (by kernel_rfl) ⟨row_read hr7, cw7, hb7.drew, hs7⟩ (fun hHeld => ?_)
  refine held_move 0 (.tmp 3) (some 25) (.bool true) (by kernel_rfl) (by kernel_rfl) (by kernel_rfl) (by kernel_rfl) (by kernel_rfl) (fun _ _ _ _ _ h => h) hHeld ?_
  refine held_move 1 (.tmp 25) (some 26) (.bool true) (by kernel_rfl) (by kernel_rfl) (by kernel_rfl) (by kernel_rfl) (by kernel_rfl) (fun _ _ _ _ _ h => h) hHeld ?_
  refine held_slice 2 26 (.tmp 8) none none none (some 27) (.pointer (some ⟨GA, 0, none⟩)) none none none (.slice (some ⟨GA, 0, none⟩) 32 32) (by kernel_rfl) (by kernel_rfl) hsl (by kernel_rfl) (by kernel_rfl) (by kernel_rfl) (fun _ _ _ _ _ h => h) hHeld ?_
  refine held_move 4 (.tmp 6) (some 29) (.slice (some ⟨G + 1, 0, none⟩) 3 3) (by kernel_rfl) (by kernel_rfl) (by kernel_rfl) (by kernel_rfl) (by kernel_rfl) (fun _ _ _ _ _ h => h) hHeld ?_
  refine held_move 5 (.tmp 7) (some 30) (.int .i64 (k : Int)) (by kernel_rfl) (by kernel_rfl) (by kernel_rfl) (by kernel_rfl) (by kernel_rfl) (fun _ _ _ _ _ h => h) hHeld ?_
  refine held_index 6 36 (.tmp 29) (.tmp 30) (some 31) (.slice (some ⟨G + 1, 0, none⟩) 3 3) (.int .i64 (k : Int)) (.pointer (some ⟨G + 1, k, none⟩)) (by kernel_rfl) (by kernel_rfl) hida (by kernel_rfl) (by kernel_rfl) (by kernel_rfl) (fun _ _ _ _ _ h => h) hHeld ?_
  refine held_cell 7 9 (.tmp 31) (some 32) (.pointer (some ⟨G + 1, k, none⟩)) (.string (wn k)) (by kernel_rfl) (by kernel_rfl) (fun w h => hld w h.2.1) (by kernel_rfl) (by kernel_rfl) (by kernel_rfl) (fun _ _ _ _ _ h => h) hHeld ?_
  have hhx := hex_any (some ⟨GA, 0, none⟩) (lst32 (shaOf (tb k))) 32 _ hHeld.1 (by simp [lst32])
  rw [show (lst32 (shaOf (tb k))).length = 32 by simp [lst32], hvk k hkl3] at hhx
  refine held_call 3 14 #[.tmp 27] #[22] (some 28) #[.slice (some ⟨GA, 0, none⟩) 32 32] _ (by kernel_rfl) (by kernel_rfl) (by kernel_rfl) (by kernel_rfl) hhx ?_
  rintro e W9 ⟨rfl, hb9⟩
  refine ⟨_, rfl, keep hHeld hb9, fun hHeld => ?_⟩
  refine held_bin 8 .eql 9 (.tmp 28) (.tmp 32) 9 (some 33) (.string (wn k)) (.string (wn k)) (.bool true) (by kernel_rfl) (by kernel_rfl) (eq_str (wn k) _ _) (by kernel_rfl) (by kernel_rfl) (by kernel_rfl) (fun _ _ _ _ _ h => h) hHeld ?_
  refine held_pick 9 (.tmp 26) (.tmp 33) (.const (.bool false)) (some 34) true (.bool true) (by kernel_rfl) (by kernel_rfl) (by kernel_rfl) (by kernel_rfl) (by kernel_rfl) (by kernel_rfl) (fun _ _ _ _ _ h => h) hHeld ?_
  refine held_assign 10 (.tmp 34) (some 2) (.bool true) (by kernel_rfl) (by kernel_rfl) (by kernel_rfl) (by kernel_rfl) (by kernel_rfl) (fun _ _ _ _ _ h => h) hHeld ?_
  refine wpAnyH_done (by kernel_rfl) ?_ _
  refine NoPanic.normal ?_
  simp only [Act.put, List.setIfInBounds_toArray, List.set_cons_zero, List.set_cons_succ]
  go_wp2_with fail
  go_ret
  exact ⟨rfl, hHeld.2.2.1⟩
end Go.Proofs.YtmbfjnbanlhjpaaDoor
