import Derived.Test.YtbeeehfaeknhmaaDoorDkh
/-
  disk: New.
-/
namespace Go.Proofs.YtbeeehfaeknhmaaDoor
open Go.RowKit

def zsec : List Value := bcells zc ++ [.slice none 0 0]
theorem zsec_len : zsec.length = 129 := by simp [zsec, bcells_len, zc_len]
def secZ : Sec := ⟨zc, [], zc_len, by simp⟩
theorem info_S : (Tryd.prog.info? 93).map (fun i => (i.size, i.bytes)) = some (129, 152) := by kernel_rfl
theorem zero_S (i : TypeInfo) (h : Tryd.prog.info? 93 = some i) : i.zero = some (.agg zsec.toArray) := by
  have : (Tryd.prog.info? 93).bind (·.zero) = some (.agg zsec.toArray) := by
    unfold zsec
    rw [zc_cells]
    kernel_rfl
  rw [h] at this
  exact this
def zrow (x : Nat) : Array Value := madeCells zsec.toArray (x * 129)
theorem make_S (x : Nat) (hx : x ≤ 400) (w : World) : (Instr.makeSlice 70 (.int .i64 (x : Int)) (.int .i64 (x : Int))).run Tryd.prog w = .ok (.slice (some ⟨w.heap.size, 0, none⟩) x x) (w.alloc (.cells (zrow x) 93)) := by
  obtain ⟨i, hi, hz⟩ := Option.map_eq_some_iff.1 info_S
  simp only [Prod.mk.injEq] at hz
  have e := run_make (P := Tryd.prog) w 70 93 i (.agg zsec.toArray) Tryd.underlying70 hi (zero_S i hi) .i64 .i64 (x : Int) (x : Int) (by omega) (by omega) (by rw [hz.2]; omega) (by omega)
  rw [e, hz.1, Int.toNat_natCast]
  rfl
theorem made_get (z : List Value) (hz : z.length = 129) (m k : Nat) (hk : k < m) : (madeCells z.toArray m)[k]? = z[k % 129]? := by
  have hm : k % 129 < z.toArray.size := by rw [List.size_toArray, hz]; exact Nat.mod_lt _ (by omega)
  unfold madeCells
  rw [Array.getElem?_map, Array.getElem?_range, if_pos hk]
  simp only [Option.map_some]
  rw [show k % z.toArray.size = k % 129 by rw [List.size_toArray, hz], getElem!_pos z.toArray _ hm, List.getElem_toArray, List.getElem?_eq_getElem]
theorem zrow_get (x k : Nat) (hk : k < x * 129) : (zrow x)[k]? = zsec[k % 129]? := made_get zsec zsec_len _ _ hk
theorem zrow_cell {w : World} {R x : Nat} (h : w.heap[R]? = some (.cells (zrow x) 93 (0, 0))) (i j : Nat) (hi : i < x) (hj : j < 129) : w.cell? ⟨R, i * 129 + j, none⟩ = zsec[j]? := by
  have e := zrow_get x (i * 129 + j) (by have : i * 129 + 129 ≤ x * 129 := by rw [← Nat.succ_mul]; exact Nat.mul_le_mul_right _ hi
                                         omega)
  rw [show (i * 129 + j) % 129 = j by omega] at e
  unfold World.cell?
  simp only [h]
  exact e
theorem new_DkS {w : World} {n D R x : Nat} (hx : 0 < x ∧ x ≤ 400) (hR : w.heap[R]? = some (.cells (zrow x) 93 (0, 0))) (hD : w.heap[D]? = some (.cells #[.slice (some ⟨R, 0, none⟩) x x, .bool false, .int .i64 (-1)] 72 (0, 0))) (hne : D ≠ R) (hl : n ≤ D ∧ n ≤ R) :
    DkS w n D R (List.replicate x secZ) false (-1) (fun _ => .slice none 0 0) := by
  have hs : ∀ i s, (List.replicate x secZ)[i]? = some s → i < x ∧ s = secZ := fun i s h => by
    rw [List.getElem?_replicate] at h
    split at h
    · exact ⟨by assumption, (Option.some.inj h).symm⟩
    · cases h
  refine ⟨?_, ?_, ?_, fun o => ⟨thaw hD o, thaw hR o⟩, ?_, ?_, ?_, hne, fun i _ g hg => (by cases hg), hl, by rw [List.length_replicate]; exact hx, by omega⟩
  · rw [List.length_replicate]
    simp [World.cell?, hD]
  · simp [World.cell?, hD]
  · simp [World.cell?, hD]
  · intro i s h j v hv
    obtain ⟨hi, rfl⟩ := hs i s h
    have hj : j < 128 := by have := (List.getElem?_eq_some_iff.1 hv).1; rwa [bcells_len, show secZ.dur = zc from rfl, zc_len] at this
    rw [zrow_cell hR i j hi (by omega)]
    unfold zsec
    rw [List.getElem?_append_left (by rw [bcells_len, zc_len]; exact hj)]
    exact hv
  · intro i s h
    obtain ⟨hi, rfl⟩ := hs i s h
    rw [zrow_cell hR i 128 hi (by omega)]
    unfold zsec
    rw [List.getElem?_append_right (by rw [bcells_len, zc_len]; omega), bcells_len, zc_len]
    rfl
  · intro i s h
    obtain ⟨hi, rfl⟩ := hs i s h
    exact ⟨rfl, .inl ⟨rfl, rfl⟩⟩
set_option maxRecDepth 100000 in
set_option maxHeartbeats 800000 in
theorem new_any (x : Nat) (hx : 0 < x ∧ x ≤ 400) (n : Nat) (w : World) (hn : n ≤ w.heap.size) : Calls Tryd.prog 11 #[.int .i64 (x : Int)] w fun e w' => ∃ D R, e = .returned (.pointer (some ⟨D, 0, none⟩)) ∧ DkS w' n D R (List.replicate x secZ) false (-1) (fun _ => .slice none 0 0) ∧ w.heap.size ≤ D ∧ w.heap.size ≤ R ∧ Below w.heap.size w w' := by
  have hmk := make_S x hx.2 w
  have h1 : 1 ≤ (x : Int) := by omega
  have h2 : (x : Int) ≤ 400 := by omega
  have hR := heap2_0 w (.cells (zrow x) 93) (.cells #[.slice (some ⟨w.heap.size, 0, none⟩) x x, .bool false, .int .i64 (-1)] 72)
  have hD := heap2_1 w (.cells (zrow x) 93) (.cells #[.slice (some ⟨w.heap.size, 0, none⟩) x x, .bool false, .int .i64 (-1)] 72)
  have HF := Lib.hid (new_DkS (n := n) hx hR hD (by omega) ⟨by omega, hn⟩)
  have HB := Lib.hid ((below_alc w (.cells (zrow x) 93)).alloc (by simp) (.cells #[.slice (some ⟨w.heap.size, 0, none⟩) x x, .bool false, .int .i64 (-1)] 72))
  clear hR hD
  generalize zrow x = Z at *
  go_enter Tryd.func11, Tryd.ntmps11
  go_wp2_with fail
  go_ret
  exact ⟨_, _, rfl, HF.out, by omega, Nat.le_refl _, HB.out⟩
end Go.Proofs.YtbeeehfaeknhmaaDoor
