import Derived.Test.YtpegihfocnchnaaKb
namespace Go.Proofs.Ytpegihfocnchnaa
open Go.RowKit

/-- the state's words at its start -/
def st0 : Nat → BitVec 32 := fun i => match i with
  | 0 => 1634760805#32 | 1 => 857760878#32 | 2 => 2036477234#32 | 3 => 1797285236#32 | _ => 0#32
def keyTo (key : Nat → BitVec 8) : Nat → Nat → BitVec 32
  | 0 => st0
  | n + 1 => updW (keyTo key n) (4 + n) (word (key (4 * n)) (key (4 * n + 1)) (key (4 * n + 2)) (key (4 * n + 3)))
def nonTo (s : Nat → BitVec 32) (non : Nat → BitVec 8) : Nat → Nat → BitVec 32
  | 0 => s
  | n + 1 => updW (nonTo s non n) (13 + n) (word (non (4 * n)) (non (4 * n + 1)) (non (4 * n + 2)) (non (4 * n + 3)))
def start (key : Nat → BitVec 8) (ct : BitVec 32) (non : Nat → BitVec 8) : Nat → BitVec 32 := nonTo (updW (keyTo key 8) 12 ct) non 3

structure StAt (w : World) (B : Nat) (key non : Nat → BitVec 8) (s : Nat → BitVec 32) (wr : World) : Prop where
  k : wr.rowIs B 31 32 (fun i => v8 (key i))
  n : wr.rowIs (B + 1) 36 12 (fun i => v8 (non i))
  r : wr.rowIs (B + 1 + 1) 47 16 (fun _ => .int .u32 0)
  s : St wr (B + 1 + 1 + 1) s
  b : Below B w wr

theorem StAt.drewN {w : World} {B : Nat} {key non : Nat → BitVec 8} {s : Nat → BitVec 32} {wr : World} (h : StAt w B key non s wr) (m : Nat) : StAt w B key non s (wr.drewN m) :=
  ⟨h.k, h.n, h.r, h.s, h.b.trans (Below.drewNr m)⟩
theorem StAt.put {w : World} {B : Nat} {key non : Nat → BitVec 8} {s : Nat → BitVec 32} {wr : World} (h : StAt w B key non s wr) (i : Nat) (x : BitVec 32) :
    StAt w B key non (updW s i x) (wr.setCell ⟨B + 1 + 1 + 1, i, none⟩ (v32 x)) :=
  ⟨h.k.setOther (a := ⟨B + 1 + 1 + 1, i, none⟩) (by simp only; omega) _, h.n.setOther (a := ⟨B + 1 + 1 + 1, i, none⟩) (by simp only; omega) _, h.r.setOther (a := ⟨B + 1 + 1 + 1, i, none⟩) (by simp only; omega) _, St.put h.s i x, h.b.setCell (by simp only; omega) _⟩

theorem st0_row : ∀ i, i < 16 → (#[Value.int IntKind.u32 1634760805, Value.int IntKind.u32 857760878, Value.int IntKind.u32 2036477234,
    Value.int IntKind.u32 1797285236, Value.int IntKind.u32 0, Value.int IntKind.u32 0, Value.int IntKind.u32 0,
    Value.int IntKind.u32 0, Value.int IntKind.u32 0, Value.int IntKind.u32 0, Value.int IntKind.u32 0,
    Value.int IntKind.u32 0, Value.int IntKind.u32 0, Value.int IntKind.u32 0, Value.int IntKind.u32 0,
    Value.int IntKind.u32 0] : Array Value)[i]? = some (v32 (st0 i)) := by
  intro i hi
  rcases i with _ | _ | _ | _ | _ | _ | _ | _ | _ | _ | _ | _ | _ | _ | _ | _ | i
  all_goals first | rfl | omega

set_option maxHeartbeats 1600000 in
theorem state_any (key non : Nat → BitVec 8) (ct : BitVec 32) (w : World) :
    Calls Try.prog 20 #[.agg (arr8 32 key), v32 ct, .agg (arr8 12 non)] w fun e w' => e = .returned (.agg (arr32 16 (start key ct non))) ∧ Below w.heap.size w w' := by
  go_enter Try.func20, Try.ntmps20
  go_wp2_with fail
  go_loopw [11] (fun i wr => ∃ k : Nat, k ≤ 8 ∧ i = .int .i64 k ∧ StAt w w.heap.size key non (keyTo key k) wr) (fun i _ => 8 - (intOf i).toNat)
  case atStart =>
    refine ⟨0, by omega, rfl, ?_, ?_, ?_, ?_, ?_⟩
    · exact (((rowIs_new _ _ _ _ _ _ (by simp) (by simp) (fun i hi => arr8_get 32 key i hi)).alloc _).alloc _).alloc _
    · exact ((rowIs_new _ _ _ _ _ _ (by simp) (by simp) (fun i hi => arr8_get 12 non i hi)).alloc _).alloc _
    · exact (rowIs_new _ _ _ _ _ _ (by simp) (by rfl) (zero_row 16)).alloc _
    · exact rowIs_new _ _ _ _ _ _ (by simp) (by rfl) st0_row
    · go_grown
  case round =>
    obtain ⟨k, hk, rfl, hs⟩ := hrel
    generalize hB : w.heap.size = B at hs ⊢
    have HB := Lib.hid hB; clear hB
    by_cases hlt : k < 8
    · have c0 := hs.k.cell (i := 4 * k) (by omega)
      have c1 := hs.k.cell (i := 4 * k + 1) (by omega)
      have c2 := hs.k.cell (i := 4 * k + 2) (by omega)
      have c3 := hs.k.cell (i := 4 * k + 3) (by omega)
      have cs := hs.s.cell (i := 4 + k) (by omega)
      have fs := hs.s.frozen (4 + k)
      have hsl := slice_arr_l (P := Try.prog) Try.underlying31 (show (Try.prog.info? 5).map (·.size) = some 1 by kernel_rfl) B .i64 (4 * (k : Int)) (by omega) (by omega)
      rw [show (4 * (k : Int)).toNat = 4 * k by omega] at hsl
      go_wp2_with fail
      refine (word_any B (4 * k) _ _ _ _ _ _ _ (by omega) (by omega) c0 c1 c2 c3).mono ?_
      rintro e w' ⟨rfl, m, rfl⟩
      have hs2 : StAt w B key non (keyTo key (k + 1)) _ := (hs.drewN m).put (4 + k) (word (key (4 * k)) (key (4 * k + 1)) (key (4 * k + 2)) (key (4 * k + 3)))
      have hgk : 8 - (k + 1) < 8 - k := by omega
      go_wp2_with fail
      go_roundw
      case rel => exact ⟨k + 1, by omega, by go_num, hs2⟩
      case measure => simp [intOf]; omega
    · have hk8 : k = 8 := by omega
      rw [hk8] at hs
      clear hk8
      have c12 := hs.s.cell (i := 12) (by omega)
      have f12 := hs.s.frozen 12
      have hs2 := hs.put 12 ct
      clear hs
      go_wp2_with fail
      generalize hS : updW (keyTo key 8) 12 ct = S at *
      go_loopw [24] (fun i wr' => ∃ k : Nat, k ≤ 3 ∧ i = .int .i64 k ∧ StAt w B key non (nonTo S non k) wr') (fun i _ => 3 - (intOf i).toNat)
      case atStart => exact ⟨0, by omega, rfl, hs2⟩
      clear hs2
      case round =>
        obtain ⟨j, hj, rfl, hs⟩ := hrel
        by_cases hlt2 : j < 3
        · have c0 := hs.n.cell (i := 4 * j) (by omega)
          have c1 := hs.n.cell (i := 4 * j + 1) (by omega)
          have c2 := hs.n.cell (i := 4 * j + 2) (by omega)
          have c3 := hs.n.cell (i := 4 * j + 3) (by omega)
          have cs := hs.s.cell (i := 13 + j) (by omega)
          have fs := hs.s.frozen (13 + j)
          have hsl := slice_arr_l (P := Try.prog) Try.underlying36 (show (Try.prog.info? 5).map (·.size) = some 1 by kernel_rfl) (B + 1) .i64 (4 * (j : Int)) (by omega) (by omega)
          rw [show (4 * (j : Int)).toNat = 4 * j by omega] at hsl
          go_wp2_with fail
          refine (word_any (B + 1) (4 * j) _ _ _ _ _ _ _ (by omega) (by omega) c0 c1 c2 c3).mono ?_
          rintro e w' ⟨rfl, m, rfl⟩
          have hs2 : StAt w B key non (nonTo S non (j + 1)) _ := (hs.drewN m).put (13 + j) (word (non (4 * j)) (non (4 * j + 1)) (non (4 * j + 2)) (non (4 * j + 3)))
          go_wp2_with fail
          go_roundw
          case rel => exact ⟨j + 1, by omega, by go_num, hs2⟩
          case measure => simp [intOf]; omega
        · have hj3 : j = 3 := by omega
          rw [hj3] at hs
          clear hj3
          have hh := rowIs_heap32 hs.s
          obtain ⟨old, hr1, hr2, _⟩ := hs.r
          have hfin : nonTo S non 3 = start key ct non := by rw [← hS]; rfl
          rw [hfin] at hh
          generalize hz : start key ct non = z at *
          have HZ := Lib.hid hz; clear hz hfin
          have HS := Lib.hid hS; clear hS
          have hb := below_setRow (g := B + 1 + 1) hs.b (by omega) (arr32 16 z)
          have hres : (wr.setRow (B + 1 + 1) (arr32 16 z)).heap[B + 1 + 1]? = some (.cells (arr32 16 z) 47 (0, 0)) := setRow_heap _ _ _ _ _ _ hr1
          go_wp2_with (first | (refine wpList_load_row rfl 47 _ rfl _ rfl _ _ _ _ hh Try.underlying47 rfl (by kernel_rfl) ?_) | (refine wpList_store_row rfl 47 _ _ rfl _ _ rfl rfl _ _ hr1 (by kernel_rfl) (by simpa using hr2) (arr32_one _ _) ?_))
          refine bodyPost_ret (results_cell_row rfl _ _ _ _ _ _ _ rfl hres Try.underlying47 rfl (by kernel_rfl)) rfl ?_
          rw [HZ.out, HB.out]
          exact ⟨rfl, hb⟩
end Go.Proofs.Ytpegihfocnchnaa
