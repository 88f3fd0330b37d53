import Derived.Test.YtihnpcoiadbpiaaDoorThs
import Derived.Test.YtihnpcoiadbpiaaDoorErr
import Derived.Shelf.SlicesE.Reverse
import Derived.Shelf.SlicesQ.Reverse
import Derived.Lib.OwnBridge
namespace Go.Proofs.YtihnpcoiadbpiaaDoor
open Go.RowKit Go.Sort Go.Lib

theorem idxH (b o n cap k : Nat) (hk : k < n) (w : World) : (Instr.indexAt 26 (.slice (some ⟨b, o, none⟩) n cap) (.int .i64 (k : Int))).run Tryd.prog w = .ok (.pointer (some ⟨b, o + 32 * k, none⟩)) w := by
  have hu := Tryd.underlying26
  have e2 : Tryd.prog.elem 26 = 24 := by simp [Program.elem, hu]
  obtain ⟨i, hi, hz⟩ := Option.map_eq_some_iff.1 info32
  rw [run_indexAt_slice (h := by rw [e2]; exact hu)]
  rw [if_pos (by omega)]
  simp only [e2, Go.sizeOf, typeInfo, Result.andThen, Addr.add, Int.toNat_natCast]
  by_cases h0 : k = 0
  · subst h0; simp [hi, hz, Result.andThen]
  · have h1 : ¬ k * 32 = 0 := by omega
    simp [hi, hz, Result.andThen, h1, Nat.mul_comm]
theorem hcells_nth (gs : List (Nat → BitVec 8)) : ∀ (N : Nat) (f : Nat → BitVec 8), gs[N]? = some f → ∀ j, j < 32 → (hcells gs)[32 * N + j]? = (arr8 32 f).toList[j]? := by
  induction gs with
  | nil => intro N f h; simp at h
  | cons g gs ih =>
    intro N f h j hj
    simp only [hcells, List.flatMap_cons]
    rcases N with _ | N
    · simp only [List.getElem?_cons_zero, Option.some.injEq] at h
      subst h
      rw [List.getElem?_append_left (by simp; omega)]
      simp
    · simp only [List.getElem?_cons_succ] at h
      rw [List.getElem?_append_right (by simp; omega)]
      have := ih N f h j hj
      rw [← this]
      congr 1
      simp
      omega
def encH (f : Nat → BitVec 8) : List Value := (arr8 32 f).toList
theorem encH_length (f : Nat → BitVec 8) : (encH f).length = 32 := by simp [encH]
theorem encH_one (f : Nat → BitVec 8) : ∀ v ∈ encH f, v.oneCell' = true := by
  intro v hv
  have := arr8_one 32 f
  rw [Array.all_eq_true_iff_forall_mem] at this
  exact this v (by simpa [encH] using hv)
theorem hcells_get (hs : List (Nat → BitVec 8)) (j : Nat) (hj : j < hs.length * 32) : (hcells hs)[j]? = some ((encH hs.toArray[j / 32]!)[j % 32]!) := by
  have hd : j / 32 < hs.length := by omega
  have h := hcells_nth hs (j / 32) hs[j / 32] (by simp [hd]) (j % 32) (by omega)
  rw [show 32 * (j / 32) + j % 32 = j by omega] at h
  rw [h]
  have e : hs.toArray[j / 32]! = hs[j / 32] := by simp [hd]
  rw [e]
  have hl : j % 32 < (encH hs[j / 32]).length := by rw [encH_length]; omega
  have e3 : (encH hs[j / 32])[j % 32]! = (encH hs[j / 32])[j % 32]'hl := getElem!_pos (encH hs[j / 32]) (j % 32) hl
  rw [e3]
  exact List.getElem?_eq_getElem hl

def rhoH : Go.Shelf.Ren := ⟨fun n => if n = 35 then 24 else 0, fun n => if n = 0 then 0 else if n = 3 then 3 else if n = 4 then 4 else if n = 22 then 26 else 24, fun n => n⟩
theorem layH : SlLaysE0.n35 Tryd.prog rhoH where
  mixed := by kernel_rfl
  f35 := ⟨Tryd.f24.name, by kernel_rfl, by kernel_rfl⟩
  t0 := by kernel_rfl
  a0 := fun _ => by kernel_rfl
  z0 := fun _ => by kernel_rfl
  v0 := fun _ => by kernel_rfl
  t3 := by kernel_rfl
  a3 := fun _ => by kernel_rfl
  z3 := fun _ => by kernel_rfl
  v3 := fun _ => by kernel_rfl
  t4 := by kernel_rfl
  a4 := fun _ => by kernel_rfl
  z4 := fun _ => by kernel_rfl
  v4 := fun _ => by kernel_rfl
  t22 := by kernel_rfl
  a22 := fun _ => by kernel_rfl
  z22 := fun _ => by kernel_rfl
  v22 := fun _ => by kernel_rfl
def rhoB : Go.Shelf.Ren := ⟨fun n => if n = 35 then 35 else 0, fun n => if n = 0 then 0 else if n = 3 then 3 else if n = 4 then 4 else if n = 22 then 60 else 4, fun n => n⟩
theorem layB : SlLaysE.n35 Tryd.prog rhoB where
  mixed := by kernel_rfl
  f35 := ⟨Tryd.f35.name, by kernel_rfl, by kernel_rfl⟩
  t0 := by kernel_rfl
  a0 := fun _ => by kernel_rfl
  z0 := fun _ => by kernel_rfl
  v0 := fun _ => by kernel_rfl
  t3 := by kernel_rfl
  a3 := fun _ => by kernel_rfl
  z3 := fun _ => by kernel_rfl
  v3 := fun _ => by kernel_rfl
  t4 := by kernel_rfl
  a4 := fun _ => by kernel_rfl
  z4 := fun _ => by kernel_rfl
  v4 := fun _ => by kernel_rfl
  t22 := by kernel_rfl
  a22 := fun _ => by kernel_rfl
  z22 := fun _ => by kernel_rfl
  v22 := fun _ => by kernel_rfl
  a23 := fun _ => by kernel_rfl
  z23 := fun _ => by kernel_rfl

def bools (bs : List Bool) : List Value := bs.map Value.bool
theorem below_putK {B : Nat} {w : World} {g q : Nat} {d : Array (Nat → BitVec 8)} (hg : B ≤ g) : Below B w (putRowK encH 32 (Sort.ahead w q) g 0 d) :=
  below_putRow (Below.refl _ _) hg
theorem rev_hash (v : Value) (hs : List (Nat → BitVec 8)) (base : Nat) (w : World) (hl : hs.length ≤ 100000) (h : w.ownsRow base 24 32 v hs.length (hcells hs)) :
    Calls Tryd.prog 24 #[v] w fun e w' => e = .returned (.tuple #[]) ∧ w'.ownsRow base 24 32 v hs.reverse.length (hcells hs.reverse) ∧ Below base w w' := by
  rcases h.2 with ⟨rfl, hn⟩ | ⟨g, cap, cur, rfl, hb, hg, hn, hm, hz, ht⟩
  · have e : hs = [] := List.eq_nil_of_length_eq_zero hn
    subst e
    refine (AnyQ.slices_Reverse_empty layH none 0 w).mono ?_
    rintro e w' ⟨rfl, rfl⟩
    exact ⟨rfl, h, Below.refl _ _⟩
  · have hH : HoldsK encH 32 w g 0 hs.toArray := by
      intro j hj
      simp only [size_flatK, List.size_toArray] at hj
      refine ⟨?_, by simp [World.frozen?, hg]⟩
      rw [get_flatK _ _ _ _ (by simpa using hj)]
      have e1 : (cur.toList.take (hs.length * 32))[j]? = (hcells hs)[j]? := by rw [ht]
      rw [List.getElem?_take, if_pos hj, Array.getElem?_toList, hcells_get hs j hj] at e1
      simp only [World.cell?, hg, Nat.zero_add]
      simp only [Option.isSome_none, Bool.false_eq_true, if_false]
      exact e1
    refine (AnyQ.slices_Reverse layH 32 (fun _ => by kernel_rfl) (fun _ => by kernel_rfl) encH encH_length encH_one g 0 cap hs.toArray w hH (by simp; omega)).mono ?_
    rintro e w' ⟨rfl, n, rfl⟩
    refine ⟨rfl, ⟨by rw [hcells_length]; omega, .inr ⟨g, cap, putCells id 0 (flatK encH 32 hs.toArray.reverse) cur, by simp, hb, ?_, by simpa using hn, hm, by simpa [putCells] using hz, ?_⟩⟩, below_putK hb⟩
    · simp [putRowK, putRow, mapBlock, Sort.ahead, Array.getElem?_modify, hg, onCells]
    · apply List.ext_getElem?
      intro j
      rw [List.getElem?_take, Array.getElem?_toList]
      by_cases hj : j < hs.length * 32
      · have hjc : j < cur.size := by rw [hz]; exact Nat.lt_of_lt_of_le hj (Nat.mul_le_mul_right 32 hn)
        rw [hcells_get hs.reverse j (by simpa using hj)]
        simp only [List.length_reverse, if_pos hj, putCells, Array.getElem?_mapIdx, Array.getElem?_eq_getElem hjc, Option.map_some]
        rw [if_pos (by simp; omega), Nat.sub_zero, id, get_flatK _ _ _ _ (by simpa using hj)]
        simp
      · rw [List.length_reverse, if_neg hj, eq_comm, List.getElem?_eq_none (by rw [hcells_length]; simp; omega)]
theorem rev_bool (v : Value) (bs : List Bool) (base : Nat) (w : World) (hl : bs.length ≤ 100000) (h : w.ownsRow base 4 1 v bs.length (bools bs)) :
    Calls Tryd.prog 35 #[v] w fun e w' => e = .returned (.tuple #[]) ∧ w'.ownsRow base 4 1 v bs.reverse.length (bools bs.reverse) ∧ Below base w w' := by
  rcases h.2 with ⟨rfl, hn⟩ | ⟨g, cap, cur, rfl, hb, hg, hn, hm, hz, ht⟩
  · have e : bs = [] := List.eq_nil_of_length_eq_zero hn
    subst e
    refine (AnyE.slices_Reverse_empty layB none 0 w).mono ?_
    rintro e w' ⟨rfl, rfl⟩
    exact ⟨rfl, h, Below.refl _ _⟩
  · obtain ⟨g', cap', e1, _, _, _, _, _, hH⟩ := holds_of_ownsRow h (by simp)
    simp only [Value.slice.injEq, Option.some.injEq, Addr.mk.injEq, and_true, true_and] at e1
    obtain ⟨rfl, rfl⟩ := e1
    refine (AnyE.slices_Reverse layB Value.bool (fun _ => rfl) g 0 cap bs w hH (by omega)).mono ?_
    rintro e w' ⟨rfl, n, rfl⟩
    have := ownsRow_putRow (q := n) (ys := bs.reverse) h (by simp) (Nat.le_refl _)
    refine ⟨rfl, ?_, below_putRow (Below.refl _ _) hb⟩
    rw [List.length_reverse]
    rwa [List.take_of_length_le (by simp)] at this
end Go.Proofs.YtihnpcoiadbpiaaDoor
