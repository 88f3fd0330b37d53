import Derived.Test.YtklooieghlnblaaSkd
/-
  skip: place, remove, Take, Put, Find, All of the store.
-/
namespace Go.Proofs.Ytklooieghlnblaa
open Go.RowKit

/-- what a method of the store may turn: one cell, one row -/
structure Mod (B o : Nat) (row : Option Nat) (w w' : World) : Prop where
  os : w'.os = w.os
  tape : w'.tape = w.tape
  output : w'.output = w.output
  size : w.heap.size ≤ w'.heap.size
  block : ∀ k, k < w.heap.size → k ≠ B → some k ≠ row → w'.heap[k]? = w.heap[k]?
  cell : ∀ j, j ≠ o → w'.cell? ⟨B, j, none⟩ = w.cell? ⟨B, j, none⟩
  frz : ∀ j, w'.frozen? ⟨B, j, none⟩ = w.frozen? ⟨B, j, none⟩
structure SkAt (w : World) (base B o : Nat) (v : Value) (es : List Ent) : Prop where
  cell : w.cell? ⟨B, o, none⟩ = some v
  frz : w.frozen? ⟨B, o, none⟩ = false
  own : w.ownsRow base 46 65 v es.length (cells es)
  ne : v.ownBlock ≠ some B
theorem cell_lt {w : World} {B o : Nat} {v : Value} (h : w.cell? ⟨B, o, none⟩ = some v) : B < w.heap.size := World.block_lt_of_cell? w ⟨B, o, none⟩ h
theorem SkAt.lt {w : World} {base B o : Nat} {v : Value} {es : List Ent} (h : SkAt w base B o v es) : B < w.heap.size := cell_lt h.cell
theorem SkAt.below {w w' : World} {base B o : Nat} {v : Value} {es : List Ent} (h : SkAt w base B o v es) (hb : Below w.heap.size w w') : SkAt w' base B o v es :=
  ⟨(hb.cell (p := ⟨B, o, none⟩) h.lt).trans h.cell, (hb.frozen (p := ⟨B, o, none⟩) h.lt).trans h.frz, h.own.kept (row := none) ⟨hb.os, hb.tape, hb.output, hb.size, fun k hk _ => hb.block k hk⟩ (by cases hv : v.ownBlock <;> simp), h.ne⟩
theorem Mod.of_below {w w' : World} {B o : Nat} (row : Option Nat) (hB : B < w.heap.size) (hb : Below w.heap.size w w') : Mod B o row w w' :=
  ⟨hb.os, hb.tape, hb.output, hb.size, fun k hk _ _ => hb.block k hk, fun j _ => hb.cell (p := ⟨B, j, none⟩) hB, fun j => hb.frozen (p := ⟨B, j, none⟩) hB⟩
theorem Mod.trans {B o : Nat} {row row' : Option Nat} {a b c : World} (h : Mod B o row a b) (k : Mod B o row' b c) (hr : row' = row ∨ ∀ q, row' = some q → a.heap.size ≤ q) : Mod B o row a c :=
  ⟨k.os.trans h.os, k.tape.trans h.tape, k.output.trans h.output, Nat.le_trans h.size k.size, fun q hq h1 h2 => (k.block q (Nat.lt_of_lt_of_le hq h.size) h1 (by
    rcases hr with rfl | hr
    · exact h2
    · intro e
      have := hr q e.symm
      omega)).trans (h.block q hq h1 h2), fun j hj => (k.cell j hj).trans (h.cell j hj), fun j => (k.frz j).trans (h.frz j)⟩
theorem frozen_setCell (w : World) (p q : Addr) (u : Value) : (w.setCell p u).frozen? q = w.frozen? q := by simp
theorem grown_setCell (w : World) (a : Addr) (u : Value) : w.grownBy (w.setCell a u) (some a.block) :=
  ⟨rfl, rfl, rfl, by simp [World.setCell], fun k _ hk => Below.heap_setCell _ _ _ _ (fun e => hk (by rw [e]))⟩
theorem SkAt.stored {w w1 : World} {base B o : Nat} {v v' : Value} {es es' : List Ent} (h : SkAt w base B o v es) (hg : w.grownBy w1 v.ownBlock) (hown : w1.ownsRow base 46 65 v' es'.length (cells es')) (hne : v'.ownBlock ≠ some B) :
    SkAt (w1.setCell ⟨B, o, none⟩ v') base B o v' es' ∧ Mod B o v.ownBlock w (w1.setCell ⟨B, o, none⟩ v') := by
  have hblk : w1.heap[B]? = w.heap[B]? := hg.block B h.lt (fun e => h.ne e.symm)
  have hc : ∀ j, w1.cell? ⟨B, j, none⟩ = w.cell? ⟨B, j, none⟩ := fun j => World.cell?_of_block hblk
  have hf : ∀ j, w1.frozen? ⟨B, j, none⟩ = w.frozen? ⟨B, j, none⟩ := fun j => World.frozen?_of_block hblk
  refine ⟨⟨?_, ?_, ?_, hne⟩, ⟨hg.os, hg.tape, hg.output, by simpa [World.setCell] using hg.size, ?_, ?_, ?_⟩⟩
  · exact World.cell?_setCell_same w1 _ _ ((hc o).trans h.cell)
  · rw [frozen_setCell, hf, h.frz]
  · exact hown.kept (grown_setCell w1 _ v') (.inr hne)
  · intro k hk h1 h2
    rw [Below.heap_setCell _ _ _ _ h1]
    exact hg.block k hk h2
  · intro j hj
    rw [← hc j]
    exact World.cell?_setCell_other _ _ _ _ (by intro e; cases e; exact hj rfl)
  · intro j
    rw [frozen_setCell, hf]

/-- the place of an entry -/
def plc (es : List Ent) (q : List UInt8) (m : Int) : Int := match es.findIdx? (Ent.is q m) with | none => -1 | some i => (i : Int)
theorem idxFrom_eq (p : Ent → Bool) (x : Ent) : ∀ (es : List Ent) (k : Nat), Lib.idxByFrom (fun _ y => p y) x es k = match es.findIdx? p with | none => -1 | some i => ((i + k : Nat) : Int)
  | [], _ => rfl
  | e :: es, k => by
    have ih := idxFrom_eq p x es (k + 1)
    simp only [Lib.idxByFrom, List.findIdx?_cons]
    by_cases he : p e = true
    · simp [he]
    · rw [if_neg he, if_neg he, ih]
      cases es.findIdx? p with
      | none => rfl
      | some i => simp only [Option.map_some]; congr 1; omega
theorem idx_eq (es : List Ent) (q : List UInt8) (m : Int) : idx es q m = plc es q m := by
  unfold idx Lib.idxBy plc
  rw [idxFrom_eq]
  rfl
theorem keyAddr (B o : Nat) : (⟨B, o, none⟩ : Addr).add 0 = ⟨B, o, none⟩ := by rw [Addr.add_lit, Nat.add_zero]
set_option maxRecDepth 100000 in
set_option maxHeartbeats 800000 in
theorem place_any (es : List Ent) (q : List UInt8) (m : Int) (hq : q.length = 32) (hn : es.length ≤ 1000) (base B o : Nat) (v : Value) (w : World) (h : SkAt w base B o v es) :
    Calls Try.prog 18 #[.pointer (some ⟨B, o, none⟩), .agg (q.map cellB).toArray, .int .u32 m] w fun e w' => e = .returned (.int .i64 (plc es q m)) ∧ Below w.heap.size w w' := by
  rw [← idx_eq]
  obtain ⟨W2, hW2⟩ : ∃ W2, W2 = (w.alloc (Obj.cells (q.map cellB).toArray 31)).alloc (Obj.cells #[.int .u32 m] 36) := ⟨_, rfl⟩
  have hb2 : Below w.heap.size w W2 := by rw [hW2]; exact ((Below.refl _ _).alloc (Nat.le_refl _) _).alloc (by simp) _
  have hs := h.below hb2
  have hsz : W2.heap.size = w.heap.size + 2 := by rw [hW2]; simp
  have hrq : W2.rangeAt w.heap.size 0 (q.map cellB) := by rw [hW2]; exact range_new (heap2_0 _ _ _)
  have hrm : W2.cell? ⟨w.heap.size + 1, 0, none⟩ = some (.int .u32 m) := by rw [hW2]; exact range_new (heap2_1 _ _ _) 0 _ rfl
  have hcon : Calls Try.prog 22 #[v, .func (.func 23) #[] #[.pointer (some ⟨w.heap.size, 0, none⟩), .pointer (some ⟨w.heap.size + 1, 0, none⟩)]] W2
      fun e w' => e = .returned (.int .i64 (idx es q m)) ∧ Below w.heap.size w w' := by
    rcases hs.own.2 with ⟨rfl, h0⟩ | ⟨g, c, cur, rfl, _, hg, _⟩
    · obtain rfl : es = [] := List.eq_nil_of_length_eq_zero h0
      exact (index_nil _ _).mono fun e w' ⟨he, hw⟩ => ⟨he, by rw [hw]; exact hb2⟩
    · exact (index_any es q m hq hn w.heap.size (w.heap.size + 1) g c W2 (Array.getElem?_eq_some_iff.1 hg).1 (row_cells hs.own) hrq (by omega) hrm (by omega)).mono fun e w' ⟨he, hb⟩ => ⟨he, below_tr hb2 hb⟩
  have hcell := h.cell
  have hW := Lib.hid hW2
  have hcl2 : ((w.alloc (Obj.cells (q.map cellB).toArray 31)).alloc (Obj.cells #[.int .u32 m] 36)).cell? ⟨B, o, none⟩ = some v := by rw [← hW.out]; exact hs.cell
  rw [hW2] at hcon
  generalize idx es q m = r at hcon ⊢
  clear hs hsz hrq hrm hb2 hW2 h hW
  go_enter Try.func18, Try.ntmps18
  go_wp2_with (go_at_call 22; refine hcon.mono ?_; rintro e w' ⟨rfl, hb'⟩)
  go_ret
  exact ⟨rfl, hb'⟩
set_option maxRecDepth 100000 in
set_option maxHeartbeats 800000 in
theorem remove_any (es : List Ent) (i : Nat) (hi : i < es.length) (hn : es.length ≤ 1000) (base B o : Nat) (v : Value) (w : World) (h : SkAt w base B o v es) :
    Calls Try.prog 19 #[.pointer (some ⟨B, o, none⟩), .int .i64 i] w fun e w' => e = .returned (.tuple #[]) ∧ ∃ v', SkAt w' base B o v' (es.eraseIdx i) ∧ Mod B o v.ownBlock w w' ∧ v'.ownBlock = v.ownBlock := by
  obtain ⟨g, c, rfl⟩ : ∃ g c, v = .slice (some ⟨g, 0, none⟩) es.length c := by
    rcases h.own.2 with ⟨_, h0⟩ | ⟨g, c, _, h1, _⟩
    · omega
    · exact ⟨g, c, h1⟩
  have hcon := delete_any es i base g c w hi hn h.own
  have hcell := h.cell
  have H := Lib.hid h
  have hst : ∀ w1 : World, w.grownBy w1 (some g) → w1.cell? ⟨B, o, none⟩ = some (.slice (some ⟨g, 0, none⟩) es.length c) ∧ w1.frozen? ⟨B, o, none⟩ = false := fun w1 hg => by
    have hblk : w1.heap[B]? = w.heap[B]? := hg.block B h.lt (fun e => h.ne e.symm)
    exact ⟨(World.cell?_of_block hblk).trans h.cell, (World.frozen?_of_block hblk).trans h.frz⟩
  have HST := Lib.hid hst
  have h1 : (0 : Int) ≤ (i : Int) + 1 := by omega
  have h2 : (i : Int) + 1 ≤ 9223372036854775807 := by omega
  have HI := Lib.hid hi
  clear h hst hi
  go_enter Try.func19, Try.ntmps19
  go_wp2_with (go_at_call 25; refine hcon.mono ?_; rintro e w' ⟨rfl, hown', hg'⟩; have HO := Lib.hid hown'; have HG := Lib.hid hg'; clear hown' hg'; obtain ⟨hc1, hf1⟩ := HST.out w' HG.out)
  go_end0
  refine ⟨rfl, .slice (some ⟨g, 0, none⟩) (es.length - 1) c, ?_⟩
  have hlen : (es.eraseIdx i).length = es.length - 1 := List.length_eraseIdx_of_lt HI.out
  obtain ⟨s1, s2⟩ := H.out.stored (v' := .slice (some ⟨g, 0, none⟩) (es.length - 1) c) (es' := es.eraseIdx i) HG.out (by rw [hlen]; exact HO.out) H.out.ne
  exact ⟨s1, s2, rfl⟩
end Go.Proofs.Ytklooieghlnblaa
