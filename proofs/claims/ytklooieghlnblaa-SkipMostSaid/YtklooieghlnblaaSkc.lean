import Derived.Test.YtklooieghlnblaaSkb
import Derived.Shelf.SlicesQ.IndexFunc
import Derived.Lib.Hide
/-
  skip: the place of an entry.
-/
namespace Go.Proofs.Ytklooieghlnblaa
open Go.RowKit

structure Ent where
  d : List UInt8
  k : List UInt8
  n : Int
  hd : d.length = 32
  hk : k.length = 32
def Ent.ce (e : Ent) : List Value := ceT e.d e.k e.n
theorem Ent.ce_len (e : Ent) : e.ce.length = 65 := ceT_len _ _ _ e.hd e.hk
def Ent.is (q : List UInt8) (m : Int) (e : Ent) : Bool := decide (e.n = m) && (e.d == q)
instance : Inhabited Ent := ⟨⟨List.replicate 32 0, List.replicate 32 0, 0, by simp, by simp⟩⟩
def cells (es : List Ent) : List Value := es.flatMap Ent.ce
theorem cells_len (es : List Ent) : (cells es).length = es.length * 65 := by
  induction es with
  | nil => rfl
  | cons e es ih =>
    simp only [cells, List.flatMap_cons, List.length_append, List.length_cons] at ih ⊢
    rw [ih, e.ce_len]
    omega
theorem cells_get : ∀ (es : List Ent) (j : Nat), j < es.length → ∀ (i : Nat), i < 65 → (cells es)[j * 65 + i]? = (es[j]!.ce)[i]?
  | [], j, h, _, _ => absurd h (Nat.not_lt_zero _)
  | e :: es, 0, _, i, hi => by
    simp only [cells, List.flatMap_cons, Nat.zero_mul, Nat.zero_add]
    rw [List.getElem?_append_left (by rw [e.ce_len]; exact hi)]
    rfl
  | e :: es, j + 1, h, i, hi => by
    have ih := cells_get es j (by simpa using h) i hi
    simp only [cells, List.flatMap_cons] at ih ⊢
    rw [List.getElem?_append_right (by rw [e.ce_len]; omega), e.ce_len, show (j + 1) * 65 + i - 65 = j * 65 + i by omega, ih]
    rfl
def idx (es : List Ent) (q : List UInt8) (m : Int) : Int := Lib.idxBy (fun _ y => y.is q m) es default

def rhoI : Go.Shelf.Ren := ⟨fun _ => 22, fun n => if n = 0 then 0 else if n = 3 then 3 else if n = 4 then 4 else if n = 22 then 24 else if n = 25 then 58 else 46, fun n => n⟩
theorem layI : SlLaysH0.n6 Try.prog rhoI where
  mixed := by kernel_rfl
  f6 := ⟨Try.f22.name, by kernel_rfl, by kernel_rfl⟩
  t0 := by kernel_rfl
  a0 := fun _ => by kernel_rfl
  z0 := fun _ => by kernel_rfl
  v0 := fun _ => by kernel_rfl
  t3 := by kernel_rfl
  a3 := fun _ => by kernel_rfl
  z3 := fun _ => by kernel_rfl
  v3 := fun _ => by kernel_rfl
  t4 := by kernel_rfl
  a4 := fun _ => by kernel_rfl
  z4 := fun _ => by kernel_rfl
  v4 := fun _ => by kernel_rfl
  t22 := by kernel_rfl
  a22 := fun _ => by kernel_rfl
  z22 := fun _ => by kernel_rfl
  v22 := fun _ => by kernel_rfl
  t25 := by kernel_rfl
  a25 := fun _ => by kernel_rfl
  z25 := fun _ => by kernel_rfl
  v25 := fun _ => by kernel_rfl

theorem row_cells {w : World} {base : Nat} {g c : Nat} {es : List Ent} (h : w.ownsRow base 46 65 (.slice (some ⟨g, 0, none⟩) es.length c) es.length (cells es)) :
    ∀ j, j < es.length → ∀ i v, (es[j]!.ce)[i]? = some v → w.cell? ⟨g, 0 + j * 65 + i, none⟩ = some v := by
  intro j hj i v hi
  have hi' : i < 65 := by
    have := (List.getElem?_eq_some_iff.1 hi).1
    rwa [Ent.ce_len] at this
  have := h.cells (g := g) rfl (j * 65 + i) v (by rw [cells_get es j hj i hi']; exact hi)
  rw [Addr.add_lit] at this
  simpa using this
theorem clos_enters (args : Array Value) (w : World) : (callFunc 23 args).run Try.prog w = .ok (.enter 23 args) w := enters_of Try.func23 (by kernel_rfl) rfl args w
theorem index_any (es : List Ent) (q : List UInt8) (m : Int) (hq : q.length = 32) (hn : es.length ≤ 1000) (bq bm g c : Nat) (w : World) (hg : g < w.heap.size)
    (hrow : ∀ j, j < es.length → ∀ i v, (es[j]!.ce)[i]? = some v → w.cell? ⟨g, 0 + j * 65 + i, none⟩ = some v)
    (hrq : w.rangeAt bq 0 (q.map cellB)) (hlq : bq < w.heap.size) (hm : w.cell? ⟨bm, 0, none⟩ = some (.int .u32 m)) (hlm : bm < w.heap.size) :
    Calls Try.prog 22 #[.slice (some ⟨g, 0, none⟩) es.length c, .func (.func 23) #[] #[.pointer (some ⟨bq, 0, none⟩), .pointer (some ⟨bm, 0, none⟩)]] w
      fun e w' => e = .returned (.int .i64 (idx es q m)) ∧ Below w.heap.size w w' := by
  have h := AnyQ.slices_IndexFunc layI 65 (fun _ => by kernel_rfl) (fun _ => by kernel_rfl) Ent.ce Ent.ce_len (Ent.is q m) 23 #[.pointer (some ⟨bq, 0, none⟩), .pointer (some ⟨bm, 0, none⟩)] clos_enters g 0 es.length c es w
    (fun W x hb => by
      have := clos_any x.d x.k q x.n m x.hd x.hk hq bq bm W (rangeAt_below hrq hb hlq) (Nat.lt_of_lt_of_le hlq hb.size) ((hb.cell (p := ⟨bm, 0, none⟩) hlm).trans hm) (Nat.lt_of_lt_of_le hlm hb.size)
      exact this.mono fun e w' ⟨he, hb'⟩ => ⟨he, below_tr hb hb'⟩)
    (Nat.le_refl _) (by omega) hg hrow
  rw [List.take_length] at h
  exact h
set_option maxHeartbeats 400000 in
theorem index_nil (f : Value) (w : World) :
    Calls Try.prog 22 #[.slice none 0 0, f] w fun e w' => e = .returned (.int .i64 (-1)) ∧ w' = w := by
  go_enter Try.func22, Try.ntmps22
  go_wp2
  refine wp_loop_rounds 1 ?_
  rw [rounds_succ]
  go_wp2
  go_ret
  exact ⟨rfl, rfl⟩
end Go.Proofs.Ytklooieghlnblaa
