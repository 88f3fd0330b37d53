import Derived.Test.YtklooieghlnblaaSke
/-
  skip: Take.
-/
namespace Go.Proofs.Ytklooieghlnblaa
open Go.RowKit

theorem eraseP_of (es : List Ent) (p : Ent → Bool) (i : Nat) (h : es.findIdx? p = some i) : es.eraseP p = es.eraseIdx i := by rw [List.eraseP_eq_eraseIdx, h]
theorem find_lt {es : List Ent} {p : Ent → Bool} {i : Nat} (h : es.findIdx? p = some i) : i < es.length := (List.findIdx?_eq_some_iff_getElem.1 h).1
theorem any_find {es : List Ent} {p : Ent → Bool} {i : Nat} (h : es.findIdx? p = some i) : es.any p = true := by
  obtain ⟨hl, hp, _⟩ := List.findIdx?_eq_some_iff_getElem.1 h
  exact List.any_eq_true.2 ⟨es[i], List.getElem_mem hl, hp⟩
theorem none_any {es : List Ent} {p : Ent → Bool} (h : es.findIdx? p = none) : es.any p = false ∧ es.eraseP p = es := by
  rw [List.findIdx?_eq_none_iff] at h
  exact ⟨by rw [List.any_eq_false]; intro x hx; simp [h x hx], List.eraseP_of_forall_not fun a ha => by simp [h a ha]⟩
theorem info_key : (Try.prog.info? 31).map (·.size) = some 32 := by kernel_rfl
def TakePost (w : World) (base B o : Nat) (v : Value) (es : List Ent) (p : Ent → Bool) (e : Ending) (w' : World) : Prop :=
  e = .returned (.bool (es.any p)) ∧ ∃ v', SkAt w' base B o v' (es.eraseP p) ∧ Mod B o v.ownBlock w w' ∧ v'.ownBlock = v.ownBlock
set_option maxRecDepth 100000 in
set_option maxHeartbeats 800000 in
theorem take_any (es : List Ent) (q : List UInt8) (m : Int) (hq : q.length = 32) (hn : es.length ≤ 1000) (base B o : Nat) (v : Value) (w : World) (h : SkAt w base B o v es) :
    Calls Try.prog 9 #[.pointer (some ⟨B, o, none⟩), .agg (q.map cellB).toArray, .int .u32 m] w (TakePost w base B o v es (Ent.is q m)) := by
  have hb1 : Below w.heap.size w (w.alloc (Obj.cells (q.map cellB).toArray 31)) := (Below.refl _ _).alloc (Nat.le_refl _) _
  have h1 := h.below hb1
  have hpl := place_any es q m hq hn base B o v _ h1
  have hsz : (q.map cellB).toArray.size = 32 := by simpa using hq
  have hB := h.lt
  have H := Lib.hid h
  have H1 := Lib.hid h1
  clear h h1
  cases hp : es.findIdx? (Ent.is q m) with
  | none =>
    obtain ⟨ha, he⟩ := none_any hp
    have HA := Lib.hid ha
    have HE := Lib.hid he
    rw [show plc es q m = -1 by unfold plc; rw [hp]] at hpl
    clear ha he hp
    go_enter Try.func9, Try.ntmps9
    go_wp2_with (first | (refine wpList_load_row rfl 31 _ rfl w.heap.size rfl _ _ _ _ (heap_alloc_new _ _) Try.underlying31 rfl (by rw [hsz]; exact info_key) ?_) | (go_at_call 18; refine hpl.mono ?_; rintro e w' ⟨rfl, hb'⟩))
    go_ret
    have hb := hb1.trans (hb'.mono (by simp))
    exact ⟨by rw [HA.out]; rfl, v, by rw [HE.out]; exact H.out.below hb, Mod.of_below _ H.out.lt hb, rfl⟩
  | some i =>
    have HI := Lib.hid (find_lt hp)
    have HA := Lib.hid (any_find hp)
    have HE := Lib.hid (eraseP_of es _ i hp)
    rw [show plc es q m = (i : Int) by unfold plc; rw [hp]] at hpl
    clear hp
    have hrm := fun (w1 : World) (h1 : Below (w.alloc (Obj.cells (q.map cellB).toArray 31)).heap.size (w.alloc (Obj.cells (q.map cellB).toArray 31)) w1) => remove_any es i HI.out hn base B o v w1 (H1.out.below h1)
    go_enter Try.func9, Try.ntmps9
    go_wp2_with (first | (refine wpList_load_row rfl 31 _ rfl w.heap.size rfl _ _ _ _ (heap_alloc_new _ _) Try.underlying31 rfl (by rw [hsz]; exact info_key) ?_) | (go_at_call 18; refine hpl.mono ?_; rintro e w1 ⟨rfl, hb'⟩) | (go_at_call 19; refine (hrm _ hb').mono ?_; rintro e w2 ⟨rfl, hx'⟩; have HX := Lib.hid hx'; clear hx'))
    go_ret
    obtain ⟨v', s1, s2, s3⟩ := HX.out
    have hb := hb1.trans (hb'.mono (by simp))
    exact ⟨by rw [HA.out]; rfl, v', by rw [HE.out]; exact s1, (Mod.of_below v.ownBlock hB hb).trans s2 (.inl rfl), s3⟩
end Go.Proofs.Ytklooieghlnblaa
