import Derived.Test.YtklooieghlnblaaSkx
import Derived.Test.YtklooieghlnblaaOfi
/-
  skip: both stores side by side: what stays.
-/
namespace Go.Proofs.Ytklooieghlnblaa
open Go.RowKit

def NK (es : List Ent) : Prop := es.Pairwise fun a b => ¬ (b.n = a.n ∧ b.d = a.d)
theorem is_iff (q : List UInt8) (m : Int) (e : Ent) : e.is q m = true ↔ e.n = m ∧ e.d = q := by simp [Ent.is]
theorem erase_no : ∀ {es : List Ent} {q : List UInt8} {m : Int}, NK es → ∀ x ∈ es.eraseP (Ent.is q m), x.is q m = false
  | [], _, _, _, _, h => by simp at h
  | e :: es, q, m, h, x, hx => by
    obtain ⟨h1, h2⟩ := List.pairwise_cons.1 h
    by_cases he : e.is q m = true
    · rw [List.eraseP_cons_of_pos he] at hx
      have := h1 x hx
      rw [is_iff] at he
      rw [← Bool.not_eq_true, is_iff]
      rintro ⟨rfl, rfl⟩
      exact this ⟨he.1.symm, he.2.symm⟩
    · rw [List.eraseP_cons_of_neg he] at hx
      rcases List.mem_cons.1 hx with rfl | hx
      · simpa using he
      · exact erase_no h2 x hx
theorem NK.put {es : List Ent} (h : NK es) (e : Ent) : NK (putL es e) := by
  have h1 : NK (es.eraseP (Ent.is e.d e.n)) := h.sublist (List.eraseP_sublist)
  have h2 : ∀ l : List Ent, l.Sublist (es.eraseP (Ent.is e.d e.n)) → NK (l ++ [e]) := fun l hl => by
    refine List.pairwise_append.2 ⟨h1.sublist hl, by simp, fun a ha b hb => ?_⟩
    obtain rfl := List.mem_singleton.1 hb
    have := erase_no h a (hl.subset ha)
    rw [← Bool.not_eq_true, is_iff] at this
    exact fun hc => this ⟨hc.1.symm, hc.2.symm⟩
  unfold putL
  split
  · exact h2 _ (List.eraseIdx_sublist _ _)
  · exact h2 _ (List.Sublist.refl _)
theorem NK.erase {es : List Ent} (h : NK es) (p : Ent → Bool) : NK (es.eraseP p) := h.sublist List.eraseP_sublist
theorem acc_take {es : List Ent} (h : NK es) (hl : es.length ≤ 40) : ∀ k, k ≤ es.length → acc es k = es.take k := by
  intro k
  induction k with
  | zero => intro _; rfl
  | succ k ih =>
    intro hk
    have hlt : k < es.length := by omega
    rw [acc_succ es k hlt rfl, ih (by omega)]
    have hno : ∀ a ∈ es.take k, ¬ a.is (es[k]!).d (es[k]!).n = true := fun a ha => by
      rw [is_iff]
      have hp := List.pairwise_iff_getElem.1 h
      obtain ⟨i, hi, rfl⟩ := List.getElem_of_mem ha
      have hik : i < k := by rw [List.length_take] at hi; omega
      have := hp i k (by omega) hlt hik
      simp only [List.getElem_take]
      rw [show es[k]! = es[k] by simp [hlt]]
      exact fun hc => this ⟨hc.1.symm, hc.2.symm⟩
    unfold putL
    rw [List.eraseP_of_forall_not hno, if_neg (by rw [List.length_take]; omega), List.take_succ_eq_append_getElem hlt]
    simp [hlt]
theorem acc_self {es : List Ent} (h : NK es) (hl : es.length ≤ 40) : acc es es.length = es := by
  rw [acc_take h hl _ (Nat.le_refl _), List.take_length]
theorem dk_mod {w w' : World} {Bx Bs c : Nat} {A : Option Addr} {row : Option Nat} {es : List Ent} (h : DkAt w Bx A c es) (hm : Mod Bs 0 row w w') (h1 : Bx ≠ Bs) (h2 : some Bx ≠ row) (hA : ∀ a, A = some a → 0 < es.length → a.block ≠ Bs ∧ some a.block ≠ row) : DkAt w' Bx A c es := by
  have hblk := hm.block Bx h.lt h1 h2
  refine ⟨(World.cell?_of_block hblk).trans h.cell, (World.frozen?_of_block hblk).trans h.frz, ?_, h.ne, h.cap, h.nil⟩
  intro hx
  obtain ⟨b, o, e, hlt, hc⟩ := h.row hx
  obtain ⟨g1, g2⟩ := hA _ e (by rw [cells_len] at hx; omega)
  exact ⟨b, o, e, Nat.lt_of_lt_of_le hlt hm.size, fun j u hu => (World.cell?_of_block (hm.block b hlt g1 g2)).trans (hc j u hu)⟩
theorem sk_mod {w w' : World} {n Bs Bx : Nat} {v : Value} {es : List Ent} (h : SkAt w n Bs 0 v es) (hm : Mod Bx 0 none w w') (h1 : Bs ≠ Bx) (h2 : v.ownBlock ≠ some Bx) : SkAt w' n Bs 0 v es := by
  have hblk := hm.block Bs h.lt h1 (by simp)
  refine ⟨(World.cell?_of_block hblk).trans h.cell, (World.frozen?_of_block hblk).trans h.frz, ?_, h.ne⟩
  refine h.own.kept (row := some Bx) ⟨hm.os, hm.tape, hm.output, hm.size, fun k hk hr => hm.block k hk (fun e => hr (by rw [e])) (by simp)⟩ (.inr h2)
/-- both stores: the same entries -/
structure Two (w0 w : World) (n Bs : Nat) (vs : Value) (Bx : Nat) (A : Option Addr) (c : Nat) (es : List Ent) : Prop where
  sk : SkAt w n Bs 0 vs es
  dk : DkAt w Bx A c es
  nBs : n ≤ Bs
  nBx : n ≤ Bx
  ne : Bs ≠ Bx
  own : vs.ownBlock ≠ some Bx
  row : ∀ a, A = some a → 0 < es.length → n ≤ a.block ∧ a.block ≠ Bs ∧ some a.block ≠ vs.ownBlock
  len : es.length ≤ 40
  nk : NK es
  low : Below n w0 w
  nw : n ≤ w.heap.size
theorem Two.below {w0 w w' : World} {n Bs : Nat} {vs : Value} {Bx : Nat} {A : Option Addr} {c : Nat} {es : List Ent} (h : Two w0 w n Bs vs Bx A c es) (hb : Below w.heap.size w w') : Two w0 w' n Bs vs Bx A c es :=
  ⟨h.sk.below hb, h.dk.below hb, h.nBs, h.nBx, h.ne, h.own, h.row, h.len, h.nk, h.low.trans (hb.mono h.nw), Nat.le_trans h.nw hb.size⟩
/-- the first store has gone on: half way -/
structure Half (w0 w : World) (n Bs : Nat) (vs : Value) (Bx : Nat) (A : Option Addr) (c : Nat) (es es' : List Ent) : Prop where
  sk : SkAt w n Bs 0 vs es'
  dk : DkAt w Bx A c es
  nBs : n ≤ Bs
  nBx : n ≤ Bx
  ne : Bs ≠ Bx
  own : vs.ownBlock ≠ some Bx
  row : ∀ a, A = some a → 0 < es.length → n ≤ a.block ∧ a.block ≠ Bs ∧ some a.block ≠ vs.ownBlock
  len : es.length ≤ 40
  nk : NK es
  low : Below n w0 w
  nw : n ≤ w.heap.size
theorem Two.half {w0 w w' : World} {n Bs : Nat} {vs vs' : Value} {Bx : Nat} {A : Option Addr} {c : Nat} {es es' : List Ent} {row : Option Nat} (h : Two w0 w n Bs vs Bx A c es) (hs : SkAt w' n Bs 0 vs' es') (hm : Mod Bs 0 row w w') (hrow : row = vs.ownBlock ∨ row = none) (hk : ∀ q, vs'.ownBlock = some q → vs.ownBlock = some q ∨ w.heap.size ≤ q) : Half w0 w' n Bs vs' Bx A c es es' := by
  have hr1 : some Bx ≠ row := by
    rcases hrow with rfl | rfl
    · exact fun e => h.own e.symm
    · simp
  have hr2 : ∀ k, row = some k → n ≤ k := by
    rcases hrow with rfl | rfl
    · exact own_lt h.sk
    · simp
  refine ⟨hs, dk_mod h.dk hm h.ne.symm hr1 (fun a ha hl => ?_), h.nBs, h.nBx, h.ne, ?_, fun a ha hl => ?_, h.len, h.nk, hm.below_of h.low h.nw h.nBs hr2, Nat.le_trans h.nw hm.size⟩
  · obtain ⟨_, g1, g2⟩ := h.row a ha hl
    refine ⟨g1, ?_⟩
    rcases hrow with rfl | rfl
    · exact g2
    · simp
  · intro e
    rcases hk Bx e with h' | h'
    · exact h.own h'
    · have := h.dk.lt
      omega
  · obtain ⟨g0, g1, g2⟩ := h.row a ha hl
    refine ⟨g0, g1, fun e => ?_⟩
    rcases hk a.block e.symm with h' | h'
    · exact g2 h'.symm
    · obtain ⟨b, o, e2, hlt, _⟩ := h.dk.row (by rw [cells_len]; omega)
      rw [ha] at e2
      obtain rfl := Option.some.inj e2
      simp only at h'
      omega
theorem Half.two {w0 w w' : World} {n Bs : Nat} {vs : Value} {Bx : Nat} {A A' : Option Addr} {c c' : Nat} {es es' : List Ent} (h : Half w0 w n Bs vs Bx A c es es') (hd : DkAt w' Bx A' c' es') (hm : Mod Bx 0 none w w') (hk : ∀ a, A' = some a → 0 < es'.length → w.heap.size ≤ a.block ∨ (A = some a ∧ 0 < es.length)) (hl : es'.length ≤ 40) (hn : NK es') : Two w0 w' n Bs vs Bx A' c' es' := by
  refine ⟨sk_mod h.sk hm h.ne h.own, hd, h.nBs, h.nBx, h.ne, h.own, fun a ha hl => ?_, hl, hn, hm.below_of h.low h.nw h.nBx (by simp), Nat.le_trans h.nw hm.size⟩
  rcases hk a ha hl with h1 | ⟨h1, h2⟩
  · have hB := h.sk.lt
    have hw := h.nw
    refine ⟨by omega, by omega, fun e => ?_⟩
    have := (h.sk.own.lt a.block e.symm).2
    omega
  · exact h.row a h1 h2
theorem Half.same {w0 w : World} {n Bs : Nat} {vs : Value} {Bx : Nat} {A : Option Addr} {c : Nat} {es : List Ent} (h : Half w0 w n Bs vs Bx A c es es) : Two w0 w n Bs vs Bx A c es :=
  ⟨h.sk, h.dk, h.nBs, h.nBx, h.ne, h.own, h.row, h.len, h.nk, h.low, h.nw⟩
end Go.Proofs.Ytklooieghlnblaa
