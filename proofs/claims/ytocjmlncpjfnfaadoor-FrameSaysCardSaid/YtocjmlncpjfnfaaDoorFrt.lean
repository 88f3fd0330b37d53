import Derived.Test.YtocjmlncpjfnfaaDoorFri
/-
  FrameSays: what the walk wants.
-/
namespace Go.Proofs.YtocjmlncpjfnfaaDoor
open Go.RowKit
/-- the document's writing: the slice that comes out -/
theorem dreq_w (op : Int) (f : Nat → BitVec 8) (off n : Int) (A : Option Addr) (ys : List Int) (l c m : Nat) (w : World) (hA : SlRead w A (ints .u8 ys)) (hk : ys.length = l) (hm : 45 + ys.length = m) (hl : l ≤ 100000) :
    Calls Tryd.prog 7 #[.agg (rqA op f off n (.slice A l c))] w fun e w' => ∃ B cb, e = .returned (.slice B m cb) ∧ SlRead w' B (ints .u8 (rqB op f off n ys)) ∧ m ≤ cb ∧ Below w.heap.size w w' := by
  subst hk
  refine (dreq_any op f off n A ys c w hA hl).mono ?_
  rintro e w' ⟨v, rfl, hown, hb⟩
  obtain ⟨B, cb, rfl, hB, hc, h2⟩ := own_form hown (rqB_len _ _ _ _ _)
  rw [rqB_len, hm] at hc ⊢
  exact ⟨B, cb, rfl, hB, hc, hb⟩
theorem drsp_w (code n : Int) (A : Option Addr) (ys : List Int) (l c m : Nat) (w : World) (hA : SlRead w A (ints .u8 ys)) (hk : ys.length = l) (hm : 9 + ys.length = m) (hl : l ≤ 100000) :
    Calls Tryd.prog 8 #[.agg (rsA code n (.slice A l c))] w fun e w' => ∃ B cb, e = .returned (.slice B m cb) ∧ SlRead w' B (ints .u8 (rsB code n ys)) ∧ m ≤ cb ∧ Below w.heap.size w w' := by
  subst hk
  refine (dresp_any code n A ys c w hA hl).mono ?_
  rintro e w' ⟨v, rfl, hown, hb⟩
  obtain ⟨B, cb, rfl, hB, hc, h2⟩ := own_form hown (rsB_len _ _ _)
  rw [rsB_len, hm] at hc ⊢
  exact ⟨B, cb, rfl, hB, hc, hb⟩
theorem same_b (A B : Option Addr) (xs : List Int) (m ca cb : Nat) (w : World) (hA : SlRead w A (ints .u8 xs)) (hB : SlRead w B (ints .u8 xs)) (hm : xs.length = m) (hx : m ≤ 100000000) :
    Calls Tryd.prog 9 #[.slice A m ca, .slice B m cb] w fun e w' => e = .returned (.bool true) ∧ Below w.heap.size w w' := by
  subst hm
  refine (same_eqH A B xs ca cb w hA hB hx).mono ?_
  rintro e w' ⟨rfl, k, rfl⟩
  exact ⟨rfl, Below.drewNr k⟩
theorem copy_b (A : Option Addr) (xs : List Int) (m ca : Nat) (w : World) (hA : SlRead w A (ints .u8 xs)) (hm : xs.length = m) (hx : m ≤ 100000000) (h0 : 0 < m) :
    Calls Tryd.prog 12 #[.slice A m ca] w fun e w' => ∃ g c, e = .returned (.slice (some ⟨g, 0, none⟩) m c) ∧ w'.ownsRow w.heap.size 5 1 (.slice (some ⟨g, 0, none⟩) m c) m (ints .u8 xs) ∧ w.heap.size ≤ g ∧ g < w'.heap.size ∧ m ≤ c ∧ Below w.heap.size w w' := by
  subst hm
  refine (bytes_any A xs ca w hA (by omega)).mono ?_
  rintro e w' ⟨v, rfl, hown, hb⟩
  obtain ⟨g, c, rfl, h1, h2⟩ := hown.form h0
  obtain ⟨_, _, he, h3, _⟩ := own_slice hown
  cases he
  exact ⟨g, c, rfl, hown, h1, h2, h3, hb⟩
theorem xor_rg (a b : Int) (ha : 0 ≤ a ∧ a < 256) (hb : 0 ≤ b ∧ b < 256) : 0 ≤ bits .xor .u8 a b ∧ bits .xor .u8 a b < 256 := by
  rw [u8_xor a b ha.1 ha.2 hb.1 hb.2]
  have : a.toNat ^^^ b.toNat < 2 ^ 8 := Nat.xor_lt_two_pow (by omega) (by omega)
  omega
theorem Byts.set {xs : List Int} (h : Byts xs) (k : Nat) (z : Int) (hz : 0 ≤ z ∧ z < 256) : Byts (xs.set k z) := fun x hx => by
  rcases List.mem_or_eq_of_mem_set hx with h1 | rfl
  · exact h x h1
  · exact hz
/-- five lists of bytes, side by side -/
def FiveS (W : World) (G : Nat) : Prop := ∀ i, i < 5 → ∃ A xs l c, W.cell? ⟨G, i, none⟩ = some (.slice A l c) ∧ xs.length = l ∧ SlRead W A (ints .u8 xs) ∧ Byts xs ∧ l ≤ 300 ∧ l ≤ c
theorem FiveS.below {W W' : World} {G : Nat} (h : FiveS W G) (hb : Below W.heap.size W W') : FiveS W' G := fun i hi => by
  obtain ⟨A, xs, l, c, h1, h2, h3, h4⟩ := h i hi
  exact ⟨A, xs, l, c, (hb.cell (p := ⟨G, i, none⟩) (cell_lt h1)).trans h1, h2, h3.below hb, h4⟩
theorem idx_5 (G i : Nat) (hi : i < 5) (w : World) : (Instr.indexAt 36 (.slice (some ⟨G, 0, none⟩) 5 5) (.int .i64 (i : Int))).run Tryd.prog w = .ok (.pointer (some ⟨G, i, none⟩)) w := by
  have := idx_slice 36 25 1 Tryd.underlying36 (fun w => by kernel_rfl) G 0 5 5 i hi w
  rw [Nat.mul_one, Nat.zero_add] at this
  exact this
theorem ld_q2 (g : Nat) (r : Array Value) (W : World) (hi : r.size = 36) (h : W.heap[g]? = some (.cells r 27 (0, 0))) : (Instr.loadAt 27 (.pointer (some ⟨g, 0, none⟩))).run Tryd.prog W = .ok (.agg r) W := ld_q g r W (by rw [hi]; kernel_rfl) h
theorem req_r (E : Nat → Addr) (A : Option Addr) (xs : List Int) (m c : Nat) (w : World) (hA : SlRead w A (ints .u8 xs)) (hm : xs.length = m) (hx : Byts xs) (hl : m ≤ 1000) (hE : ErrsAt E w) :
    Calls Tryd.prog 14 #[.slice A m c] w fun e w' => ∃ op f off n B l cb u, e = .returned (.tuple #[.agg (rqA op f off n (.slice B l cb)), u]) ∧ RqP xs 0 (rqA op f off n (.slice B l cb)) w' ∧ TellR E (reqO xs) u w' ∧ Below w.heap.size w w' := by
  subst hm
  refine (freq_read E A xs c w hA hx hl hE).mono ?_
  rintro e w' ⟨r, u, rfl, hp, ht, hb⟩
  have hp0 : RqP xs 0 r w' := hp.elim (fun ⟨h1, D, h2, h3⟩ => .inl ⟨h1, D, h2, ownsRow_lower h3 (Nat.zero_le _)⟩) .inr
  obtain ⟨op, f, off, n, B, l, cb, rfl⟩ := hp.form
  exact ⟨op, f, off, n, B, l, cb, u, rfl, hp0, ht, hb⟩
theorem rsp_r (E : Nat → Addr) (A : Option Addr) (xs : List Int) (m c : Nat) (w : World) (hA : SlRead w A (ints .u8 xs)) (hm : xs.length = m) (hx : Byts xs) (hl : m ≤ 1000) (hE : ErrsAt E w) :
    Calls Tryd.prog 16 #[.slice A m c] w fun e w' => ∃ code n B l cb u, e = .returned (.tuple #[.agg (rsA code n (.slice B l cb)), u]) ∧ RsP xs 0 (rsA code n (.slice B l cb)) w' ∧ TellR E (rspO xs) u w' ∧ Below w.heap.size w w' := by
  subst hm
  refine (fresp_read E A xs c w hA hx hl hE).mono ?_
  rintro e w' ⟨r, u, rfl, hp, ht, hb⟩
  have hp0 : RsP xs 0 r w' := hp.elim (fun ⟨h1, D, h2, h3⟩ => .inl ⟨h1, D, h2, ownsRow_lower h3 (Nat.zero_le _)⟩) .inr
  obtain ⟨code, n, B, l, cb, rfl⟩ := hp.form
  exact ⟨code, n, B, l, cb, u, rfl, hp0, ht, hb⟩
theorem dreq_r (A : Option Addr) (xs : List Int) (m c : Nat) (w : World) (hA : SlRead w A (ints .u8 xs)) (hm : xs.length = m) (hc : m ≤ c) (hx : Byts xs) (hl : m ≤ 1000) :
    Calls Tryd.prog 15 #[.slice A m c] w fun e w' => ∃ op f off n B l cb, e = .returned (.tuple #[.agg (rqA op f off n (.slice B l cb)), .agg (fltR (reqO xs))]) ∧ RqP xs 0 (rqA op f off n (.slice B l cb)) w' ∧ Below w.heap.size w w' := by
  subst hm
  refine (drq_any A xs c w hA hc hx hl).mono ?_
  rintro e w' ⟨r, rfl, hp, hb⟩
  have hp0 : RqP xs 0 r w' := hp.elim (fun ⟨h1, D, h2, h3⟩ => .inl ⟨h1, D, h2, ownsRow_lower h3 (Nat.zero_le _)⟩) .inr
  obtain ⟨op, f, off, n, B, l, cb, rfl⟩ := hp.form
  exact ⟨op, f, off, n, B, l, cb, rfl, hp0, hb⟩
theorem drsp_r (A : Option Addr) (xs : List Int) (m c : Nat) (w : World) (hA : SlRead w A (ints .u8 xs)) (hm : xs.length = m) (hc : m ≤ c) (hx : Byts xs) (hl : m ≤ 1000) :
    Calls Tryd.prog 17 #[.slice A m c] w fun e w' => ∃ code n B l cb, e = .returned (.tuple #[.agg (rsA code n (.slice B l cb)), .agg (fltR (rspO xs))]) ∧ RsP xs 0 (rsA code n (.slice B l cb)) w' ∧ Below w.heap.size w w' := by
  subst hm
  refine (drs_any A xs c w hA hc hx hl).mono ?_
  rintro e w' ⟨r, rfl, hp, hb⟩
  have hp0 : RsP xs 0 r w' := hp.elim (fun ⟨h1, D, h2, h3⟩ => .inl ⟨h1, D, h2, ownsRow_lower h3 (Nat.zero_le _)⟩) .inr
  obtain ⟨code, n, B, l, cb, rfl⟩ := hp.form
  exact ⟨code, n, B, l, cb, rfl, hp0, hb⟩
theorem flt_form (o : Option (Nat × Int)) : ∃ c p z, fltR o = frow c p z := by
  rcases o with _ | ⟨j, z⟩
  · exact ⟨_, _, _, rfl⟩
  · exact ⟨_, _, _, rfl⟩
theorem ld_f (g : Nat) (c : Int) (p : Bool) (z : Int) (W : World) (h : W.heap[g]? = some (.cells (frow c p z) 42 (0, 0))) : (Instr.loadAt 42 (.pointer (some ⟨g, 0, none⟩))).run Tryd.prog W = .ok (.agg (frow c p z)) W := by
  simp only [Instr.loadAt, Instr.sureAddr, Sem.run_bind, Sem.run_pure, Result.andThen_ok, run_loadVar_row W g 42 42 (frow c p z) (0, 0) _ h Tryd.underlying42 rfl (by kernel_rfl)]
theorem two_new {w : World} {r1 r2 : Array Value} {t1 t2 : TypeId} : ((w.alloc (.cells r1 t1)).alloc (.cells r2 t2)).heap[w.heap.size]? = some (.cells r1 t1 (0, 0)) := heap2_0 _ _ _
end Go.Proofs.YtocjmlncpjfnfaaDoor
