/-
  A region, whatever its order, by what each of its operations leaves: one line an operation, in the text's order. (The world only grows; what is said of a value stays true as it grows.)
-/
import Derived.Test.YtffkjbbhbpaacaaDoorHd
namespace Go.Proofs.YtffkjbbhbpaacaaDoor
open Go.RowKit

/-- what one operation does in one state -/
def opDoes (P : Program) (ops : Array Oper) (o : Oper) (a : Act) (w : World) (K : Value → World → Prop) : Prop :=
  if Region.wanted o (yielded ops a.tmps) = true then
    match (execOp a.eval o).run P w with
    | .ok (.value v) w' => K v w'
    | .ok .skip w' => K undef w'
    | .ok (.enter f args) w' => Calls P f args w' fun e w'' => ∃ v, e = .returned v ∧ K v w''
    | .ok (.row row args) w' => Rows P row args w' K
    | _ => False
  else K undef w

/-- what is said of one operation's value -/
structure Sp where
  i : Nat
  dst : Option Tmp
  anc : List Nat
  known : Option Value
  says : Value → World → Prop

/-- the value is known -/
def Sp.k (i : Nat) (dst : Option Tmp) (anc : List Nat) (x : Value) : Sp := ⟨i, dst, anc, some x, fun _ _ => True⟩
/-- something is known of the value -/
def Sp.o (i : Nat) (dst : Option Tmp) (anc : List Nat) (says : Value → World → Prop) : Sp := ⟨i, dst, anc, none, says⟩

def Sp.hold (s : Sp) (v : Value) (w : World) : Prop :=
  match s.known with
  | some x => v = x
  | none => s.says v w

def puts (vals : Nat → Value) (l : List Sp) (a : Act) : Act := l.foldl (fun a s => a.put s.dst (vals s.i)) a
def valOf (l : List Sp) (v : Nat → Value) (i : Nat) : Value :=
  match l.find? (fun s => s.i == i) with
  | some s => s.known.getD (v i)
  | none => v i
def AllSp (p : Sp → Prop) : List Sp → Prop
  | [] => True
  | s :: l => p s ∧ AllSp p l
theorem AllSp.mem {p : Sp → Prop} : ∀ {l : List Sp}, AllSp p l → ∀ s ∈ l, p s
  | [], _, _, h => by cases h
  | s :: l, ⟨h, hl⟩, x, hx => by
    rcases List.mem_cons.1 hx with rfl | hx
    · exact h
    · exact hl.mem x hx
theorem AllSp.of {p : Sp → Prop} : ∀ {l : List Sp}, (∀ s ∈ l, p s) → AllSp p l
  | [], _ => trivial
  | s :: _, h => ⟨h s (List.mem_cons_self ..), AllSp.of fun x hx => h x (List.mem_cons_of_mem _ hx)⟩

/-- the list fits the region -/
def fitsB (md : Region.Mode) (ops : Array Oper) (m : Nat) (l : List Sp) : Bool :=
  (l.map (·.i) == List.range m) && decide (m ≤ ops.size) && ((List.range ops.size).all fun t => decide (t < m) || match ops[t]? with
    | none => false
    | some o => (o.after.all fun e => !Region.binds md e || decide (e.on < t)) && (List.range t).all fun j => o.after.any fun e => Region.binds md e && (e.on == j || (decide (m ≤ e.on) && decide (j < e.on)) || l.any fun s => s.i == e.on && s.anc.contains j)) &&
  l.all fun s => match ops[s.i]? with
    | none => false
    | some o => (match o.op with | .select .. => false | _ => true) && (o.dst == s.dst) &&
      (l.all fun s' => s'.i == s.i || (match s.dst with | none => true | some d => s'.dst != some d)) &&
      (s.anc.all fun j => o.after.any fun e => Region.binds md e && decide (e.on < s.i) && (e.on == j || l.any fun s' => s'.i == e.on && s'.anc.contains j)) &&
      (o.after.all fun e => !Region.binds md e || decide (e.on < s.i)) &&
      (l.all fun s' => match s'.dst with | none => true | some d => !(o.looksAt ops).contains d || s.anc.contains s'.i || s'.anc.contains s.i)

section
variable {P : Program} {ops : Array Oper} {Q : Exit → Act → World → Prop} {md : Region.Mode}

theorem put_at_ne (a : Act) (d : Option Tmp) (v : Value) (t : Tmp) (h : d ≠ some t) : (a.put d v).tmps[t]? = a.tmps[t]? := by
  cases d with
  | none => rfl
  | some d =>
    have hne : d ≠ t := fun e => h (by rw [e])
    simp [Act.put, Array.getElem?_setIfInBounds_ne hne]

theorem puts_at_ne (vals : Nat → Value) (t : Tmp) : ∀ (l : List Sp) (a : Act), (∀ s ∈ l, s.dst ≠ some t) → (puts vals l a).tmps[t]? = a.tmps[t]?
  | [], _, _ => rfl
  | s :: l, a, h => by
    show (puts vals l (a.put s.dst (vals s.i))).tmps[t]? = _
    rw [puts_at_ne vals t l _ fun x hx => h x (List.mem_cons_of_mem _ hx), put_at_ne _ _ _ _ (h s (List.mem_cons_self ..))]

theorem puts_comm (vals : Nat → Value) (d : Option Tmp) (v : Value) : ∀ (l : List Sp) (a : Act), (∀ s ∈ l, ∀ t, d = some t → s.dst ≠ some t) → puts vals l (a.put d v) = (puts vals l a).put d v
  | [], _, _ => rfl
  | s :: l, a, h => by
    show puts vals l ((a.put d v).put s.dst (vals s.i)) = (puts vals l (a.put s.dst (vals s.i))).put d v
    rw [Act.put_comm a v (vals s.i) (h s (List.mem_cons_self ..)), puts_comm vals d v l _ fun x hx => h x (List.mem_cons_of_mem _ hx)]

/-- the writers differ -/
def DstApart (l : List Sp) : Prop := l.Pairwise fun s s' => ∀ d, s.dst = some d → s'.dst ≠ some d

theorem puts_at (vals : Nat → Value) (t : Tmp) : ∀ (l : List Sp) (a : Act) (s : Sp), DstApart l → s ∈ l → s.dst = some t → (puts vals l a).tmps[t]? = (a.put (some t) (vals s.i)).tmps[t]?
  | x :: l, a, s, hp, hs, hd => by
    obtain ⟨h1, h2⟩ := List.pairwise_cons.1 hp
    show (puts vals l (a.put x.dst (vals x.i))).tmps[t]? = _
    rcases List.mem_cons.1 hs with rfl | hs
    · rw [puts_at_ne vals t l _ fun y hy => h1 y hy t hd, hd]
    · have hx : x.dst ≠ some t := fun e => h1 s hs t e hd
      rw [puts_at vals t l _ s h2 hs hd, Act.put_comm a (vals x.i) (vals s.i) (fun d hd' => by intro e; exact hx (by rw [hd', e])), put_at_ne _ _ _ _ hx]

theorem dst_uniq : ∀ (l : List Sp), DstApart l → ∀ x, x ∈ l → ∀ y, y ∈ l → ∀ t, x.dst = some t → y.dst = some t → x = y
  | [], _, _, h, _, _, _, _, _ => by cases h
  | z :: l, hp, x, hx, y, hy, t, h1, h2 => by
    obtain ⟨p1, p2⟩ := List.pairwise_cons.1 hp
    rcases List.mem_cons.1 hx with hx | hx
    · rcases List.mem_cons.1 hy with hy | hy
      · rw [hx, hy]
      · exact absurd h2 (p1 y hy t (by rw [← hx]; exact h1))
    · rcases List.mem_cons.1 hy with hy | hy
      · exact absurd h1 (p1 x hx t (by rw [← hy]; exact h2))
      · exact dst_uniq l p2 x hx y hy t h1 h2

theorem puts_congr (vals vals' : Nat → Value) : ∀ (l : List Sp) (a : Act), (∀ s ∈ l, vals s.i = vals' s.i) → puts vals l a = puts vals' l a
  | [], _, _ => rfl
  | s :: l, a, h => by
    show puts vals l (a.put s.dst (vals s.i)) = puts vals' l (a.put s.dst (vals' s.i))
    rw [h s (List.mem_cons_self ..)]
    exact puts_congr vals vals' l _ fun x hx => h x (List.mem_cons_of_mem _ hx)

def upd (vals : Nat → Value) (i : Nat) (v : Value) : Nat → Value := fun j => if j = i then v else vals j

theorem uniq : ∀ (m : List Sp), (m.map (·.i)).Nodup → ∀ x, x ∈ m → ∀ s, s ∈ m → x.i = s.i → x = s
  | [], _, _, h, _, _, _ => by cases h
  | y :: m, hn, x, h1, s, h2, e => by
    obtain ⟨n1, n2⟩ := List.nodup_cons.1 hn
    rcases List.mem_cons.1 h1 with h1 | h1
    · rcases List.mem_cons.1 h2 with h2 | h2
      · rw [h1, h2]
      · exact absurd (List.mem_map.2 ⟨s, h2, by rw [← e, h1]⟩) n1
    · rcases List.mem_cons.1 h2 with h2 | h2
      · exact absurd (List.mem_map.2 ⟨x, h1, by rw [e, h2]⟩) n1
      · exact uniq m n2 x h1 s h2 e

/-- one more is done -/
theorem puts_more (vals : Nat → Value) (D : Nat → Bool) (x : Sp) (v : Value) : ∀ (l : List Sp) (a : Act), DstApart l → (l.map (·.i)).Nodup → x ∈ l → D x.i = false →
    puts (upd vals x.i v) (l.filter fun s => D s.i || s.i == x.i) a = (puts vals (l.filter fun s => D s.i) a).put x.dst v
  | s :: l, a, hp, hn, hx, hD => by
    obtain ⟨h1, h2⟩ := List.pairwise_cons.1 hp
    obtain ⟨n1, n2⟩ := List.nodup_cons.1 hn
    by_cases hs : s.i = x.i
    · have hsx : s = x := by
        rcases List.mem_cons.1 hx with h | h
        · exact h.symm
        · exact absurd (List.mem_map.2 ⟨x, h, hs.symm⟩) n1
      subst hsx
      have hno : ∀ y ∈ l, y.i ≠ s.i := fun y hy e => n1 (List.mem_map.2 ⟨y, hy, e⟩)
      have hf : l.filter (fun y => D y.i || y.i == s.i) = l.filter fun y => D y.i := by
        apply List.filter_congr
        intro y hy
        simp [hno y hy]
      simp only [List.filter_cons, hD, beq_self_eq_true, Bool.or_true, if_true, Bool.false_eq_true, if_false, hf]
      show puts (upd vals s.i v) _ (a.put s.dst (upd vals s.i v s.i)) = _
      rw [show upd vals s.i v s.i = v by simp [upd], puts_congr (upd vals s.i v) vals _ _ fun y hy => by simp [upd, hno y ((List.mem_filter.1 hy).1)]]
      exact puts_comm vals _ _ _ _ fun y hy t ht => h1 y ((List.mem_filter.1 hy).1) t ht
    · have hx' : x ∈ l := by
        rcases List.mem_cons.1 hx with h | h
        · exact absurd (by rw [h]) hs
        · exact h
      have ih := puts_more vals D x v l
      simp only [List.filter_cons]
      by_cases hd : D s.i = true
      · simp only [hd, Bool.true_or, if_true]
        show puts (upd vals x.i v) _ (a.put s.dst (upd vals x.i v s.i)) = (puts vals _ (a.put s.dst (vals s.i))).put x.dst v
        rw [show upd vals x.i v s.i = vals s.i by simp [upd, hs]]
        exact ih _ h2 n2 hx' hD
      · have hd' : D s.i = false := by simpa using hd
        have hb : (s.i == x.i) = false := by simpa using hs
        simp only [hd', hb, Bool.or_false, Bool.false_eq_true, if_false]
        exact ih a h2 n2 hx' hD

theorem same_op (o : Oper) (hs : ∀ cs b, o.op ≠ .select cs b) {a a' : Act} (h : ∀ t ∈ o.looksAt ops, a.tmps[t]? = a'.tmps[t]?) :
    execOp a.eval o = execOp a'.eval o ∧ Region.wanted o (yielded ops a.tmps) = Region.wanted o (yielded ops a'.tmps) := by
  constructor
  · refine execOp_congr o hs fun x hx => ?_
    cases x with
    | tmp t =>
      have := h t (List.mem_append_left _ (List.mem_filterMap.2 ⟨.tmp t, by simpa using hx, rfl⟩))
      simp [Act.eval, this]
    | _ => rfl
  · unfold Region.wanted
    cases hg : o.guard with
    | none => rfl
    | some gw =>
      obtain ⟨g, want⟩ := gw
      have hy : yielded ops a.tmps g = yielded ops a'.tmps g := by
        unfold yielded
        cases ht : (ops[g]?).bind (·.dst) with
        | none => rfl
        | some t =>
          have := h t (by simp [Oper.looksAt, hg, ht])
          simp [this]
      simp only [hy]

theorem opDoes.wpOp {i : Nat} {o : Oper} {a a' : Act} {w : World} {K : Value → World → Prop} {K' : Act → World → Prop} (ho : ops[i]? = some o) (hs : ∀ cs b, o.op ≠ .select cs b)
    (h : ∀ t ∈ o.looksAt ops, a'.tmps[t]? = a.tmps[t]?) (hd : opDoes P ops o a w K) (hk : ∀ v w', K v w' → K' (a'.put o.dst v) w') : wpOp P ops Q i K' a' w := by
  obtain ⟨h1, h2⟩ := same_op (ops := ops) o hs h
  unfold Go.wpOp
  simp only [ho]
  unfold opDoes at hd
  rw [h2]
  split
  · rename_i hw
    rw [if_pos hw] at hd
    refine .inl ?_
    unfold Oper.wp
    rw [h1]
    generalize (execOp a.eval o).run P w = r at *
    cases r with
    | ok n w' =>
      cases n <;> simp only [Oper.upon] at hd ⊢
      case value v => exact hk _ _ hd
      case skip => exact hk _ _ hd
      case enter f args =>
        refine hd.mono fun e w'' he => ?_
        obtain ⟨v, rfl, hv⟩ := he
        exact hk _ _ hv
      case row row args => exact hd.mono fun v w'' he => hk _ _ he
    | halt x w' => exact hd.elim
  · rename_i hw
    rw [if_neg hw] at hd
    exact hk _ _ hd

/-- what is said of the values that are not known, of some operations -/
def Opens (l : List Sp) (js : List Nat) (v : Nat → Value) (w : World) : Prop := ∀ s ∈ l, s.i ∈ js → s.known = none → s.says (v s.i) w

/-- what was there holds the same values -/
structure Cells (w w' : World) : Prop where
  size : w.heap.size ≤ w'.heap.size
  cell : ∀ a : Addr, a.block < w.heap.size → w'.cell? a = w.cell? a
theorem Cells.refl (w : World) : Cells w w := ⟨Nat.le_refl _, fun _ _ => rfl⟩
theorem Cells.of_below {w w' : World} (h : Below w.heap.size w w') : Cells w w' := ⟨h.size, fun _ ha => h.cell ha⟩
theorem SlRead.cells {w w' : World} {A : Option Addr} {xs : List Value} (h : SlRead w A xs) (hc : Cells w w') : SlRead w' A xs := by
  intro hn
  obtain ⟨b, o, rfl, hlt, hcl⟩ := h hn
  exact ⟨b, o, rfl, Nat.lt_of_lt_of_le hlt hc.size, fun j u hu => (hc.cell ⟨b, o + j, none⟩ hlt).trans (hcl j u hu)⟩

/-- what one line owes -/
def Owes (P : Program) (ops : Array Oper) (l : List Sp) (a : Act) (w : World) (s : Sp) : Prop :=
  (∀ v w1 w2, s.hold v w1 → Cells w1 w2 → s.hold v w2) ∧
  ∀ (v : Nat → Value) (w' : World), Below w.heap.size w w' → Opens l s.anc v w' → ∀ o, ops[s.i]? = some o →
    opDoes P ops o (puts (valOf l v) (l.filter fun s' => s.anc.contains s'.i) a) w' fun x w'' => Below w.heap.size w' w'' ∧ Cells w' w'' ∧ s.hold x w''

theorem below_tr {w0 w1 w2 : World} (h : Below w0.heap.size w0 w1) (k : Below w1.heap.size w1 w2) : Below w0.heap.size w0 w2 := h.trans (k.mono h.size)

/-- where the region stands -/
structure Stands (l : List Sp) (a : Act) (w : World) (D : Nat → Bool) (a' : Act) (w' : World) : Prop where
  below : Below w.heap.size w w'
  vals : ∃ vals, a' = puts vals (l.filter fun s => D s.i) a ∧ ∀ s ∈ l, D s.i = true → s.hold (vals s.i) w'
  closed : ∀ s ∈ l, D s.i = true → ∀ j ∈ s.anc, D j = true

theorem getD_in {i : Nat} {L : Array Bool} (h : L.getD i true = false) : i < L.size := by
  rcases Nat.lt_or_ge i L.size with h' | h'
  · exact h'
  · simp [Array.getElem?_eq_none h'] at h

structure FitsP (md : Region.Mode) (ops : Array Oper) (m : Nat) (l : List Sp) : Prop where
  all : l.map (·.i) = List.range m
  le : m ≤ ops.size
  tlow : ∀ t, m ≤ t → ∀ o, ops[t]? = some o → ∀ e ∈ o.after, Region.binds md e = true → e.on < t
  tail : ∀ t, m ≤ t → ∀ o, ops[t]? = some o → ∀ j, j < t → ∃ e ∈ o.after, Region.binds md e = true ∧ (e.on = j ∨ (m ≤ e.on ∧ j < e.on) ∨ ∃ s ∈ l, s.i = e.on ∧ j ∈ s.anc)
  op : ∀ s ∈ l, ∃ o, ops[s.i]? = some o ∧ (∀ cs b, o.op ≠ .select cs b) ∧ o.dst = s.dst
  apart : DstApart l
  anc : ∀ s ∈ l, ∀ o, ops[s.i]? = some o → ∀ j ∈ s.anc, ∃ e ∈ o.after, Region.binds md e = true ∧ e.on < s.i ∧ (e.on = j ∨ ∃ s' ∈ l, s'.i = e.on ∧ j ∈ s'.anc)
  low : ∀ s ∈ l, ∀ o, ops[s.i]? = some o → ∀ e ∈ o.after, Region.binds md e = true → e.on < s.i
  looks : ∀ s ∈ l, ∀ o, ops[s.i]? = some o → ∀ s' ∈ l, ∀ d, s'.dst = some d → d ∈ o.looksAt ops → s'.i ∈ s.anc ∨ s.i ∈ s'.anc

theorem fits_of {m : Nat} {l : List Sp} (h : fitsB md ops m l = true) : FitsP md ops m l := by
  unfold fitsB at h
  simp only [Bool.and_eq_true, beq_iff_eq, List.all_eq_true, decide_eq_true_eq] at h
  obtain ⟨⟨⟨hall, hle⟩, htl⟩, h⟩ := h
  have hnd : (l.map (·.i)).Nodup := by rw [hall]; exact List.nodup_range
  have htl' : ∀ t, m ≤ t → ∀ o, ops[t]? = some o → (o.after.all fun e => !Region.binds md e || decide (e.on < t)) = true ∧ ∀ j, j < t → ∃ e ∈ o.after, Region.binds md e = true ∧ (e.on = j ∨ (m ≤ e.on ∧ j < e.on) ∨ ∃ s ∈ l, s.i = e.on ∧ j ∈ s.anc) := by
    intro t ht o ho
    have h1 := htl t (List.mem_range.2 (Array.getElem?_eq_some_iff.1 ho).1)
    rw [ho] at h1
    simp only [Bool.or_eq_true, decide_eq_true_eq, Bool.and_eq_true, List.all_eq_true] at h1
    rcases h1 with h1 | h1
    · omega
    · refine ⟨h1.1, fun j hj => ?_⟩
      obtain ⟨e, he, h2⟩ := Array.any_eq_true'.1 (h1.2 j (List.mem_range.2 hj))
      simp only [Bool.and_eq_true, Bool.or_eq_true, beq_iff_eq, decide_eq_true_eq, List.any_eq_true] at h2
      refine ⟨e, he, h2.1, ?_⟩
      rcases h2.2 with (h3 | h3) | ⟨s', hs', h3, h4⟩
      · exact .inl h3
      · exact .inr (.inl h3)
      · exact .inr (.inr ⟨s', hs', h3, by simpa using h4⟩)
  refine ⟨hall, hle, fun t ht o ho e he hb => by simpa [hb] using Array.all_eq_true_iff_forall_mem.1 (htl' t ht o ho).1 e he, fun t ht o ho => (htl' t ht o ho).2, fun s hs => ?_, ?_, fun s hs o ho j hj => ?_, fun s hs o ho e he hb => ?_, fun s hs o ho s' hs' d hd hm => ?_⟩
  · have := h s hs
    cases ho : ops[s.i]? with
    | none => rw [ho] at this; simp at this
    | some o =>
      rw [ho] at this
      simp only [Bool.and_eq_true, beq_iff_eq] at this
      refine ⟨o, rfl, fun cs b e => ?_, this.1.1.1.1.2⟩
      have := this.1.1.1.1.1
      rw [e] at this
      cases this
  · have hap : ∀ s ∈ l, ∀ s' ∈ l, s'.i ≠ s.i → ∀ d, s.dst = some d → s'.dst ≠ some d := by
      intro s hs s' hs' hne d hd
      have := h s hs
      cases ho : ops[s.i]? with
      | none => rw [ho] at this; simp at this
      | some o =>
        rw [ho] at this
        simp only [Bool.and_eq_true, beq_iff_eq, List.all_eq_true] at this
        have := this.1.1.1.2 s' hs'
        simp only [Bool.or_eq_true, beq_iff_eq, hne, false_or, hd, bne_iff_ne] at this
        exact this
    unfold DstApart
    have hn2 : l.Pairwise fun s s' => s.i ≠ s'.i := List.pairwise_map.1 hnd
    exact (hn2.imp_of_mem fun {x y} hx hy hxy d hd => hap x hx y hy (Ne.symm hxy) d hd)
  · have := h s hs
    rw [ho] at this
    simp only [Bool.and_eq_true, beq_iff_eq, List.all_eq_true] at this
    have he := this.1.1.2 j hj
    obtain ⟨e, hem, he⟩ := Array.any_eq_true'.1 he
    simp only [Bool.and_eq_true, Bool.or_eq_true, beq_iff_eq, List.any_eq_true, decide_eq_true_eq] at he
    refine ⟨e, hem, he.1.1, he.1.2, he.2.imp id fun ⟨s', hs', h1, h2⟩ => ⟨s', hs', h1, by simpa using h2⟩⟩
  · have := h s hs
    rw [ho] at this
    simp only [Bool.and_eq_true, beq_iff_eq, List.all_eq_true] at this
    have := Array.all_eq_true_iff_forall_mem.1 this.1.2 e he
    simpa [hb] using this
  · have := h s hs
    rw [ho] at this
    simp only [Bool.and_eq_true, beq_iff_eq, List.all_eq_true] at this
    have := this.2 s' hs'
    rw [hd] at this
    simp only [Bool.or_eq_true, Bool.not_eq_true', List.contains_eq_mem, decide_eq_false_iff_not, decide_eq_true_eq] at this
    rcases this with (h1 | h1) | h1
    · exact absurd hm h1
    · exact .inl h1
    · exact .inr h1

theorem FitsP.anclt {m : Nat} {l : List Sp} (hf : FitsP md ops m l) : ∀ s ∈ l, ∀ j ∈ s.anc, j < s.i := by
  have hanc : ∀ n, ∀ s ∈ l, s.i ≤ n → ∀ j ∈ s.anc, j < s.i := by
    intro n
    induction n with
    | zero =>
      intro s hs hn j hj
      obtain ⟨o, ho, _⟩ := hf.op s hs
      obtain ⟨e, _, _, hl, _⟩ := hf.anc s hs o ho j hj
      omega
    | succ n ih =>
      intro s hs hn j hj
      obtain ⟨o, ho, _⟩ := hf.op s hs
      obtain ⟨e, hem, hbn, hl, hor⟩ := hf.anc s hs o ho j hj
      rcases hor with rfl | ⟨s', hs', hse, hja⟩
      · exact hl
      · have := ih s' hs' (by omega) j hja
        omega
  exact fun s hs => hanc s.i s hs (Nat.le_refl _)

/-- one step -/
theorem stands_step {m : Nat} {l : List Sp} {a : Act} {w : World} (hf : FitsP md ops m l) (howe : ∀ s ∈ l, Owes P ops l a w s) {D : Nat → Bool} {a' : Act} {w' : World} (hst : Stands l a w D a' w')
    {s : Sp} (hs : s ∈ l) (hD : D s.i = false) (hanc : ∀ j ∈ s.anc, D j = true) {K : Act → World → Prop} (hK : ∀ a'' w'', Stands l a w (fun j => D j || j == s.i) a'' w'' → K a'' w'') : wpOp P ops Q s.i K a' w' := by
  obtain ⟨o, ho, hsel, hdst⟩ := hf.op s hs
  obtain ⟨hb, ⟨vals, rfl, hv⟩, hcl⟩ := hst
  have hnd : (l.map (·.i)).Nodup := by rw [hf.all]; exact List.nodup_range
  have hval : ∀ x ∈ l, D x.i = true → valOf l vals x.i = vals x.i := by
    intro x hx hDx
    unfold valOf
    have hfind : l.find? (fun y => y.i == x.i) = some x := by
      have : ∀ (m : List Sp), (m.map (·.i)).Nodup → x ∈ m → m.find? (fun y => y.i == x.i) = some x := by
        intro m
        induction m with
        | nil => intro _ h; cases h
        | cons y m ih =>
          intro hn hm
          obtain ⟨n1, n2⟩ := List.nodup_cons.1 hn
          by_cases e : y.i = x.i
          · rcases List.mem_cons.1 hm with rfl | hm
            · simp
            · exact absurd (List.mem_map.2 ⟨x, hm, e.symm⟩) n1
          · rcases List.mem_cons.1 hm with rfl | hm
            · exact absurd rfl e
            · simp [e, ih n2 hm]
      exact this l hnd hx
    rw [hfind]
    have hsays := hv x hx hDx
    unfold Sp.hold at hsays
    cases hk : x.known with
    | none => simp [hk]
    | some u => rw [hk] at hsays; simp [hk, hsays]
  have hopen : Opens l s.anc vals w' := fun x hx hm hk => by
    have := hv x hx (hanc _ hm)
    unfold Sp.hold at this
    rwa [hk] at this
  obtain ⟨hmono, hrun⟩ := howe s hs
  have hdo := hrun vals w' hb hopen o ho
  refine opDoes.wpOp ho hsel (fun t ht => ?_) hdo fun v w'' ⟨hbv, hcv, hsv⟩ => ?_
  · by_cases hex : ∃ x ∈ l, x.dst = some t
    · obtain ⟨x, hx, hxd⟩ := hex
      rcases hf.looks s hs o ho x hx t hxd ht with hxa | hxa
      · have hDx := hanc _ hxa
        rw [puts_at vals t _ a x (hf.apart.sublist (List.filter_sublist ..)) (List.mem_filter.2 ⟨hx, hDx⟩) hxd,
          puts_at _ t _ a x (hf.apart.sublist (List.filter_sublist ..)) (List.mem_filter.2 ⟨hx, by simpa using hxa⟩) hxd, hval x hx hDx]
      · have hDx : D x.i = false := by
          cases hc : D x.i with
          | false => rfl
          | true => rw [hcl x hx hc _ hxa] at hD; cases hD
        have hns : x.i ∉ s.anc := fun h => by rw [hanc _ h] at hDx; cases hDx
        rw [puts_at_ne _ t _ a fun y hy e => ?_, puts_at_ne _ t _ a fun y hy e => ?_]
        · have hyx := dst_uniq l hf.apart y (List.mem_filter.1 hy).1 x hx t e hxd
          have := (List.mem_filter.1 hy).2
          rw [hyx] at this
          exact hns (by simpa using this)
        · have hyx := dst_uniq l hf.apart y (List.mem_filter.1 hy).1 x hx t e hxd
          have := (List.mem_filter.1 hy).2
          rw [hyx, hDx] at this
          cases this
    · rw [puts_at_ne _ t _ a fun x hx e => hex ⟨x, (List.mem_filter.1 hx).1, e⟩, puts_at_ne _ t _ a fun x hx e => hex ⟨x, (List.mem_filter.1 hx).1, e⟩]
  · refine hK _ _ ⟨hb.trans hbv, ⟨upd vals s.i v, ?_, fun x hx hDx => ?_⟩, fun x hx hDx j hj => ?_⟩
    · rw [hdst, puts_more vals D s v l a hf.apart hnd hs hD]
    · by_cases e : x.i = s.i
      · have hxs : x = s := by
          exact uniq l hnd x hx s hs e
        subst hxs
        simpa [upd] using hsv
      · have hDx' : D x.i = true := by
          simp only [Bool.or_eq_true, beq_iff_eq, e, or_false] at hDx
          exact hDx
        have := hv x hx hDx'
        simp only [upd, e, if_false]
        exact (howe x hx).1 _ _ _ this hcv
    · simp only [Bool.or_eq_true, beq_iff_eq] at hDx ⊢
      rcases hDx with hDx | e
      · exact .inl (hcl x hx hDx j hj)
      · have hxs : x.anc = s.anc := by
          rw [uniq l hnd x hx s hs e]
        exact .inl (hanc j (hxs ▸ hj))

/-- the frame behind it all -/
def putsK (v : Nat → Value) (l : List Sp) (a : Act) : Act := l.foldl (fun a s => a.put s.dst (s.known.getD (v s.i))) a
theorem putsK_nil (v : Nat → Value) (a : Act) : putsK v [] a = a := rfl
theorem putsK_k (v : Nat → Value) (i : Nat) (d : Option Tmp) (anc : List Nat) (x : Value) (l : List Sp) (a : Act) : putsK v (Sp.k i d anc x :: l) a = putsK v l (a.put d x) := rfl
theorem putsK_o (v : Nat → Value) (i : Nat) (d : Option Tmp) (anc : List Nat) (says : Value → World → Prop) (l : List Sp) (a : Act) : putsK v (Sp.o i d anc says :: l) a = putsK v l (a.put d (v i)) := rfl
theorem putsK_eq (v : Nat → Value) (w : World) : ∀ (l : List Sp) (a : Act), AllSp (fun s => s.hold (v s.i) w) l → putsK v l a = puts v l a
  | [], _, _ => rfl
  | s :: l, a, h => by
    show putsK v l (a.put s.dst (s.known.getD (v s.i))) = puts v l (a.put s.dst (v s.i))
    have hs : s.hold (v s.i) w := h.1
    unfold Sp.hold at hs
    have e : s.known.getD (v s.i) = v s.i := by
      cases hk : s.known with
      | none => rfl
      | some u => rw [hk] at hs; simp [hs]
    rw [e]
    exact putsK_eq v w l _ h.2
theorem AllSp.get {p : Sp → Prop} {l : List Sp} (h : AllSp p l) (k : Nat) (s : Sp) (hs : l[k]? = some s) : p s := h.mem s (List.mem_of_getElem? hs)
theorem AllSp.open_ {v : Nat → Value} {w : World} {l : List Sp} (h : AllSp (fun s => s.hold (v s.i) w) l) (k : Nat) (d : Option Tmp) (anc : List Nat) (says : Value → World → Prop) (hs : l[k]? = some (Sp.o k d anc says)) : says (v k) w := h.mem _ (List.mem_of_getElem? hs)
theorem Opens.get {l : List Sp} {js : List Nat} {v : Nat → Value} {w : World} (h : Opens l js v w) (k : Nat) (d : Option Tmp) (anc : List Nat) (says : Value → World → Prop) (hs : l[k]? = some (Sp.o k d anc says)) (hj : js.contains k = true) : says (v k) w :=
  h _ (List.mem_of_getElem? hs) (by simpa [Sp.o] using hj) rfl

/-- behind it all -/
theorem stands_end {R : Act → World → Prop} {l : List Sp} {a : Act} {w : World} {D : Nat → Bool} {a' : Act} {w' : World} (hst : Stands l a w D a' w') (hall : ∀ s ∈ l, D s.i = true)
    (h : ∀ (v : Nat → Value) (w' : World), Below w.heap.size w w' → AllSp (fun s => s.hold (v s.i) w') l → R (puts v l a) w') : R a' w' := by
  obtain ⟨hb, ⟨vals, rfl, hv⟩, _⟩ := hst
  rw [List.filter_eq_self.2 hall]
  exact h vals w' hb (AllSp.of fun s hs => hv s hs (hall s hs))

theorem stands_start (l : List Sp) (a : Act) (w : World) : Stands l a w (fun _ => false) a w :=
  ⟨Below.refl _ _, ⟨fun _ => undef, by rw [List.filter_eq_nil_iff.2 (by simp)]; rfl, fun _ _ h => by cases h⟩, fun _ _ h => by cases h⟩

theorem countP_drop : ∀ (l : List Nat) (D : Nat → Bool) (i : Nat), i ∈ l → D i = false → l.countP (fun j => !(D j || j == i)) + 1 ≤ l.countP (fun j => !D j)
  | x :: l, D, i, hi, hD => by
    have hle : l.countP (fun j => !(D j || j == i)) ≤ l.countP (fun j => !D j) := List.countP_mono_left fun y _ hy => by
      simp only [Bool.not_or, Bool.and_eq_true] at hy; exact hy.1
    by_cases e : x = i
    · subst e
      simp only [List.countP_cons, hD, beq_self_eq_true, Bool.or_true, Bool.not_true, Bool.false_eq_true, if_false, Bool.not_false, if_true]
      omega
    · have hi' : i ∈ l := by
        rcases List.mem_cons.1 hi with h | h
        · exact absurd h.symm e
        · exact h
      have ih := countP_drop l D i hi' hD
      have hb : (x == i) = false := by simpa using e
      simp only [List.countP_cons, hb, Bool.or_false]
      omega

/-- the operations at the end come one behind the other -/
theorem tail_any {m : Nat} {l : List Sp} (hf : FitsP md ops m l) : ∀ (r k : Nat), k + r = ops.size → m ≤ k → ∀ (fuel : Nat) (listed : Array Bool) (a : Act) (w : World), r ≤ fuel → listed.size = ops.size → (∀ i, i < ops.size → listed.getD i true = decide (i < k)) →
    wpOps P ops Q (List.range' k r) a w → wpAny P md ops Q fuel listed a w := by
  intro r
  induction r with
  | zero =>
    intro k hk hm fuel listed a w _ _ hL h
    have hr : Region.ready md ops listed = [] := by
      refine List.eq_nil_iff_forall_not_mem.2 fun i hi => ?_
      obtain ⟨h0, o, ho, _⟩ := mem_ready.1 hi
      have hil := (Array.getElem?_eq_some_iff.1 ho).1
      rw [hL _ hil] at h0
      simp at h0
      omega
    cases fuel with
    | zero => exact ⟨hr, h⟩
    | succ f => exact ⟨fun _ => h, by rw [hr]; simp⟩
  | succ r ih =>
    intro k hk hm fuel listed a w hfu hsz hL h
    obtain ⟨f, rfl⟩ : ∃ f, fuel = f + 1 := ⟨fuel - 1, by omega⟩
    obtain ⟨o, ho⟩ : ∃ o, ops[k]? = some o := ⟨ops[k]'(by omega), Array.getElem?_eq_getElem (by omega)⟩
    have hin : k ∈ Region.ready md ops listed := mem_ready.2 ⟨by rw [hL _ (by omega)]; simp, o, ho, fun e he hb => by
      have hel := hf.tlow k hm o ho e he hb
      have := hL e.on (by omega)
      simp only [Array.getD_eq_getD_getElem?] at this ⊢
      rcases hg : listed[e.on]? with _ | b
      · have := Array.getElem?_eq_none_iff.1 hg
        omega
      · rw [hg] at this; simpa [hel] using this⟩
    refine ⟨fun hr => (by rw [hr] at hin; cases hin), fun i hi => ?_⟩
    obtain ⟨h0, o', ho', haft⟩ := mem_ready.1 hi
    have hil := (Array.getElem?_eq_some_iff.1 ho').1
    have hik : i = k := by
      rw [hL _ hil] at h0
      simp at h0
      rcases Nat.lt_or_ge k i with hlt | hge
      · obtain ⟨e, he, hb, hor⟩ := hf.tail i (by omega) o' ho' k hlt
        have h1 := haft e he hb
        have h2 : e.on < k := by
          rcases Nat.lt_or_ge e.on ops.size with h' | h'
          · have h3 := hL e.on h'
            simp only [Array.getD_eq_getD_getElem?] at h1 h3
            rcases hg : listed[e.on]? with _ | b
            · rw [hg] at h1; simp at h1
            · rw [hg] at h1 h3; simp at h1 h3; rw [h1] at h3; simpa using h3.symm
          · simp only [Array.getD_eq_getD_getElem?] at h1
            rw [Array.getElem?_eq_none (by omega)] at h1
            cases h1
        rcases hor with h4 | h4 | ⟨s, hs, h4, h5⟩
        · omega
        · omega
        · have hsi : s.i < m := by
            have : s.i ∈ l.map (·.i) := List.mem_map.2 ⟨s, hs, rfl⟩
            rw [hf.all] at this
            exact List.mem_range.1 this
          have hkm := hf.anclt s hs k h5
          omega
      · omega
    subst hik
    rw [List.range'_succ, wpOps_cons] at h
    refine wpOp_mono (fun a' w' h' => ih (i + 1) (by omega) (by omega) f _ a' w' (by omega) (by simpa using hsz) (fun j hj => ?_) h') h
    by_cases e : i = j
    · subst e; simp [hsz, hil]
    · rw [getD_set_ne true e, hL j hj]
      simp
      omega

theorem stands_any {m : Nat} {l : List Sp} {a : Act} {w : World} (hf : FitsP md ops m l) (howe : ∀ s ∈ l, Owes P ops l a w s)
    (h : ∀ (v : Nat → Value) (w' : World), Below w.heap.size w w' → AllSp (fun s => s.hold (v s.i) w') l → wpOps P ops Q (List.range' m (ops.size - m)) (puts v l a) w') :
    ∀ (fuel : Nat) (D : Nat → Bool) (listed : Array Bool) (a' : Act) (w' : World), listed.size = ops.size → (∀ i, i < ops.size → listed.getD i true = D i) → (∀ i, m ≤ i → D i = false) →
      (∀ s ∈ l, D s.i = true → ∀ o, ops[s.i]? = some o → ∀ e ∈ o.after, Region.binds md e = true → D e.on = true) →
      (List.range ops.size).countP (fun i => !D i) ≤ fuel → Stands l a w D a' w' → wpAny P md ops Q fuel listed a' w' := by
  have hle := hf.le
  have hmem : ∀ i, i < m → ∃ s ∈ l, s.i = i := fun i hi => by
    have : i ∈ l.map (·.i) := by rw [hf.all]; exact List.mem_range.2 hi
    obtain ⟨s, hs, e⟩ := List.mem_map.1 this
    exact ⟨s, hs, e⟩
  have hltm : ∀ s ∈ l, s.i < m := fun s hs => by
    have : s.i ∈ l.map (·.i) := List.mem_map.2 ⟨s, hs, rfl⟩
    rw [hf.all] at this
    exact List.mem_range.1 this
  have hlt : ∀ s ∈ l, s.i < ops.size := fun s hs => by have := hltm s hs; omega
  have hlow := hf.low
  -- ancestors are done
  have hclo : ∀ (D : Nat → Bool), (∀ s ∈ l, D s.i = true → ∀ o, ops[s.i]? = some o → ∀ e ∈ o.after, Region.binds md e = true → D e.on = true) →
      ∀ n, ∀ s ∈ l, s.i ≤ n → ∀ o, ops[s.i]? = some o → (∀ e ∈ o.after, Region.binds md e = true → D e.on = true) → ∀ j ∈ s.anc, D j = true := by
    intro D hD n
    induction n with
    | zero =>
      intro s hs hn o ho he j hj
      obtain ⟨e, _, _, hl, _⟩ := hf.anc s hs o ho j hj
      omega
    | succ n ih =>
      intro s hs hn o ho he j hj
      obtain ⟨e, hem, hbn, hl, hor⟩ := hf.anc s hs o ho j hj
      have hDe := he e hem hbn
      rcases hor with rfl | ⟨s', hs', hse, hja⟩
      · exact hDe
      · obtain ⟨o', ho', _, _⟩ := hf.op s' hs'
        have hfull := hD s' hs' (by rw [hse]; exact hDe) o' ho'
        exact ih s' hs' (by omega) o' ho' hfull j hja
  intro fuel
  induction fuel with
  | zero =>
    intro D listed a' w' hsz hL hout hD hcnt hst
    have hall0 : ∀ i, i < ops.size → D i = true := fun i hi => by
      have h0 := List.countP_eq_zero.1 (Nat.le_zero.1 hcnt) i (List.mem_range.2 hi)
      simpa using h0
    have hmn : m = ops.size := by
      rcases Nat.lt_or_ge m ops.size with h' | h'
      · have := hall0 m h'
        rw [hout m (Nat.le_refl _)] at this
        cases this
      · omega
    have hend := stands_end hst (fun s hs => hall0 _ (hlt s hs)) h
    refine tail_any hf (ops.size - m) m (by omega) (Nat.le_refl _) 0 listed a' w' (by omega) hsz (fun i hi => ?_) hend
    rw [hL i hi, hall0 i hi]
    simp
    omega
  | succ fuel ih =>
    intro D listed a' w' hsz hL hout hD hcnt hst
    by_cases hall : ∀ s ∈ l, D s.i = true
    · have hend := stands_end hst hall h
      have hDlt : ∀ i, i < ops.size → D i = decide (i < m) := fun i _ => by
        rcases Nat.lt_or_ge i m with h' | h'
        · obtain ⟨s, hs, rfl⟩ := hmem i h'
          rw [hall s hs]; simpa using h'
        · rw [hout i h']; simpa using h'
      have hc : ops.size - m ≤ fuel + 1 := by
        have : (List.range ops.size).countP (fun i => !D i) = (List.range ops.size).countP (fun i => !decide (i < m)) := List.countP_congr fun i hi => by rw [hDlt i (List.mem_range.1 hi)]
        rw [this] at hcnt
        have hsp : List.range ops.size = List.range m ++ (List.range (ops.size - m)).map (m + ·) := by
          rw [← List.range_add]
          congr 1
          omega
        rw [hsp, List.countP_append, List.countP_map] at hcnt
        have : (List.range (ops.size - m)).countP ((fun i => !decide (i < m)) ∘ (m + ·)) = ops.size - m := by
          rw [List.countP_eq_length.2 (by intro x _; simp)]
          simp
        omega
      exact tail_any hf (ops.size - m) m (by omega) (Nat.le_refl _) (fuel + 1) listed a' w' hc hsz (fun i hi => by rw [hL i hi, hDlt i hi]) hend
    refine ⟨fun hr => ?_, fun i hi => ?_⟩
    · -- nothing is ready: all are done
      have hall' : ∀ n, ∀ s ∈ l, s.i < n → D s.i = true := by
        intro n
        induction n with
        | zero => intro s _ hn; omega
        | succ n ihn =>
          intro s hs hn
          cases hDs : D s.i with
          | true => rfl
          | false =>
            exfalso
            obtain ⟨o, ho, _, _⟩ := hf.op s hs
            have hmemr : s.i ∈ Region.ready md ops listed := mem_ready.2 ⟨by rw [hL _ (hlt s hs)]; exact hDs, o, ho, fun e he hb => by
              have hel := hlow s hs o ho e he hb
              obtain ⟨s', hs', hse⟩ := hmem e.on (by have := hltm s hs; omega)
              have hd := ihn s' hs' (by omega)
              rw [hse] at hd
              have hlt' : e.on < ops.size := by have := hlt s hs; omega
              have := hL e.on hlt'
              rw [hd] at this
              simp only [Array.getD_eq_getD_getElem?] at this ⊢
              rcases hg : listed[e.on]? with _ | b
              · have := Array.getElem?_eq_none_iff.1 hg
                omega
              · rw [hg] at this; simpa using this⟩
            rw [hr] at hmemr
            cases hmemr
      exact absurd (fun s hs => hall' (s.i + 1) s hs (by omega)) hall
    · obtain ⟨h0, o, ho, haft⟩ := mem_ready.1 hi
      have hil := (Array.getElem?_eq_some_iff.1 ho).1
      have hafter : ∀ e ∈ o.after, Region.binds md e = true → D e.on = true := fun e he hb => by
        have h1 := haft e he hb
        rcases Nat.lt_or_ge e.on ops.size with h' | h'
        · rw [← hL _ h']
          simp only [Array.getD_eq_getD_getElem?] at h1 ⊢
          rcases hg : listed[e.on]? with _ | b
          · rfl
          · rw [hg] at h1; simpa using h1
        · simp only [Array.getD_eq_getD_getElem?] at h1
          rw [Array.getElem?_eq_none (by omega)] at h1
          cases h1
      have him : i < m := by
        rcases Nat.lt_or_ge i m with h' | h'
        · exact h'
        · exfalso
          refine hall fun s hs => ?_
          obtain ⟨e, he, hb, hor⟩ := hf.tail i h' o ho s.i (by have := hltm s hs; omega)
          have hDe := hafter e he hb
          rcases hor with h4 | h4 | ⟨s', hs', h4, h5⟩
          · rw [← h4]; exact hDe
          · rw [hout _ h4.1] at hDe; cases hDe
          · obtain ⟨o', ho', _, _⟩ := hf.op s' hs'
            exact hclo D hD s'.i s' hs' (Nat.le_refl _) o' ho' (hD s' hs' (by rw [h4]; exact hDe) o' ho') _ h5
      obtain ⟨s, hs, rfl⟩ := hmem i him
      have hDs : D s.i = false := by rw [← hL _ hil]; exact h0
      refine stands_step hf howe hst hs hDs (hclo D hD s.i s hs (Nat.le_refl _) o ho hafter) fun a'' w'' hst' => ?_
      refine ih (fun j => D j || j == s.i) (listed.setIfInBounds s.i true) a'' w'' (by simpa using hsz) (fun j hj => ?_) (fun j hj => ?_) (fun x hx hDx o' ho' e he hb => ?_) ?_ hst'
      · by_cases e : s.i = j
        · subst e
          simp [hsz, hil]
        · rw [getD_set_ne true e, hL j hj]
          simp [Ne.symm e]
      · have : j ≠ s.i := by omega
        simp [hout j hj, this]
      · simp only [Bool.or_eq_true, beq_iff_eq] at hDx ⊢
        rcases hDx with hDx | e'
        · exact .inl (hD x hx hDx o' ho' e he hb)
        · rw [e', ho] at ho'
          cases ho'
          exact .inl (hafter e he hb)
      · have hc : (List.range ops.size).countP (fun j => !(D j || j == s.i)) < (List.range ops.size).countP (fun j => !D j) := by
          have := countP_drop (List.range ops.size) D s.i (List.mem_range.2 hil) hDs
          omega
        omega

/-- **a region that draws its order; the operations from number m on come at its end** -/
theorem wp_region_spec_tail {id : Nat} {a : Act} {w : World} (m : Nat) (l : List Sp) (hm : P.follows .mixedOrders = true) (hf : fitsB .any ops m l = true)
    (howe : AllSp (Owes P ops l a w.drew) l)
    (h : ∀ (v : Nat → Value) (w' : World), Below w.drew.heap.size w.drew w' → AllSp (fun s => s.hold (v s.i) w') l → wpList P ops Q (ops.toList.drop m) (putsK v l a) w') : (Code.region id ops true).wp P Q a w := by
  have hfp := fits_of hf
  refine wp_region_any hm ?_
  refine stands_any hfp howe.mem (fun v w' hb hall => ?_) ops.size (fun _ => false) _ a _ (by simp) (fun i hi => by simp [hi]) (fun _ _ => rfl) (fun _ _ h => by cases h) ?_ (stands_start l a _)
  · have := h v w' hb hall
    have hle := hfp.le
    rw [putsK_eq v w' l a hall, ← wpOps_eq_wpList (ops.toList.drop m) m (by intro j; simp)] at this
    simpa using this
  · exact Nat.le_trans List.countP_le_length (by simp)

/-- **a region that draws its order** -/
theorem wp_region_spec {id : Nat} {a : Act} {w : World} (l : List Sp) (hm : P.follows .mixedOrders = true) (hf : fitsB .any ops ops.size l = true)
    (howe : AllSp (Owes P ops l a w.drew) l)
    (h : ∀ (v : Nat → Value) (w' : World), Below w.drew.heap.size w.drew w' → AllSp (fun s => s.hold (v s.i) w') l → Q .normal (putsK v l a) w') : (Code.region id ops true).wp P Q a w :=
  wp_region_spec_tail ops.size l hm hf howe fun v w' hb hall => by
    have := h v w' hb hall
    rw [List.drop_eq_nil_of_le (by simp)]
    exact this

/-- **a region in the text's order; the operations from number m on go by themselves** -/
theorem wp_region_text_tail {id : Nat} {a : Act} {w : World} (m : Nat) (l : List Sp) (hf : fitsB .any ops m l = true)
    (howe : AllSp (Owes P ops l a w) l)
    (h : ∀ (v : Nat → Value) (w' : World), Below w.heap.size w w' → AllSp (fun s => s.hold (v s.i) w') l → wpList P ops Q (ops.toList.drop m) (putsK v l a) w') : (Code.region id ops false).wp P Q a w := by
  have hfp := fits_of hf
  have hle := hfp.le
  have hmem : ∀ i, i < m → ∃ s ∈ l, s.i = i := fun i hi => by
    have : i ∈ l.map (·.i) := by rw [hfp.all]; exact List.mem_range.2 hi
    obtain ⟨s, hs, e⟩ := List.mem_map.1 this
    exact ⟨s, hs, e⟩
  have hlt : ∀ s ∈ l, s.i < m := fun s hs => by
    have : s.i ∈ l.map (·.i) := List.mem_map.2 ⟨s, hs, rfl⟩
    rw [hfp.all] at this
    exact List.mem_range.1 this
  refine wp_region ?_
  rw [List.range_eq_range']
  suffices hgo : ∀ (n k : Nat), k + n = m → ∀ (a' : Act) (w' : World), Stands l a w (fun j => decide (j < k)) a' w' → wpOps P ops Q (List.range' k (n + (ops.size - m))) a' w' by
    have := hgo m 0 (by omega) a w (by simpa using stands_start l a w)
    rwa [show m + (ops.size - m) = ops.size by omega] at this
  intro n
  induction n with
  | zero =>
    intro k hk a' w' hst
    refine stands_end hst (fun s hs => by have := hlt s hs; simp; omega) fun v w' hb hall => ?_
    have := h v w' hb hall
    rw [putsK_eq v w' l a hall, ← wpOps_eq_wpList (ops.toList.drop m) m (by intro j; simp)] at this
    have hk' : k = m := by omega
    simpa [hk'] using this
  | succ n ih =>
    intro k hk a' w' hst
    obtain ⟨s, hs, hsk⟩ := hmem k (by omega)
    rw [show n + 1 + (ops.size - m) = (n + (ops.size - m)) + 1 by omega, List.range'_succ, wpOps_cons, ← hsk]
    refine stands_step hfp howe.mem hst hs (by simp; omega) (fun j hj => by have := hfp.anclt s hs j hj; simp; omega) fun a'' w'' hst' => ?_
    rw [hsk]
    refine ih (k + 1) (by omega) a'' w'' ?_
    have he : (fun j => decide (j < k) || j == s.i) = fun j => decide (j < k + 1) := by
      funext j
      rw [Bool.eq_iff_iff]
      simp
      omega
    rwa [he] at hst'
/-- **a region in the text's order** -/
theorem wp_region_text {id : Nat} {a : Act} {w : World} (l : List Sp) (hf : fitsB .any ops ops.size l = true)
    (howe : AllSp (Owes P ops l a w) l)
    (h : ∀ (v : Nat → Value) (w' : World), Below w.heap.size w w' → AllSp (fun s => s.hold (v s.i) w') l → Q .normal (putsK v l a) w') : (Code.region id ops false).wp P Q a w :=
  wp_region_text_tail ops.size l hf howe fun v w' hb hall => by
    have := h v w' hb hall
    rw [List.drop_eq_nil_of_le (by simp)]
    exact this
end
end Go.Proofs.YtffkjbbhbpaacaaDoor
