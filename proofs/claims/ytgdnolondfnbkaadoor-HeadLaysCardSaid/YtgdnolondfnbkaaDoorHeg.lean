import Derived.Test.YtgdnolondfnbkaaDoorHef
import Derived.DeepKeys
/-
  Headers that are equal; what is told, as a fault.
-/
namespace Go.Proofs.YtgdnolondfnbkaaDoor
open Go.RowKit

theorem mapM_some {α β : Type} (f : α → Option β) : ∀ l : List α, (∀ a ∈ l, ∃ b, f a = some b) → ∃ bs, l.mapM f = some bs
  | [], _ => ⟨[], rfl⟩
  | a :: l, h => by
    obtain ⟨b, hb⟩ := h a (by simp)
    obtain ⟨bs, hbs⟩ := mapM_some f l (fun x hx => h x (by simp [hx]))
    exact ⟨b :: bs, by simp [List.mapM_cons, hb, hbs]⟩
theorem lits_int {P : Program} {d : Nat} {t : TypeId} {q : IntKind} {n : Int} (h : P.underlying t = some (.int q)) (hw : (Lit.int q n).wf = true) : P.keyLits (d + 1) t [.int q n] = some [.int q n] := by
  simp [Program.keyLits, h, hw]
theorem lits_arr {P : Program} {d : Nat} {t t8 : TypeId} {n : Nat} {xs : List Int} (h : P.underlying t = some (.array n t8)) (h8 : P.underlying t8 = some (.int .u8)) (hc : P.cellsOf t = n) (hc8 : P.cellsOf t8 = 1) (hl : xs.length = n) (hw : ∀ x ∈ xs, (Lit.int .u8 x).wf = true) :
    ∃ la, P.keyLits (d + 2) t (ints .u8 xs) = some la := by
  obtain ⟨bs, hbs⟩ := mapM_some (fun i => P.keyLits (d + 1) t8 (((ints .u8 xs).drop (i * P.cellsOf t8)).take (P.cellsOf t8))) (List.range n) (fun i hi => by
    have hi : i < xs.length := by simpa [hl] using hi
    have e : ((ints .u8 xs).drop (i * P.cellsOf t8)).take (P.cellsOf t8) = [.int .u8 xs[i]] := by
      rw [hc8, Nat.mul_one]
      refine List.ext_getElem? fun j => ?_
      rcases j with _ | j
      · simp [ints, hi]
      · simp [ints]; omega
    exact ⟨_, by rw [e]; exact lits_int h8 (hw _ (List.getElem_mem hi))⟩)
  refine ⟨bs.flatten, ?_⟩
  unfold Program.keyLits
  simp only [h, ints_length, hl, hc, if_true, hbs, Option.map_some]
theorem hdr_lits (dh : List Int) (pn n : Int) (hl : dh.length = 32) (hb : ∀ x ∈ dh, (Lit.int .u8 x).wf = true) (hp : (Lit.int .u32 pn).wf = true) (hn : (Lit.int .u32 n).wf = true) : ∃ la, Tryd.prog.keyLits 4 26 (hdC dh pn n) = some la := by
  obtain ⟨la, hla⟩ := lits_arr (P := Tryd.prog) (d := 1) Tryd.underlying23 Tryd.underlying5 (by kernel_rfl) (by kernel_rfl) hl hb
  have hil : (ints .u8 dh).length = 32 := by rw [ints_length, hl]
  have c0 : Tryd.prog.cellsOf 23 = 32 := by kernel_rfl
  have c1 : Tryd.prog.cellsOf 24 = 1 := by kernel_rfl
  have c2 : Tryd.prog.cellsOf 26 = 34 := by kernel_rfl
  have e0 : ((hdC dh pn n).drop 0).take 32 = ints .u8 dh := by rw [List.drop_zero, hdC, List.take_append_of_le_length (by omega), List.take_of_length_le (by omega)]
  have e1 : ((hdC dh pn n).drop 32).take 1 = [.int .u32 pn] := by rw [hdC, List.drop_append_of_le_length (by omega), List.drop_of_length_le (by omega)]; rfl
  have e2 : ((hdC dh pn n).drop 33).take 1 = [.int .u32 n] := by
    rw [hdC, List.drop_append, List.drop_of_length_le (by omega), hil]; rfl
  have h32 := Tryd.underlying24
  have l1 := lits_int (P := Tryd.prog) (d := 2) h32 hp
  have l2 := lits_int (P := Tryd.prog) (d := 2) h32 hn
  refine ⟨([la, [.int .u32 pn], [.int .u32 n]]).flatten, ?_⟩
  unfold Program.keyLits
  simp only [Tryd.underlying26, hdC_len _ _ _ hl, c2, List.mapM_cons, List.mapM_nil, c0, c1, e0, e1, e2, hla, l1, l2]
  rw [if_pos ⟨trivial, by kernel_rfl⟩]
  rfl
theorem hdr_eq (dh : List Int) (pn n : Int) (hl : dh.length = 32) (hb : ∀ x ∈ dh, (Lit.int .u8 x).wf = true) (hp : (Lit.int .u32 pn).wf = true) (hn : (Lit.int .u32 n).wf = true) (w : World) : (Op.equalIn 10000 26 (.agg (hdC dh pn n).toArray) (.agg (hdC dh pn n).toArray)).run Tryd.prog w = .ok true w := by
  obtain ⟨la, hla⟩ := hdr_lits dh pn n hl hb hp hn
  have hf : (Value.agg (hdC dh pn n).toArray).formed Tryd.prog 26 = true := by
    have c2 : Tryd.prog.cellsOf 26 = 34 := by kernel_rfl
    simp [Value.formed, Tryd.underlying26, c2, hdC_len _ _ _ hl]
  obtain ⟨r, hr, hiff⟩ := run_equalIn_deep (P := Tryd.prog) 9996 4 26 (by kernel_rfl) w 4 4 _ _ la la hf hf hla hla
  rw [hr, hiff.2 rfl]
theorem zdh_wf : ∀ x ∈ zdh, (Lit.int .u8 x).wf = true := by decide
theorem byts_wf {xs : List Int} (h : Byts xs) : ∀ x ∈ xs, (Lit.int .u8 x).wf = true := fun x hx => by
  have := h x hx
  simp [Lit.wf, IntKind.min, IntKind.max, IntKind.signed, IntKind.bits]
  omega
theorem word_wf {xs : List Int} (h : Byts xs) (k : Nat) : (Lit.int .u32 (wordI xs k)).wf = true := by
  have h0 := h.at_ k
  have h1 := h.at_ (k + 1)
  have h2 := h.at_ (k + 2)
  have h3 := h.at_ (k + 3)
  simp [Lit.wf, IntKind.min, IntKind.max, IntKind.signed, IntKind.bits, wordI]
  omega
theorem hdR_eq (xs : List Int) (h : Byts xs) (w : World) : (Op.equalIn 10000 26 (.agg (hdR xs).toArray) (.agg (hdR xs).toArray)).run Tryd.prog w = .ok true w := by
  unfold hdR
  split
  · exact hdr_eq _ _ _ (by simp; omega) (byts_wf (fun x hx => h x (List.mem_of_mem_take hx))) (word_wf h _) (word_wf h _) w
  · exact hdr_eq _ _ _ zdh_len zdh_wf rfl rfl w
/-- what is told, as a fault -/
def fltR (o : Option (Nat × Int)) : Array Value := match o with | none => frow 0 false 0 | some (j, z) => frow (101 + (j : Int)) true z
theorem TellR.below {E : Nat → Addr} {o : Option (Nat × Int)} {v : Value} {w w' : World} (h : TellR E o v w) (hb : Below w.heap.size w w') : TellR E o v w' := by
  rcases o with _ | ⟨k, z⟩
  · exact h
  · obtain ⟨hk, bt, e, ha⟩ := h
    exact ⟨hk, bt, e, ha.below hb⟩
theorem same_tell (E : Nat → Addr) (o : Option (Nat × Int)) (v : Value) (w : World) (hE : ErrsAt E w) (h : TellR E o v w) : Calls Tryd.prog 14 #[v, .agg (fltR o)] w fun e w' => e = .returned (.bool true) ∧ Below w.heap.size w w' := by
  rcases o with _ | ⟨k, z⟩
  · obtain rfl : v = .nilIface := h
    exact same_any E .nilIface 0 0 (.inl ⟨rfl, rfl⟩) w hE
  · obtain ⟨hk, bt, rfl, ha⟩ := h
    exact same_at E bt k z hk w hE ha
theorem same_eqH (A B : Option Addr) (xs : List Int) (ca cb : Nat) (w : World) (hA : SlRead w A (ints .u8 xs)) (hB : SlRead w B (ints .u8 xs)) (hx : xs.length ≤ 100000000) :
    Quiets Tryd.prog 11 #[.slice A xs.length ca, .slice B xs.length cb] w (.bool true) := by
  have h := sameBytes_any A B xs xs ca cb w hA hB (by omega) (by omega)
  rw [show decide (xs = xs) = true by simp] at h
  exact h
theorem RestP.form {xs : List Int} {r : Value} {w : World} (h : RestP xs r w) : ∃ A c, r = .slice A (xs.drop 40).length c ∧ SlRead w A (ints .u8 (xs.drop 40)) := by
  unfold RestP at h
  split at h
  · obtain ⟨A, c, rfl, hr⟩ := h
    exact ⟨A, c, by simp, hr⟩
  · obtain rfl := h
    have e : xs.drop 40 = [] := List.drop_of_length_le (by omega)
    rw [e]
    exact ⟨none, 0, rfl, SlRead.nil_⟩
theorem put_turn {w w0 w' : World} {N : Nat} {v : Value} (ho : ∀ g, v.ownBlock = some g → N ≤ g) (hb : Below w.heap.size w w0) (hg : w0.grownBy w' v.ownBlock) : Turn (fun q => N ≤ q) w w' :=
  (Turn.of_below hb).trans (Turn.of_grown (F := fun q => N ≤ q) hg (fun k hk => ho k hk)) (fun _ hq => .inl hq)
end Go.Proofs.YtgdnolondfnbkaaDoor
