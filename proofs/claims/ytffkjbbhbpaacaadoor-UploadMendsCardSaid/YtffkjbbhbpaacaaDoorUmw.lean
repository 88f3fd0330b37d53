import Derived.Test.YtffkjbbhbpaacaaDoorUdb
import Derived.Test.YtffkjbbhbpaacaaDoorUph
import Derived.Test.YtffkjbbhbpaacaaDoorDse
import Derived.Test.YtffkjbbhbpaacaaDoorDsp
import Derived.Test.YtffkjbbhbpaacaaDoorUff
import Derived.Test.YtffkjbbhbpaacaaDoorFil
import Derived.Test.YtffkjbbhbpaacaaDoorObl
import Derived.Deep.DeepCutAuto
/-
  UploadMends: a round of asking, by states.
  UploadMends: what befalls the relay; the walk.
  UploadMends: the walk.
-/
namespace Go.Proofs.YtffkjbbhbpaacaaDoor
open Go.RowKit

theorem bys_bytsU (zs : List (BitVec 8)) : Byts (bys zs) := fun x hx => by
  unfold bys at hx
  obtain ⟨b, _, rfl⟩ := List.mem_map.1 hx
  have := b.isLt
  rw [n8N]
  omega
/-- an entry of that id's: what it holds, whether it is whole -/
def EnM (k : Nat → BitVec 8) (L : Nat) (e : Ds) (ws : List (BitVec 8)) (d : Bool) : Prop := e.f = k ∧ e.n = (L : Int) ∧ e.bs = bys ws ∧ ws.length ≤ L ∧ e.done = d ∧ (d = true → ws.length = L)
theorem EnM.used {k : Nat → BitVec 8} {L : Nat} {e : Ds} {ws : List (BitVec 8)} {d : Bool} (h : EnM k L e ws d) : EnM k L e.used ws d := h
theorem EnM.is {k : Nat → BitVec 8} {L : Nat} {e : Ds} {ws : List (BitVec 8)} {d : Bool} (h : EnM k L e ws d) : [e].findIdx? (Ds.is k) = some 0 := by
  have : Ds.is k e = true := by unfold Ds.is; rw [h.1]; exact beq_self_eq_true _
  simp [List.findIdx?_cons, this]
theorem EnM.len {k : Nat → BitVec 8} {L : Nat} {e : Ds} {ws : List (BitVec 8)} {d : Bool} (h : EnM k L e ws d) : e.bs.length = ws.length := by rw [h.2.2.1, bys_length]
/-- what it holds is the file's, or may be another text -/
def Gd (zs ws : List (BitVec 8)) (b : Nat) : Prop := b = 8 ∨ (b = 0 ∧ ws = zs.take ws.length)
/-- where it may stand, and how many rounds are left at most -/
inductive MI (k : Nat → BitVec 8) (L : Nat) (zs : List (BitVec 8)) (w4 : Int) : Int → Int → List Ds → Nat → Prop
  | z0 (t : Int) : MI k L zs w4 0 t [] 6
  | z1 (t : Int) : MI k L zs w4 1 t [] 5
  | z2 (a : Nat) (h : a < L) : MI k L zs w4 2 (a : Int) [] 6
  | z3 (t : Int) : MI k L zs w4 3 t [] 6
  | z4 (t : Int) : MI k L zs w4 4 t [] 6
  | e0 (t : Int) (e : Ds) (ws : List (BitVec 8)) (b : Nat) (he : EnM k L e ws false) (hg : Gd zs ws b) : MI k L zs w4 0 t [e] (4 + b)
  | e1 (t : Int) (e : Ds) (ws : List (BitVec 8)) (b : Nat) (he : EnM k L e ws false) (hg : Gd zs ws b) : MI k L zs w4 1 t [e] (5 + b)
  | e2 (a : Nat) (e : Ds) (ws : List (BitVec 8)) (b : Nat) (he : EnM k L e ws false) (hg : Gd zs ws b) (haj : a ≤ ws.length) (h : a < L) : MI k L zs w4 2 (a : Int) [e] ((L - a + 199) / 200 + 1 + b)
  | e3 (t : Int) (e : Ds) (ws : List (BitVec 8)) (b : Nat) (he : EnM k L e ws false) (hg : Gd zs ws b) (hl : ws.length = L) : MI k L zs w4 3 t [e] (1 + b)
  | e4 (t : Int) (e : Ds) (ws : List (BitVec 8)) (he : EnM k L e ws false) : MI k L zs w4 4 t [e] 6
  | f0 (t : Int) (e : Ds) (ws : List (BitVec 8)) (he : EnM k L e ws true) : MI k L zs w4 0 t [e] 1
  | f1 (t : Int) (e : Ds) (ws : List (BitVec 8)) (he : EnM k L e ws true) : MI k L zs w4 1 t [e] 2
  | f2 (a : Nat) (e : Ds) (ws : List (BitVec 8)) (he : EnM k L e ws true) (h : a < L) : MI k L zs w4 2 (a : Int) [e] 2
  | f3 (t : Int) (e : Ds) (ws : List (BitVec 8)) (he : EnM k L e ws true) : MI k L zs w4 3 t [e] 1
  | f4 (t : Int) (e : Ds) (ws : List (BitVec 8)) (he : EnM k L e ws true) : MI k L zs w4 4 t [e] 6
  | g5 (t : Int) (e : Ds) (ws : List (BitVec 8)) (he : EnM k L e ws true) : MI k L zs w4 5 t [e] 0
  | h5 (t : Int) (h : w4 = 0) : MI k L zs w4 5 t [] 0
/-- a round: what is asked; what is answered; where it goes on -/
structure StepU (k : Nat → BitVec 8) (L : Nat) (A : Option Addr) (c : Nat) (zs : List (BitVec 8)) (E : Nat → Addr) (g S B : Nat) (V : Value) (es : List Ds) (ph at' p q : Int) (IP : List Ds → Prop) (op off n : Int) (ys : List Int) (l : Nat) (code nres : Int) (ds : List Int) (ld : Nat) : Prop where
  hl : ys.length = l
  hl2 : l ≤ 200
  hd : ds.length = ld
  hd2 : ld ≤ 200
  hdb : Byts ds
  hc : 0 ≤ code ∧ code ≤ 19
  hn : 0 ≤ nres ∧ nres < 4294967296
  ask : ∀ W, UpH W g ph at' 0 0 → SlRead W A (ints .u8 (bys zs)) → Calls Tryd.prog 9 #[.pointer (some ⟨g, 0, none⟩), .agg (arr8 32 k), .slice A L c] W fun e w' => ∃ D cD, e = .returned (.tuple #[.agg (rqA op k off n (.slice D l cD)), .bool true]) ∧ SlRead w' D (ints .u8 ys) ∧ Below W.heap.size W w'
  serve : ∀ W, DsS W S B 2000 1000 V es → ∀ Ar m cr, SlRead W Ar (ints .u8 (rqB op k off n ys)) → 45 + ys.length = m → m ≤ cr → Calls Tryd.prog 26 #[.pointer (some ⟨S, 0, none⟩), .slice Ar m cr] W fun r w' => ∃ Bq cb, r = .returned (.slice Bq (9 + ld) cb) ∧ SlRead w' Bq (ints .u8 (rsB code nres ds)) ∧ 9 + ld ≤ cb ∧ (∃ V' es', IP es' ∧ DsS w' S B 2000 1000 V' es') ∧ Turn (dsG S V) W w'
  answer : ∀ W D cD, ErrsAt E W → UpH W g ph at' 0 0 → SlRead W D (ints .u8 ds) → Calls Tryd.prog 14 #[.pointer (some ⟨g, 0, none⟩), .int .i64 (L : Int), .agg (rsA code nres (.slice D ld cD))] W fun e w' => e = .returned (.bool false) ∧ UpH w' g p q 0 0 ∧ Turn (· = g) W w'
def NextM (k : Nat → BitVec 8) (L : Nat) (zs : List (BitVec 8)) (w4 : Int) (p q : Int) (pot : Nat) (IP : List Ds → Prop) : Prop := ∀ es', IP es' → ∃ n2, n2 < pot ∧ MI k L zs w4 p q es' n2
def OkM (k : Nat → BitVec 8) (L : Nat) (A : Option Addr) (c : Nat) (zs : List (BitVec 8)) (w4 : Int) (E : Nat → Addr) (g S B : Nat) (V : Value) (es : List Ds) (ph at' : Int) (pot : Nat) : Prop := ∃ p q IP op off n ys l code nres ds ld, StepU k L A c zs E g S B V es ph at' p q IP op off n ys l code nres ds ld ∧ NextM k L zs w4 p q pot IP
theorem GoS.lt_F {W : World} {S B : Nat} {q l : Int} {V : Value} {es : List Ds} (h : DsS W S B q l V es) : ∀ k, dsG S V k → k < W.heap.size := fun k hk => (h.lt (by rcases hk with h1 | h1; exact .inl h1; exact .inr (.inl h1))).2
/-- what lies in a response's block is none of the store's -/
theorem DsS.resp {W W' : World} {S B : Nat} {q l : Int} {V : Value} {es : List Ds} (h : DsS W S B q l V es) {g : Nat} {cs : Array Value} (hg : W.heap[g]? = some (.cells cs 47 (0, 0))) (ht : Turn (· = g) W W') : DsS W' S B q l V es :=
  h.turn ht (fun k hk e => h.not hg (by decide) (by decide) (by decide) (by rw [← show k = g from e]; exact hk))
theorem cvt_i64u (z : Int) (w : World) : (convert 3 38 (.int .i64 z)).run Tryd.prog w = .ok (.int .u32 (IntKind.u32.wrap z)) w := by
  have h1 := Tryd.underlying3
  have h2 := Tryd.underlying38
  simp [convert, run_underlying h1, run_underlying h2, Conv.intToInt]
theorem cvtU (n : Int) (h : 0 ≤ n ∧ n < 4294967296) (w : World) : (convert 3 38 (.int .i64 n)).run Tryd.prog w = .ok (.int .u32 n) w := by
  have := cvt_i64u n w
  rwa [show IntKind.u32.wrap n = n by simp [IntKind.wrap, IntKind.signed, IntKind.bits]; omega] at this
theorem fill_at (j L : Nat) (h : j ≤ L) : fillN (j : Int) (L : Int) = some (if j = L then 3 else 2, (j : Int)) := by
  unfold fillN
  rw [if_neg (by omega)]
  by_cases h1 : j = L
  · rw [if_pos (by omega), if_pos h1]
  · rw [if_neg (by omega), if_neg h1]
theorem ask_part (k : Nat → BitVec 8) (L : Nat) (A : Option Addr) (c : Nat) (zs : List (BitVec 8)) (g : Nat) (hz : zs.length = L) (hL : L ≤ 600) (hcL : L ≤ c) (a m : Nat) (haL : a < L) (hm : m = min (L - a) 200) (W : World) (hU : UpH W g 2 (a : Int) 0 0) (hA : SlRead W A (ints .u8 (bys zs))) :
    Calls Tryd.prog 9 #[.pointer (some ⟨g, 0, none⟩), .agg (arr8 32 k), .slice A L c] W fun e w' => ∃ D cD, e = .returned (.tuple #[.agg (rqA 2 k (a : Int) 0 (.slice D m cD)), .bool true]) ∧ SlRead w' D (ints .u8 (bys ((zs.drop a).take m))) ∧ Below W.heap.size W w' := by
  have hzl : (bys zs).length = L := by rw [bys_length]; exact hz
  have hyl : (bys ((zs.drop a).take m)).length = m := by rw [bys_length, List.length_take, List.length_drop, hz]; omega
  have hye : ((bys zs).drop a).take m = bys ((zs.drop a).take m) := by simp [bys, List.map_take, List.map_drop]
  refine (ask_2 W g (a : Int) 0 0 hU k A L c (bys ((zs.drop a).take m)) rfl (by omega) (fun W2 hb2 => ?_)).mono ?_
  · refine (part_yes A (bys zs) L c a hzl.symm (by omega) hcL (by omega) W2 (hA.below hb2)).mono ?_
    rintro r w' ⟨v, rfl, hown, hb⟩
    rw [← hm, hye] at hown
    obtain ⟨Av, cv, rfl, _, _, hblk⟩ := own_slice hown
    exact ⟨Av, m, cv, rfl, hyl.symm, own_read hown, fun x hx => (hblk x hx).1, hb⟩
  · rintro r w' ⟨D, l, cD, rfl, hl, hD, hb⟩
    rw [hyl] at hl
    subst hl
    exact ⟨D, cD, rfl, hD, hb⟩
theorem over_bys (ws ys : List (BitVec 8)) (a : Nat) : overD (bys ws) a (bys ys) = bys (ws.take a ++ ys ++ ws.drop (a + ys.length)) := by
  simp [overD, bys, List.map_take, List.map_drop]
theorem over_good {α : Type} (l : List α) (j a m : Nat) (haj : a ≤ j) : (l.take j).take a ++ (l.drop a).take m ++ (l.take j).drop (a + m) = l.take (max j (a + m)) := by
  rw [List.take_take, Nat.min_eq_left haj, ← List.take_add]
  rcases Nat.le_total j (a + m) with h | h
  · rw [Nat.max_eq_right h, List.drop_of_length_le (by rw [List.length_take]; omega), List.append_nil]
  · rw [Nat.max_eq_left h, List.drop_take, ← List.take_add]
    congr 1
    omega
section
variable (k : Nat → BitVec 8) (L : Nat) (A : Option Addr) (c : Nat) (zs : List (BitVec 8)) (w4 : Int) (E : Nat → Addr) (g S B : Nat) (V : Value)
theorem m_z0 (t : Int) : OkM k L A c zs w4 E g S B V [] 0 t 6 := by
  refine ⟨1, t, (fun es : List Ds => es = []), 5, 0, 0, [], 0, 14, 0, [], 0, ⟨rfl, by omega, rfl, by omega, (fun _ h => nomatch h), by omega, by omega, ?_, ?_, ?_⟩, ?_⟩
  · exact fun W hU hA => (ask_0 W hU k A L c rfl rfl).mono fun e w' ⟨h1, h2⟩ => ⟨none, 0, h1, SlRead.nil_, h2⟩
  · exact fun W hS Ar mA cr hr hmA hmc => by
      refine (dserve_stat14 S Ar k 0 0 [] mA 0 cr  (F := dsG S V) (PM := fun W' => ∃ V' es', (fun es : List Ds => es = []) es' ∧ DsS W' S B 2000 1000 V' es') hr hmA rfl hmc (fun _ h => nomatch h) (by omega) (by omega) (by omega) (fun V1 V2 ⟨v, s, hi, hp⟩ hb => ⟨v, s, hi, hp.below hb⟩) (fun V1 V2 gg cs ⟨v, s, hi, hp⟩ hg _ ht => ⟨v, s, hi, hp.resp hg ht⟩) (GoS.lt_F hS) (fun V1 D cD hb hD hDn hcD => ?_)).mono (fun e w' hh => hh)
      have h1 := hS.below hb
      exact (dstat_none h1 (by simp) k rfl).mono fun r w2 ⟨a1, b1, d1⟩ => ⟨a1, ⟨V, _, rfl, b1⟩, d1⟩
  · intro W D cD hE hU hD
    refine answer_yes E W hE hU (by omega) 14 0 (.slice D 0 cD) (L : Int) 1 t (fun W2 hb2 hU2 => ?_)
    exact after0_u E W2 (hE.below hb2) hU2 14 0 (.slice D 0 cD) (L : Int) (by omega) false (fun h => absurd h (by decide)) _ rfl
  · rintro es' rfl; exact ⟨_, by omega, .z1 t⟩
theorem m_z1 (hL : 1 ≤ L ∧ L ≤ 400) (t : Int) : OkM k L A c zs w4 E g S B V [] 1 t 5 := by
  refine ⟨2, 0, (fun es : List Ds => es = [⟨k, (L : Int), .slice none 0 0, [], false, 0⟩]), 1, 0, (L : Int), [], 0, 0, 0, [], 0, ⟨rfl, by omega, rfl, by omega, (fun _ h => nomatch h), by omega, by omega, ?_, ?_, ?_⟩, ?_⟩
  · exact fun W hU hA => (ask_1 W hU k A L c rfl rfl (by omega)).mono fun e w' ⟨h1, h2⟩ => ⟨none, 0, h1, SlRead.nil_, h2⟩
  · exact fun W hS Ar mA cr hr hmA hmc => by
      refine (dserve_open0 S Ar k 0 (L : Int) [] mA 0 cr  (F := dsG S V) (PM := fun W' => ∃ V' es', (fun es : List Ds => es = [⟨k, (L : Int), .slice none 0 0, [], false, 0⟩]) es' ∧ DsS W' S B 2000 1000 V' es') hr hmA rfl hmc (fun _ h => nomatch h) (by omega) (by omega) (by omega) (fun V1 V2 ⟨v, s, hi, hp⟩ hb => ⟨v, s, hi, hp.below hb⟩) (fun V1 V2 gg cs ⟨v, s, hi, hp⟩ hg _ ht => ⟨v, s, hi, hp.resp hg ht⟩) (GoS.lt_F hS) (fun V1 D cD hb hD hDn hcD => ?_)).mono (fun e w' hh => hh)
      have h1 := hS.below hb
      exact (dopen_ok h1 (by simp) ⟨by simp, fun i e h => by simp at h⟩ k (L : Int) (by omega) (by omega) rfl (by omega) (by omega) (by simp [sumD]; omega)).mono fun e w2 ⟨a, V2, b, d⟩ => ⟨a, ⟨V2, _, rfl, b⟩, d⟩
  · intro W D cD hE hU hD
    refine answer_yes E W hE hU (by omega) 0 0 (.slice D 0 cD) (L : Int) 2 0 (fun W2 hb2 hU2 => ?_)
    exact after_u E W2 (hE.below hb2) hU2 (by omega) 0 0 (.slice D 0 cD) (L : Int) (by omega) _ rfl
  · rintro es' rfl
    have he : EnM k L ⟨k, (L : Int), .slice none 0 0, [], false, 0⟩ [] false := ⟨rfl, rfl, rfl, by simp, rfl, fun h => by cases h⟩
    exact ⟨_, by omega, .e2 0 _ [] 0 he (.inr ⟨rfl, by simp⟩) (Nat.le_refl _) (by omega)⟩
theorem m_z2 (hz : zs.length = L) (hL : 1 ≤ L ∧ L ≤ 400) (hcL : L ≤ c) (a : Nat) (haL : a < L) : OkM k L A c zs w4 E g S B V [] 2 (a : Int) 6 := by
  obtain ⟨m, hm⟩ : ∃ m, m = min (L - a) 200 := ⟨_, rfl⟩
  have hm1 : 1 ≤ m ∧ m ≤ 200 ∧ a + m ≤ L := by omega
  have hyl : (bys ((zs.drop a).take m)).length = m := by rw [bys_length, List.length_take, List.length_drop, hz]; omega
  refine ⟨1, (a : Int), (fun es : List Ds => es = []), 2, (a : Int), 0, (bys ((zs.drop a).take m)), m, 14, 0, [], 0, ⟨hyl, by omega, rfl, by omega, (fun _ h => nomatch h), by omega, by omega, ?_, ?_, ?_⟩, ?_⟩
  · exact fun W hU hA => ask_part k L A c zs g hz (by omega) hcL a m haL hm W hU hA
  · exact fun W hS Ar mA cr hr hmA hmc => by
      refine (dserve_put14 S Ar k (a : Int) 0 (bys ((zs.drop a).take m)) mA m cr  (F := dsG S V) (PM := fun W' => ∃ V' es', (fun es : List Ds => es = []) es' ∧ DsS W' S B 2000 1000 V' es') hr hmA hyl hmc (bys_bytsU _) (by omega) (by omega) (by omega) (fun V1 V2 ⟨v, s, hi, hp⟩ hb => ⟨v, s, hi, hp.below hb⟩) (fun V1 V2 gg cs ⟨v, s, hi, hp⟩ hg _ ht => ⟨v, s, hi, hp.resp hg ht⟩) (GoS.lt_F hS) (fun V1 D cD hb hD hDn hcD => ?_)).mono (fun e w' hh => hh)
      have h1 := hS.below hb
      exact (dput_none h1 (by simp) k rfl (a : Int) D m cD).mono fun r w2 ⟨a1, b1, d1⟩ => ⟨a1, ⟨V, _, rfl, b1⟩, d1⟩
  · intro W D cD hE hU hD
    refine answer_yes E W hE hU (by omega) 14 0 (.slice D 0 cD) (L : Int) 1 (a : Int) (fun W2 hb2 hU2 => ?_)
    exact after_u E W2 (hE.below hb2) hU2 (by omega) 14 0 (.slice D 0 cD) (L : Int) (by omega) _ rfl
  · rintro es' rfl; exact ⟨_, by omega, .z1 _⟩
theorem m_z3 (t : Int) : OkM k L A c zs w4 E g S B V [] 3 t 6 := by
  refine ⟨1, t, (fun es : List Ds => es = []), 3, 0, 0, [], 0, 14, 0, [], 0, ⟨rfl, by omega, rfl, by omega, (fun _ h => nomatch h), by omega, by omega, ?_, ?_, ?_⟩, ?_⟩
  · exact fun W hU hA => (ask_3 W hU k A L c rfl rfl).mono fun e w' ⟨h1, h2⟩ => ⟨none, 0, h1, SlRead.nil_, h2⟩
  · exact fun W hS Ar mA cr hr hmA hmc => by
      refine (dserve_commit14 S Ar k 0 0 [] mA 0 cr  (F := dsG S V) (PM := fun W' => ∃ V' es', (fun es : List Ds => es = []) es' ∧ DsS W' S B 2000 1000 V' es') hr hmA rfl hmc (fun _ h => nomatch h) (by omega) (by omega) (by omega) (fun V1 V2 ⟨v, s, hi, hp⟩ hb => ⟨v, s, hi, hp.below hb⟩) (fun V1 V2 gg cs ⟨v, s, hi, hp⟩ hg _ ht => ⟨v, s, hi, hp.resp hg ht⟩) (GoS.lt_F hS) (fun V1 D cD hb hD hDn hcD => ?_)).mono (fun e w' hh => hh)
      have h1 := hS.below hb
      exact (dcommit_none h1 (by simp) k rfl).mono fun r w2 ⟨a1, b1, d1⟩ => ⟨a1, ⟨V, _, rfl, b1⟩, d1⟩
  · intro W D cD hE hU hD
    refine answer_yes E W hE hU (by omega) 14 0 (.slice D 0 cD) (L : Int) 1 t (fun W2 hb2 hU2 => ?_)
    exact after_u E W2 (hE.below hb2) hU2 (by omega) 14 0 (.slice D 0 cD) (L : Int) (by omega) _ rfl
  · rintro es' rfl; exact ⟨_, by omega, .z1 t⟩
theorem m_z4 (t : Int) : OkM k L A c zs w4 E g S B V [] 4 t 6 := by
  refine ⟨1, t, (fun es : List Ds => es = []), 6, 0, 0, [], 0, 14, 0, [], 0, ⟨rfl, by omega, rfl, by omega, (fun _ h => nomatch h), by omega, by omega, ?_, ?_, ?_⟩, ?_⟩
  · exact fun W hU hA => (ask_4 W hU k A L c rfl rfl).mono fun e w' ⟨h1, h2⟩ => ⟨none, 0, h1, SlRead.nil_, h2⟩
  · exact fun W hS Ar mA cr hr hmA hmc => by
      refine (dserve_delete14 S Ar k 0 0 [] mA 0 cr  (F := dsG S V) (PM := fun W' => ∃ V' es', (fun es : List Ds => es = []) es' ∧ DsS W' S B 2000 1000 V' es') hr hmA rfl hmc (fun _ h => nomatch h) (by omega) (by omega) (by omega) (fun V1 V2 ⟨v, s, hi, hp⟩ hb => ⟨v, s, hi, hp.below hb⟩) (fun V1 V2 gg cs ⟨v, s, hi, hp⟩ hg _ ht => ⟨v, s, hi, hp.resp hg ht⟩) (GoS.lt_F hS) (fun V1 D cD hb hD hDn hcD => ?_)).mono (fun e w' hh => hh)
      have h1 := hS.below hb
      exact (ddelete_none h1 (by simp) k rfl).mono fun r w2 ⟨a1, b1, d1⟩ => ⟨a1, ⟨V, _, rfl, b1⟩, d1⟩
  · intro W D cD hE hU hD
    refine answer_yes E W hE hU (by omega) 14 0 (.slice D 0 cD) (L : Int) 1 t (fun W2 hb2 hU2 => ?_)
    exact after_u E W2 (hE.below hb2) hU2 (by omega) 14 0 (.slice D 0 cD) (L : Int) (by omega) _ rfl
  · rintro es' rfl; exact ⟨_, by omega, .z1 t⟩
theorem m_e0 (hL : 1 ≤ L ∧ L ≤ 400) (t : Int) (e : Ds) (ws : List (BitVec 8)) (b : Nat) (he : EnM k L e ws false) (hg : Gd zs ws b) : OkM k L A c zs w4 E g S B V [e] 0 t (4 + b) := by
  have hj := he.2.2.2.1
  refine ⟨if ws.length = L then 3 else 2, (ws.length : Int), (fun es : List Ds => es = [e.used]), 5, 0, 0, [], 0, 0, (ws.length : Int), [0], 1, ⟨rfl, by omega, rfl, by omega, (fun x hx => by rw [List.mem_singleton.1 hx]; omega), by omega, by omega, ?_, ?_, ?_⟩, ?_⟩
  · exact fun W hU hA => (ask_0 W hU k A L c rfl rfl).mono fun e w' ⟨h1, h2⟩ => ⟨none, 0, h1, SlRead.nil_, h2⟩
  · exact fun W hS Ar mA cr hr hmA hmc => by
      refine (dserve_statF S Ar k 0 0 [] mA 0 cr (ws.length : Int) (cvtU (ws.length : Int) (by omega)) (F := dsG S V) (PM := fun W' => ∃ V' es', (fun es : List Ds => es = [e.used]) es' ∧ DsS W' S B 2000 1000 V' es') hr hmA rfl hmc (fun _ h => nomatch h) (by omega) (by omega) (by omega) (fun V1 V2 ⟨v, s, hi, hp⟩ hb => ⟨v, s, hi, hp.below hb⟩) (fun V1 V2 gg cs ⟨v, s, hi, hp⟩ hg _ ht => ⟨v, s, hi, hp.resp hg ht⟩) (GoS.lt_F hS) (fun V1 D cD hb hD hDn hcD => ?_)).mono (fun e w' hh => hh)
      have h1 := hS.below hb
      refine (dstat_some h1 (by simp) k he.is rfl).mono fun r w2 ⟨a1, b1, d1⟩ => ⟨?_, ⟨V, _, rfl, b1⟩, d1⟩
      rw [a1, he.len, he.2.2.2.2.1]
  · intro W D cD hE hU hD
    obtain ⟨xb, xo, rfl, _, hc⟩ := hD (by simp [ints])
    have hc0 : W.cell? ⟨xb, xo, none⟩ = some (.int .u8 0) := by have := hc 0 (.int .u8 0) (by simp [ints]); simpa using this
    refine answer_yes E W hE hU (by omega) 0 (ws.length : Int) _ (L : Int) (if ws.length = L then 3 else 2) (ws.length : Int) (fun W2 hb2 hU2 => ?_)
    refine after0_u E W2 (hE.below hb2) hU2 0 (ws.length : Int) _ (L : Int) (by omega) false (fun _ => ?_) _ ?_
    · exact DatF.below ⟨xb, xo, cD, rfl, hc0⟩ hb2
    · unfold nStat
      rw [if_pos rfl, if_neg Bool.false_ne_true, fill_at ws.length L hj]
  · rintro es' rfl
    by_cases h : ws.length = L
    · rw [if_pos h]
      exact ⟨_, by omega, .e3 _ _ ws b he.used hg h⟩
    · rw [if_neg h]
      exact ⟨_, by omega, .e2 ws.length _ ws b he.used hg (Nat.le_refl _) (by omega)⟩
theorem m_e1 (hL : 1 ≤ L ∧ L ≤ 400) (t : Int) (e : Ds) (ws : List (BitVec 8)) (b : Nat) (he : EnM k L e ws false) (hg : Gd zs ws b) : OkM k L A c zs w4 E g S B V [e] 1 t (5 + b) := by
  refine ⟨0, t, (fun es : List Ds => es = [e.used]), 1, 0, (L : Int), [], 0, 15, 0, [], 0, ⟨rfl, by omega, rfl, by omega, (fun _ h => nomatch h), by omega, by omega, ?_, ?_, ?_⟩, ?_⟩
  · exact fun W hU hA => (ask_1 W hU k A L c rfl rfl (by omega)).mono fun e w' ⟨h1, h2⟩ => ⟨none, 0, h1, SlRead.nil_, h2⟩
  · exact fun W hS Ar mA cr hr hmA hmc => by
      refine (dserve_open15 S Ar k 0 (L : Int) [] mA 0 cr  (F := dsG S V) (PM := fun W' => ∃ V' es', (fun es : List Ds => es = [e.used]) es' ∧ DsS W' S B 2000 1000 V' es') hr hmA rfl hmc (fun _ h => nomatch h) (by omega) (by omega) (by omega) (fun V1 V2 ⟨v, s, hi, hp⟩ hb => ⟨v, s, hi, hp.below hb⟩) (fun V1 V2 gg cs ⟨v, s, hi, hp⟩ hg _ ht => ⟨v, s, hi, hp.resp hg ht⟩) (GoS.lt_F hS) (fun V1 D cD hb hD hDn hcD => ?_)).mono (fun e w' hh => hh)
      have h1 := hS.below hb
      exact (dopen_open h1 (by simp) k (L : Int) (by omega) (by omega) he.is rfl).mono fun r w2 ⟨a1, b1, d1⟩ => ⟨a1, ⟨V, _, rfl, b1⟩, d1⟩
  · intro W D cD hE hU hD
    refine answer_yes E W hE hU (by omega) 15 0 (.slice D 0 cD) (L : Int) 0 t (fun W2 hb2 hU2 => ?_)
    exact after_u E W2 (hE.below hb2) hU2 (by omega) 15 0 (.slice D 0 cD) (L : Int) (by omega) _ rfl
  · rintro es' rfl; exact ⟨_, by omega, .e0 t _ ws b he.used hg⟩
theorem m_e2 (hz : zs.length = L) (hL : 1 ≤ L ∧ L ≤ 400) (hcL : L ≤ c) (a : Nat) (e : Ds) (ws : List (BitVec 8)) (b : Nat) (he : EnM k L e ws false) (hg : Gd zs ws b) (haj : a ≤ ws.length) (haL : a < L) : OkM k L A c zs w4 E g S B V [e] 2 (a : Int) ((L - a + 199) / 200 + 1 + b) := by
  obtain ⟨m, hm⟩ : ∃ m, m = min (L - a) 200 := ⟨_, rfl⟩
  have hm1 : 1 ≤ m ∧ m ≤ 200 ∧ a + m ≤ L := by omega
  have hyl : (bys ((zs.drop a).take m)).length = m := by rw [bys_length, List.length_take, List.length_drop, hz]; omega
  have hj := he.2.2.2.1
  obtain ⟨ws', hws⟩ : ∃ x, x = ws.take a ++ (zs.drop a).take m ++ ws.drop (a + m) := ⟨_, rfl⟩
  have hml : ((zs.drop a).take m).length = m := by rw [List.length_take, List.length_drop, hz]; omega
  have hov : overD e.bs a (bys ((zs.drop a).take m)) = bys ws' := by rw [he.2.2.1, over_bys, hml, ← hws]
  have hwl : ws'.length = max ws.length (a + m) := by rw [hws]; simp only [List.length_append, List.length_take, List.length_drop, hz]; omega
  have hg2 : Gd zs ws' b := by
    rcases hg with h | ⟨h, hgd⟩
    · exact .inl h
    · refine .inr ⟨h, ?_⟩
      rw [hwl, hws]
      have := over_good zs ws.length a m haj
      rwa [← hgd] at this
  have hj2 : ws'.length ≤ L ∧ a < ws'.length := by omega
  refine ⟨if ws'.length = L then 3 else 2, (ws'.length : Int), (fun es : List Ds => ∃ D, es = [⟨e.f, e.n, D, bys ws', false, 0⟩]), 2, (a : Int), 0, (bys ((zs.drop a).take m)), m, 0, (ws'.length : Int), [], 0, ⟨hyl, by omega, rfl, by omega, (fun _ h => nomatch h), by omega, by omega, ?_, ?_, ?_⟩, ?_⟩
  · exact fun W hU hA => ask_part k L A c zs g hz (by omega) hcL a m haL hm W hU hA
  · exact fun W hS Ar mA cr hr hmA hmc => by
      refine (dserve_put S Ar k (a : Int) 0 (bys ((zs.drop a).take m)) mA m cr (ws'.length : Int) (cvtU (ws'.length : Int) (by omega)) (F := dsG S V) (PM := fun W' => ∃ V' es', (fun es : List Ds => ∃ D, es = [⟨e.f, e.n, D, bys ws', false, 0⟩]) es' ∧ DsS W' S B 2000 1000 V' es') hr hmA hyl hmc (bys_bytsU _) (by omega) (by omega) (by omega) (fun V1 V2 ⟨v, s, hi, hp⟩ hb => ⟨v, s, hi, hp.below hb⟩) (fun V1 V2 gg cs ⟨v, s, hi, hp⟩ hg _ ht => ⟨v, s, hi, hp.resp hg ht⟩) (GoS.lt_F hS) (fun V1 D cD hb hD hDn hcD => ?_)).mono (fun e w' hh => hh)
      have h1 := hS.below hb
      have hen := he.2.1
      have hbl := he.len
      refine (dput_ok h1 (by simp) k he.is rfl he.2.2.2.2.1 a D (bys ((zs.drop a).take m)) m cD hyl hD (fun _ x hx y => by have h2 := hDn x hx; have h3 := GoS.lt_F hS _ y; omega) (by omega) (by omega) (by omega) (by omega)).mono ?_
      rintro r w2 ⟨hr2, D', hs2, ht2⟩
      rw [hov, bys_length] at hr2
      rw [hov] at hs2
      exact ⟨hr2, ⟨V, _, ⟨D', rfl⟩, hs2⟩, ht2⟩
  · intro W D cD hE hU hD
    refine answer_yes E W hE hU (by omega) 0 (ws'.length : Int) (.slice D 0 cD) (L : Int) (if ws'.length = L then 3 else 2) (ws'.length : Int) (fun W2 hb2 hU2 => ?_)
    refine after_u E W2 (hE.below hb2) hU2 (by omega) 0 (ws'.length : Int) (.slice D 0 cD) (L : Int) (by omega) _ ?_
    have e1 : nAfter 2 (a : Int) (L : Int) 0 (ws'.length : Int) = fillN (ws'.length : Int) (L : Int) := rfl
    rw [e1, fill_at ws'.length L hj2.1]
  · rintro es' ⟨D, rfl⟩
    have he2 : EnM k L ⟨e.f, e.n, D, bys ws', false, 0⟩ ws' false := ⟨he.1, he.2.1, rfl, hj2.1, rfl, fun h => by cases h⟩
    by_cases h : ws'.length = L
    · rw [if_pos h]
      exact ⟨_, by omega, .e3 _ _ ws' b he2 hg2 h⟩
    · rw [if_neg h]
      exact ⟨_, by omega, .e2 ws'.length _ ws' b he2 hg2 (Nat.le_refl _) (by omega)⟩
theorem m_e3 (hL : 1 ≤ L ∧ L ≤ 400) (t : Int) (e : Ds) (ws : List (BitVec 8)) (b : Nat) (he : EnM k L e ws false) (hl : ws.length = L) (hd : (idk (shaOf ws) == idk k) = true) : OkM k L A c zs w4 E g S B V [e] 3 t (1 + b) := by
  refine ⟨5, t, (fun es : List Ds => es = [⟨e.f, e.n, e.D, e.bs, true, 0⟩]), 3, 0, 0, [], 0, 0, 0, [], 0, ⟨rfl, by omega, rfl, by omega, (fun _ h => nomatch h), by omega, by omega, ?_, ?_, ?_⟩, ?_⟩
  · exact fun W hU hA => (ask_3 W hU k A L c rfl rfl).mono fun e w' ⟨h1, h2⟩ => ⟨none, 0, h1, SlRead.nil_, h2⟩
  · exact fun W hS Ar mA cr hr hmA hmc => by
      refine (dserve_commit S Ar k 0 0 [] mA 0 cr  (F := dsG S V) (PM := fun W' => ∃ V' es', (fun es : List Ds => es = [⟨e.f, e.n, e.D, e.bs, true, 0⟩]) es' ∧ DsS W' S B 2000 1000 V' es') hr hmA rfl hmc (fun _ h => nomatch h) (by omega) (by omega) (by omega) (fun V1 V2 ⟨v, s, hi, hp⟩ hb => ⟨v, s, hi, hp.below hb⟩) (fun V1 V2 gg cs ⟨v, s, hi, hp⟩ hg _ ht => ⟨v, s, hi, hp.resp hg ht⟩) (GoS.lt_F hS) (fun V1 D cD hb hD hDn hcD => ?_)).mono (fun e w' hh => hh)
      have h1 := hS.below hb
      exact (dcommit_ok h1 (by simp) k he.is rfl he.2.2.2.2.1 ws he.2.2.1 (by rw [he.len, hl, he.2.1]) (by rw [he.len]; omega) hd).mono fun r w2 ⟨a1, b1, d1⟩ => ⟨a1, ⟨V, _, rfl, b1⟩, d1⟩
  · intro W D cD hE hU hD
    refine answer_yes E W hE hU (by omega) 0 0 (.slice D 0 cD) (L : Int) 5 t (fun W2 hb2 hU2 => ?_)
    exact after_u E W2 (hE.below hb2) hU2 (by omega) 0 0 (.slice D 0 cD) (L : Int) (by omega) _ rfl
  · rintro es' rfl; exact ⟨0, by omega, .g5 t _ ws ⟨he.1, he.2.1, he.2.2.1, he.2.2.2.1, rfl, fun _ => hl⟩⟩
theorem m_e3n (hL : 1 ≤ L ∧ L ≤ 400) (t : Int) (e : Ds) (ws : List (BitVec 8)) (b : Nat) (he : EnM k L e ws false) (hl : ws.length = L) (hb : b = 8) (hd : (idk (shaOf ws) == idk k) = false) : OkM k L A c zs w4 E g S B V [e] 3 t (1 + b) := by
  refine ⟨4, t, (fun es : List Ds => es = [e.used]), 3, 0, 0, [], 0, 16, 0, [], 0, ⟨rfl, by omega, rfl, by omega, (fun _ h => nomatch h), by omega, by omega, ?_, ?_, ?_⟩, ?_⟩
  · exact fun W hU hA => (ask_3 W hU k A L c rfl rfl).mono fun e w' ⟨h1, h2⟩ => ⟨none, 0, h1, SlRead.nil_, h2⟩
  · exact fun W hS Ar mA cr hr hmA hmc => by
      refine (dserve_commit16 S Ar k 0 0 [] mA 0 cr  (F := dsG S V) (PM := fun W' => ∃ V' es', (fun es : List Ds => es = [e.used]) es' ∧ DsS W' S B 2000 1000 V' es') hr hmA rfl hmc (fun _ h => nomatch h) (by omega) (by omega) (by omega) (fun V1 V2 ⟨v, s, hi, hp⟩ hb => ⟨v, s, hi, hp.below hb⟩) (fun V1 V2 gg cs ⟨v, s, hi, hp⟩ hg _ ht => ⟨v, s, hi, hp.resp hg ht⟩) (GoS.lt_F hS) (fun V1 D cD hb hD hDn hcD => ?_)).mono (fun e w' hh => hh)
      have h1 := hS.below hb
      exact (dcommit_digest h1 (by simp) k he.is rfl he.2.2.2.2.1 ws he.2.2.1 (by rw [he.len, hl, he.2.1]) (by rw [he.len]; omega) hd).mono fun r w2 ⟨a1, b1, d1⟩ => ⟨a1, ⟨V, _, rfl, b1⟩, d1⟩
  · intro W D cD hE hU hD
    refine answer_yes E W hE hU (by omega) 16 0 (.slice D 0 cD) (L : Int) 4 t (fun W2 hb2 hU2 => ?_)
    exact after_u E W2 (hE.below hb2) hU2 (by omega) 16 0 (.slice D 0 cD) (L : Int) (by omega) _ rfl
  · rintro es' rfl; exact ⟨6, by omega, .e4 t _ ws he.used⟩
theorem m_e4 (t : Int) (e : Ds) (ws : List (BitVec 8)) (he : EnM k L e ws false) : OkM k L A c zs w4 E g S B V [e] 4 t 6 := by
  refine ⟨1, t, (fun es : List Ds => es = []), 6, 0, 0, [], 0, 0, 0, [], 0, ⟨rfl, by omega, rfl, by omega, (fun _ h => nomatch h), by omega, by omega, ?_, ?_, ?_⟩, ?_⟩
  · exact fun W hU hA => (ask_4 W hU k A L c rfl rfl).mono fun e w' ⟨h1, h2⟩ => ⟨none, 0, h1, SlRead.nil_, h2⟩
  · exact fun W hS Ar mA cr hr hmA hmc => by
      refine (dserve_delete0 S Ar k 0 0 [] mA 0 cr  (F := dsG S V) (PM := fun W' => ∃ V' es', (fun es : List Ds => es = []) es' ∧ DsS W' S B 2000 1000 V' es') hr hmA rfl hmc (fun _ h => nomatch h) (by omega) (by omega) (by omega) (fun V1 V2 ⟨v, s, hi, hp⟩ hb => ⟨v, s, hi, hp.below hb⟩) (fun V1 V2 gg cs ⟨v, s, hi, hp⟩ hg _ ht => ⟨v, s, hi, hp.resp hg ht⟩) (GoS.lt_F hS) (fun V1 D cD hb hD hDn hcD => ?_)).mono (fun e w' hh => hh)
      have h1 := hS.below hb
      refine (ddelete h1 (by simp) k he.is).mono fun r w2 ⟨a1, V2, b1, d1⟩ => ⟨a1, ⟨V2, [], rfl, ?_⟩, d1⟩
      exact b1
  · intro W D cD hE hU hD
    refine answer_yes E W hE hU (by omega) 0 0 (.slice D 0 cD) (L : Int) 1 t (fun W2 hb2 hU2 => ?_)
    exact after_u E W2 (hE.below hb2) hU2 (by omega) 0 0 (.slice D 0 cD) (L : Int) (by omega) _ rfl
  · rintro es' rfl; exact ⟨_, by omega, .z1 t⟩
theorem m_f0 (hL : 1 ≤ L ∧ L ≤ 400) (t : Int) (e : Ds) (ws : List (BitVec 8)) (he : EnM k L e ws true) : OkM k L A c zs w4 E g S B V [e] 0 t 1 := by
  have hj := he.2.2.2.1
  refine ⟨5, t, (fun es : List Ds => es = [e.used]), 5, 0, 0, [], 0, 0, (ws.length : Int), [1], 1, ⟨rfl, by omega, rfl, by omega, (fun x hx => by rw [List.mem_singleton.1 hx]; omega), by omega, by omega, ?_, ?_, ?_⟩, ?_⟩
  · exact fun W hU hA => (ask_0 W hU k A L c rfl rfl).mono fun e w' ⟨h1, h2⟩ => ⟨none, 0, h1, SlRead.nil_, h2⟩
  · exact fun W hS Ar mA cr hr hmA hmc => by
      refine (dserve_statT S Ar k 0 0 [] mA 0 cr (ws.length : Int) (cvtU (ws.length : Int) (by omega)) (F := dsG S V) (PM := fun W' => ∃ V' es', (fun es : List Ds => es = [e.used]) es' ∧ DsS W' S B 2000 1000 V' es') hr hmA rfl hmc (fun _ h => nomatch h) (by omega) (by omega) (by omega) (fun V1 V2 ⟨v, s, hi, hp⟩ hb => ⟨v, s, hi, hp.below hb⟩) (fun V1 V2 gg cs ⟨v, s, hi, hp⟩ hg _ ht => ⟨v, s, hi, hp.resp hg ht⟩) (GoS.lt_F hS) (fun V1 D cD hb hD hDn hcD => ?_)).mono (fun e w' hh => hh)
      have h1 := hS.below hb
      refine (dstat_some h1 (by simp) k he.is rfl).mono fun r w2 ⟨a1, b1, d1⟩ => ⟨?_, ⟨V, _, rfl, b1⟩, d1⟩
      rw [a1, he.len, he.2.2.2.2.1]
  · intro W D cD hE hU hD
    obtain ⟨xb, xo, rfl, _, hc⟩ := hD (by simp [ints])
    have hc0 : W.cell? ⟨xb, xo, none⟩ = some (.int .u8 1) := by have := hc 0 (.int .u8 1) (by simp [ints]); simpa using this
    refine answer_yes E W hE hU (by omega) 0 (ws.length : Int) _ (L : Int) 5 t (fun W2 hb2 hU2 => ?_)
    exact after0_u E W2 (hE.below hb2) hU2 0 (ws.length : Int) _ (L : Int) (by omega) true (fun _ => DatF.below ⟨xb, xo, cD, rfl, hc0⟩ hb2) _ rfl
  · rintro es' rfl; exact ⟨0, by omega, .g5 t _ ws he.used⟩
theorem m_f1 (hL : 1 ≤ L ∧ L ≤ 400) (t : Int) (e : Ds) (ws : List (BitVec 8)) (he : EnM k L e ws true) : OkM k L A c zs w4 E g S B V [e] 1 t 2 := by
  refine ⟨0, t, (fun es : List Ds => es = [e.used]), 1, 0, (L : Int), [], 0, 15, 0, [], 0, ⟨rfl, by omega, rfl, by omega, (fun _ h => nomatch h), by omega, by omega, ?_, ?_, ?_⟩, ?_⟩
  · exact fun W hU hA => (ask_1 W hU k A L c rfl rfl (by omega)).mono fun e w' ⟨h1, h2⟩ => ⟨none, 0, h1, SlRead.nil_, h2⟩
  · exact fun W hS Ar mA cr hr hmA hmc => by
      refine (dserve_open15 S Ar k 0 (L : Int) [] mA 0 cr  (F := dsG S V) (PM := fun W' => ∃ V' es', (fun es : List Ds => es = [e.used]) es' ∧ DsS W' S B 2000 1000 V' es') hr hmA rfl hmc (fun _ h => nomatch h) (by omega) (by omega) (by omega) (fun V1 V2 ⟨v, s, hi, hp⟩ hb => ⟨v, s, hi, hp.below hb⟩) (fun V1 V2 gg cs ⟨v, s, hi, hp⟩ hg _ ht => ⟨v, s, hi, hp.resp hg ht⟩) (GoS.lt_F hS) (fun V1 D cD hb hD hDn hcD => ?_)).mono (fun e w' hh => hh)
      have h1 := hS.below hb
      exact (dopen_open h1 (by simp) k (L : Int) (by omega) (by omega) he.is rfl).mono fun r w2 ⟨a1, b1, d1⟩ => ⟨a1, ⟨V, _, rfl, b1⟩, d1⟩
  · intro W D cD hE hU hD
    refine answer_yes E W hE hU (by omega) 15 0 (.slice D 0 cD) (L : Int) 0 t (fun W2 hb2 hU2 => ?_)
    exact after_u E W2 (hE.below hb2) hU2 (by omega) 15 0 (.slice D 0 cD) (L : Int) (by omega) _ rfl
  · rintro es' rfl; exact ⟨_, by omega, .f0 t _ ws he.used⟩
theorem m_f2 (hz : zs.length = L) (hL : 1 ≤ L ∧ L ≤ 400) (hcL : L ≤ c) (a : Nat) (e : Ds) (ws : List (BitVec 8)) (he : EnM k L e ws true) (haL : a < L) : OkM k L A c zs w4 E g S B V [e] 2 (a : Int) 2 := by
  obtain ⟨m, hm⟩ : ∃ m, m = min (L - a) 200 := ⟨_, rfl⟩
  have hm1 : 1 ≤ m ∧ m ≤ 200 ∧ a + m ≤ L := by omega
  have hyl : (bys ((zs.drop a).take m)).length = m := by rw [bys_length, List.length_take, List.length_drop, hz]; omega
  refine ⟨0, (a : Int), (fun es : List Ds => es = [e.used]), 2, (a : Int), 0, (bys ((zs.drop a).take m)), m, 17, 0, [], 0, ⟨hyl, by omega, rfl, by omega, (fun _ h => nomatch h), by omega, by omega, ?_, ?_, ?_⟩, ?_⟩
  · exact fun W hU hA => ask_part k L A c zs g hz (by omega) hcL a m haL hm W hU hA
  · exact fun W hS Ar mA cr hr hmA hmc => by
      refine (dserve_put17 S Ar k (a : Int) 0 (bys ((zs.drop a).take m)) mA m cr  (F := dsG S V) (PM := fun W' => ∃ V' es', (fun es : List Ds => es = [e.used]) es' ∧ DsS W' S B 2000 1000 V' es') hr hmA hyl hmc (bys_bytsU _) (by omega) (by omega) (by omega) (fun V1 V2 ⟨v, s, hi, hp⟩ hb => ⟨v, s, hi, hp.below hb⟩) (fun V1 V2 gg cs ⟨v, s, hi, hp⟩ hg _ ht => ⟨v, s, hi, hp.resp hg ht⟩) (GoS.lt_F hS) (fun V1 D cD hb hD hDn hcD => ?_)).mono (fun e w' hh => hh)
      have h1 := hS.below hb
      exact (dput_done h1 (by simp) k he.is rfl he.2.2.2.2.1 (a : Int) D m cD).mono fun r w2 ⟨a1, b1, d1⟩ => ⟨a1, ⟨V, _, rfl, b1⟩, d1⟩
  · intro W D cD hE hU hD
    refine answer_yes E W hE hU (by omega) 17 0 (.slice D 0 cD) (L : Int) 0 (a : Int) (fun W2 hb2 hU2 => ?_)
    exact after_u E W2 (hE.below hb2) hU2 (by omega) 17 0 (.slice D 0 cD) (L : Int) (by omega) _ rfl
  · rintro es' rfl; exact ⟨_, by omega, .f0 _ _ ws he.used⟩
theorem m_f3 (t : Int) (e : Ds) (ws : List (BitVec 8)) (he : EnM k L e ws true) : OkM k L A c zs w4 E g S B V [e] 3 t 1 := by
  refine ⟨5, t, (fun es : List Ds => es = [e.used]), 3, 0, 0, [], 0, 0, 0, [], 0, ⟨rfl, by omega, rfl, by omega, (fun _ h => nomatch h), by omega, by omega, ?_, ?_, ?_⟩, ?_⟩
  · exact fun W hU hA => (ask_3 W hU k A L c rfl rfl).mono fun e w' ⟨h1, h2⟩ => ⟨none, 0, h1, SlRead.nil_, h2⟩
  · exact fun W hS Ar mA cr hr hmA hmc => by
      refine (dserve_commit S Ar k 0 0 [] mA 0 cr  (F := dsG S V) (PM := fun W' => ∃ V' es', (fun es : List Ds => es = [e.used]) es' ∧ DsS W' S B 2000 1000 V' es') hr hmA rfl hmc (fun _ h => nomatch h) (by omega) (by omega) (by omega) (fun V1 V2 ⟨v, s, hi, hp⟩ hb => ⟨v, s, hi, hp.below hb⟩) (fun V1 V2 gg cs ⟨v, s, hi, hp⟩ hg _ ht => ⟨v, s, hi, hp.resp hg ht⟩) (GoS.lt_F hS) (fun V1 D cD hb hD hDn hcD => ?_)).mono (fun e w' hh => hh)
      have h1 := hS.below hb
      exact (dcommit_done h1 (by simp) k he.is rfl he.2.2.2.2.1).mono fun r w2 ⟨a1, b1, d1⟩ => ⟨a1, ⟨V, _, rfl, b1⟩, d1⟩
  · intro W D cD hE hU hD
    refine answer_yes E W hE hU (by omega) 0 0 (.slice D 0 cD) (L : Int) 5 t (fun W2 hb2 hU2 => ?_)
    exact after_u E W2 (hE.below hb2) hU2 (by omega) 0 0 (.slice D 0 cD) (L : Int) (by omega) _ rfl
  · rintro es' rfl; exact ⟨0, by omega, .g5 t _ ws he.used⟩
theorem m_f4 (t : Int) (e : Ds) (ws : List (BitVec 8)) (he : EnM k L e ws true) : OkM k L A c zs w4 E g S B V [e] 4 t 6 := by
  refine ⟨1, t, (fun es : List Ds => es = []), 6, 0, 0, [], 0, 0, 0, [], 0, ⟨rfl, by omega, rfl, by omega, (fun _ h => nomatch h), by omega, by omega, ?_, ?_, ?_⟩, ?_⟩
  · exact fun W hU hA => (ask_4 W hU k A L c rfl rfl).mono fun e w' ⟨h1, h2⟩ => ⟨none, 0, h1, SlRead.nil_, h2⟩
  · exact fun W hS Ar mA cr hr hmA hmc => by
      refine (dserve_delete0 S Ar k 0 0 [] mA 0 cr  (F := dsG S V) (PM := fun W' => ∃ V' es', (fun es : List Ds => es = []) es' ∧ DsS W' S B 2000 1000 V' es') hr hmA rfl hmc (fun _ h => nomatch h) (by omega) (by omega) (by omega) (fun V1 V2 ⟨v, s, hi, hp⟩ hb => ⟨v, s, hi, hp.below hb⟩) (fun V1 V2 gg cs ⟨v, s, hi, hp⟩ hg _ ht => ⟨v, s, hi, hp.resp hg ht⟩) (GoS.lt_F hS) (fun V1 D cD hb hD hDn hcD => ?_)).mono (fun e w' hh => hh)
      have h1 := hS.below hb
      refine (ddelete h1 (by simp) k he.is).mono fun r w2 ⟨a1, V2, b1, d1⟩ => ⟨a1, ⟨V2, [], rfl, ?_⟩, d1⟩
      exact b1
  · intro W D cD hE hU hD
    refine answer_yes E W hE hU (by omega) 0 0 (.slice D 0 cD) (L : Int) 1 t (fun W2 hb2 hU2 => ?_)
    exact after_u E W2 (hE.below hb2) hU2 (by omega) 0 0 (.slice D 0 cD) (L : Int) (by omega) _ rfl
  · rintro es' rfl; exact ⟨_, by omega, .z1 t⟩
theorem m_all (hz : zs.length = L) (hL : 1 ≤ L ∧ L ≤ 400) (hcL : L ≤ c) (hk : k = shaOf zs) {ph at' : Int} {es : List Ds} {pot : Nat} (h : MI k L zs w4 ph at' es pot) (h5 : ph ≠ 5) : OkM k L A c zs w4 E g S B V es ph at' pot := by
  cases h with
  | z0 => exact m_z0 k L A c zs w4 E g S B V at'
  | z1 => exact m_z1 k L A c zs w4 E g S B V hL at'
  | z2 a h => exact m_z2 k L A c zs w4 E g S B V hz hL hcL a h
  | z3 => exact m_z3 k L A c zs w4 E g S B V at'
  | z4 => exact m_z4 k L A c zs w4 E g S B V at'
  | e0 _ e ws b he hg => exact m_e0 k L A c zs w4 E g S B V hL at' e ws b he hg
  | e1 _ e ws b he hg => exact m_e1 k L A c zs w4 E g S B V hL at' e ws b he hg
  | e2 a e ws b he hg haj h => exact m_e2 k L A c zs w4 E g S B V hz hL hcL a e ws b he hg haj h
  | e3 _ e ws b he hg hl =>
    cases hd : (idk (shaOf ws) == idk k) with
    | true => exact m_e3 k L A c zs w4 E g S B V hL at' e ws b he hl hd
    | false =>
      rcases hg with hb | ⟨_, hgd⟩
      · exact m_e3n k L A c zs w4 E g S B V hL at' e ws b he hl hb hd
      · rw [hl, ← hz, List.take_length] at hgd
        rw [hgd, ← hk] at hd
        rw [beq_self_eq_true] at hd
        cases hd
  | e4 _ e ws he => exact m_e4 k L A c zs w4 E g S B V at' e ws he
  | f0 _ e ws he => exact m_f0 k L A c zs w4 E g S B V hL at' e ws he
  | f1 _ e ws he => exact m_f1 k L A c zs w4 E g S B V hL at' e ws he
  | f2 a e ws he h => exact m_f2 k L A c zs w4 E g S B V hz hL hcL a e ws he h
  | f3 _ e ws he => exact m_f3 k L A c zs w4 E g S B V at' e ws he
  | f4 _ e ws he => exact m_f4 k L A c zs w4 E g S B V at' e ws he
  | g5 => exact absurd rfl h5
  | h5 => exact absurd rfl h5
end
def fileU (z : Int) (L : Nat) : List (BitVec 8) := (fileL z L).map UInt8.toBitVec
theorem fileU_len (z : Int) (L : Nat) : (fileU z L).length = L := by simp [fileU, fileL_len]
theorem n8_uU (u : UInt8) : cellB u = .int .u8 (n8 u.toBitVec) := by
  unfold cellB
  rw [n8N]
  rfl
theorem fileU_cells (z : Int) (L : Nat) : bcells (fileL z L) = ints .u8 (bys (fileU z L)) := by
  unfold bcells fileU
  rw [bys_ints, List.map_map]
  exact List.map_congr_left fun u _ => n8_uU u
theorem num_b (x n z : Int) (w : World) (hn : 0 < n ∧ n ≤ 4611686018427387904) (hz : x % n = z) : Calls Tryd.prog 7 #[.int .i64 x, .int .i64 n] w fun e w' => e = .returned (.int .i64 z) ∧ Below w.heap.size w w' := by
  subst hz
  refine (number_any x n w hn).mono ?_
  rintro e w' ⟨rfl, k, rfl⟩
  exact ⟨rfl, Below.drewNr k⟩
section
variable {k : Nat → BitVec 8} {L : Nat} {zs : List (BitVec 8)} {w4 : Int} {ph at' : Int} {es : List Ds} {pot : Nat}
theorem MI.le (h : MI k L zs w4 ph at' es pot) (hL : L ≤ 400) : pot ≤ 14 := by
  cases h with
  | e0 _ _ _ b _ hg => rcases hg with rfl | ⟨rfl, _⟩ <;> omega
  | e1 _ _ _ b _ hg => rcases hg with rfl | ⟨rfl, _⟩ <;> omega
  | e2 a _ _ b _ hg => rcases hg with rfl | ⟨rfl, _⟩ <;> omega
  | e3 _ _ _ b _ hg => rcases hg with rfl | ⟨rfl, _⟩ <;> omega
  | _ => omega
theorem MI.shape (h : MI k L zs w4 ph at' es pot) : (es = [] ∧ (ph = 5 → w4 = 0)) ∨ ∃ e ws d, es = [e] ∧ EnM k L e ws d ∧ (d = false → ph ≠ 5) := by
  cases h with
  | z0 => exact .inl ⟨rfl, fun h => absurd h (by decide)⟩
  | z1 => exact .inl ⟨rfl, fun h => absurd h (by decide)⟩
  | z2 => exact .inl ⟨rfl, fun h => absurd h (by decide)⟩
  | z3 => exact .inl ⟨rfl, fun h => absurd h (by decide)⟩
  | z4 => exact .inl ⟨rfl, fun h => absurd h (by decide)⟩
  | e0 _ e ws b he => exact .inr ⟨e, ws, false, rfl, he, fun _ => by decide⟩
  | e1 _ e ws b he => exact .inr ⟨e, ws, false, rfl, he, fun _ => by decide⟩
  | e2 a e ws b he => exact .inr ⟨e, ws, false, rfl, he, fun _ => by decide⟩
  | e3 _ e ws b he => exact .inr ⟨e, ws, false, rfl, he, fun _ => by decide⟩
  | e4 _ e ws he => exact .inr ⟨e, ws, false, rfl, he, fun _ => by decide⟩
  | f0 _ e ws he => exact .inr ⟨e, ws, true, rfl, he, fun h => by cases h⟩
  | f1 _ e ws he => exact .inr ⟨e, ws, true, rfl, he, fun h => by cases h⟩
  | f2 _ e ws he => exact .inr ⟨e, ws, true, rfl, he, fun h => by cases h⟩
  | f3 _ e ws he => exact .inr ⟨e, ws, true, rfl, he, fun h => by cases h⟩
  | f4 _ e ws he => exact .inr ⟨e, ws, true, rfl, he, fun h => by cases h⟩
  | g5 _ e ws he => exact .inr ⟨e, ws, true, rfl, he, fun h => by cases h⟩
  | h5 _ h => exact .inl ⟨rfl, fun _ => h⟩
theorem MI.del (h : MI k L zs w4 ph at' es pot) (h4 : w4 = 0) : ∃ n, MI k L zs w4 ph at' [] n := by
  cases h with
  | z0 => exact ⟨_, .z0 _⟩
  | z1 => exact ⟨_, .z1 _⟩
  | z2 a h => exact ⟨_, .z2 a h⟩
  | z3 => exact ⟨_, .z3 _⟩
  | z4 => exact ⟨_, .z4 _⟩
  | e0 => exact ⟨_, .z0 _⟩
  | e1 => exact ⟨_, .z1 _⟩
  | e2 a _ _ _ _ _ _ h => exact ⟨_, .z2 a h⟩
  | e3 => exact ⟨_, .z3 _⟩
  | e4 => exact ⟨_, .z4 _⟩
  | f0 => exact ⟨_, .z0 _⟩
  | f1 => exact ⟨_, .z1 _⟩
  | f2 a _ _ _ h => exact ⟨_, .z2 a h⟩
  | f3 => exact ⟨_, .z3 _⟩
  | f4 => exact ⟨_, .z4 _⟩
  | g5 => exact ⟨_, .h5 _ h4⟩
  | h5 => exact ⟨_, .h5 _ h4⟩
theorem MI.full (h : MI k L zs w4 ph at' es pot) (hz : zs.length = L) (h5 : ph ≠ 5) {e' : Ds} (he : EnM k L e' zs false) : ∃ n, MI k L zs w4 ph at' [e'] n := by
  have hg : Gd zs zs 0 := .inr ⟨rfl, by rw [List.take_length]⟩
  cases h with
  | z0 => exact ⟨_, .e0 _ _ _ 0 he hg⟩
  | z1 => exact ⟨_, .e1 _ _ _ 0 he hg⟩
  | z2 a h => exact ⟨_, .e2 a _ _ 0 he hg (by omega) h⟩
  | z3 => exact ⟨_, .e3 _ _ _ 0 he hg hz⟩
  | z4 => exact ⟨_, .e4 _ _ _ he⟩
  | e0 => exact ⟨_, .e0 _ _ _ 0 he hg⟩
  | e1 => exact ⟨_, .e1 _ _ _ 0 he hg⟩
  | e2 a _ _ _ _ _ _ h => exact ⟨_, .e2 a _ _ 0 he hg (by omega) h⟩
  | e3 => exact ⟨_, .e3 _ _ _ 0 he hg hz⟩
  | e4 => exact ⟨_, .e4 _ _ _ he⟩
  | f0 => exact ⟨_, .e0 _ _ _ 0 he hg⟩
  | f1 => exact ⟨_, .e1 _ _ _ 0 he hg⟩
  | f2 a _ _ _ h => exact ⟨_, .e2 a _ _ 0 he hg (by omega) h⟩
  | f3 => exact ⟨_, .e3 _ _ _ 0 he hg hz⟩
  | f4 => exact ⟨_, .e4 _ _ _ he⟩
  | g5 => exact absurd rfl h5
  | h5 => exact absurd rfl h5
theorem MI.done (h : MI k L zs w4 ph at' es pot) {e' : Ds} {ws : List (BitVec 8)} (he : EnM k L e' ws true) : ∃ n, MI k L zs w4 ph at' [e'] n := by
  cases h with
  | z0 => exact ⟨_, .f0 _ _ _ he⟩
  | z1 => exact ⟨_, .f1 _ _ _ he⟩
  | z2 a h => exact ⟨_, .f2 a _ _ he h⟩
  | z3 => exact ⟨_, .f3 _ _ _ he⟩
  | z4 => exact ⟨_, .f4 _ _ _ he⟩
  | e0 => exact ⟨_, .f0 _ _ _ he⟩
  | e1 => exact ⟨_, .f1 _ _ _ he⟩
  | e2 a _ _ _ _ _ _ h => exact ⟨_, .f2 a _ _ he h⟩
  | e3 => exact ⟨_, .f3 _ _ _ he⟩
  | e4 => exact ⟨_, .f4 _ _ _ he⟩
  | f0 => exact ⟨_, .f0 _ _ _ he⟩
  | f1 => exact ⟨_, .f1 _ _ _ he⟩
  | f2 a _ _ _ h => exact ⟨_, .f2 a _ _ he h⟩
  | f3 => exact ⟨_, .f3 _ _ _ he⟩
  | f4 => exact ⟨_, .f4 _ _ _ he⟩
  | g5 => exact ⟨_, .g5 _ _ _ he⟩
  | h5 => exact ⟨_, .g5 _ _ _ he⟩
theorem EnM.eq {e : Ds} {ws ws2 : List (BitVec 8)} {d d2 : Bool} (h : EnM k L e ws d) (h2 : EnM k L e ws2 d2) : ws.length = ws2.length ∧ d = d2 := by
  have h3 := h.len
  rw [h2.len] at h3
  exact ⟨h3.symm, h.2.2.2.2.1.symm.trans h2.2.2.2.2.1⟩
theorem MI.spo {e : Ds} (h : MI k L zs w4 ph at' [e] pot) {e' : Ds} {ws ws' : List (BitVec 8)} {d : Bool} (he : EnM k L e ws d) (he' : EnM k L e' ws' d) (hl : ws'.length = ws.length) : ∃ n, MI k L zs w4 ph at' [e'] n := by
  cases h with
  | e0 _ _ w2 b h2 => obtain ⟨h3, rfl⟩ := he.eq h2; exact ⟨_, .e0 _ _ ws' 8 he' (.inl rfl)⟩
  | e1 _ _ w2 b h2 => obtain ⟨h3, rfl⟩ := he.eq h2; exact ⟨_, .e1 _ _ ws' 8 he' (.inl rfl)⟩
  | e2 a _ w2 b h2 _ ha h => obtain ⟨h3, rfl⟩ := he.eq h2; exact ⟨_, .e2 a _ ws' 8 he' (.inl rfl) (by omega) h⟩
  | e3 _ _ w2 b h2 _ hl2 => obtain ⟨h3, rfl⟩ := he.eq h2; exact ⟨_, .e3 _ _ ws' 8 he' (.inl rfl) (by omega)⟩
  | e4 _ _ w2 h2 => obtain ⟨h3, rfl⟩ := he.eq h2; exact ⟨_, .e4 _ _ ws' he'⟩
  | f0 _ _ w2 h2 => obtain ⟨h3, rfl⟩ := he.eq h2; exact ⟨_, .f0 _ _ ws' he'⟩
  | f1 _ _ w2 h2 => obtain ⟨h3, rfl⟩ := he.eq h2; exact ⟨_, .f1 _ _ ws' he'⟩
  | f2 a _ w2 h2 h => obtain ⟨h3, rfl⟩ := he.eq h2; exact ⟨_, .f2 a _ ws' he' h⟩
  | f3 _ _ w2 h2 => obtain ⟨h3, rfl⟩ := he.eq h2; exact ⟨_, .f3 _ _ ws' he'⟩
  | f4 _ _ w2 h2 => obtain ⟨h3, rfl⟩ := he.eq h2; exact ⟨_, .f4 _ _ ws' he'⟩
  | g5 _ _ w2 h2 => obtain ⟨h3, rfl⟩ := he.eq h2; exact ⟨_, .g5 _ _ ws' he'⟩
end
section
variable {k : Nat → BitVec 8} {L : Nat} {zs : List (BitVec 8)} {w4 : Int} {ph at' : Int} {es : List Ds} {pot : Nat} {W : World} {S B : Nat} {V : Value}
theorem mis_delete (h : MI k L zs w4 ph at' es pot) (h4 : w4 = 0) (hS : DsS W S B 2000 1000 V es) : Calls Tryd.prog 19 #[.pointer (some ⟨S, 0, none⟩), .agg (arr8 32 k)] W fun r w' => ∃ z, r = .returned (.int .i64 z) ∧ (∃ V' n, DsS w' S B 2000 1000 V' [] ∧ MI k L zs w4 ph at' [] n) ∧ Turn (dsG S V) W w' := by
  obtain ⟨n, hn⟩ := h.del h4
  rcases h.shape with ⟨rfl, _⟩ | ⟨e, ws, d, rfl, he, _⟩
  · exact (ddelete_none hS (by simp) k rfl).mono fun r w' ⟨a, b, c⟩ => ⟨_, a, ⟨V, n, b, hn⟩, c⟩
  · refine (ddelete hS (by simp) k he.is).mono fun r w' ⟨a, V2, b, c⟩ => ⟨_, a, ⟨V2, n, ?_, hn⟩, c⟩
    exact b
theorem mis_spoil (h : MI k L zs w4 ph at' es pot) (hL : L ≤ 400) (a : Nat) (hS : DsS W S B 2000 1000 V es) : Calls Tryd.prog 20 #[.pointer (some ⟨S, 0, none⟩), .agg (arr8 32 k), .int .i64 (a : Int)] W fun r w' => ∃ b, r = .returned (.bool b) ∧ (∃ V' es' n, DsS w' S B 2000 1000 V' es' ∧ MI k L zs w4 ph at' es' n) ∧ Turn (dsG S V) W w' := by
  rcases h.shape with ⟨rfl, _⟩ | ⟨e, ws, d, rfl, he, _⟩
  · exact (dspoil_none hS k (a : Int)).mono fun r w' ⟨x, b, c⟩ => ⟨_, x, ⟨V, [], pot, b, h⟩, c⟩
  · refine (dspoil_one hS k (by rw [he.1]; exact beq_self_eq_true _) a ws he.2.2.1 (by have := he.2.2.2.1; omega)).mono fun r w' ⟨x, hx, ⟨D, ws', hl, b⟩, c⟩ => ?_
    obtain ⟨n, hn⟩ := h.spo (e' := ⟨e.f, e.n, D, bys ws', e.done, e.age⟩) (ws' := ws') he ⟨he.1, he.2.1, rfl, by have := he.2.2.2.1; show ws'.length ≤ L; omega, he.2.2.2.2.1, fun y => by have := he.2.2.2.2.2 y; omega⟩ hl
    exact ⟨x, hx, ⟨V, _, n, b, hn⟩, c⟩
theorem mis_open (h : MI k L zs w4 ph at' es pot) (hL : 1 ≤ L ∧ L ≤ 400) (h4 : w4 ≠ 0) (hS : DsS W S B 2000 1000 V es) : Calls Tryd.prog 21 #[.pointer (some ⟨S, 0, none⟩), .agg (arr8 32 k), .int .i64 (L : Int)] W fun r w' => ∃ z, r = .returned (.int .i64 z) ∧ (∃ V' e ws d, DsS w' S B 2000 1000 V' [e] ∧ EnM k L e ws d ∧ (d = false → ph ≠ 5)) ∧ Turn (dsG S V) W w' := by
  rcases h.shape with ⟨rfl, h5⟩ | ⟨e, ws, d, rfl, he, h5⟩
  · refine (dopen_ok hS (by simp) ⟨by simp, fun i e h => by simp at h⟩ k (L : Int) (by omega) (by omega) rfl (by omega) (by omega) (by simp [sumD]; omega)).mono fun r w' ⟨a, V2, b, c⟩ => ⟨_, a, ⟨V2, ⟨k, (L : Int), .slice none 0 0, [], false, 0⟩, [], false, ?_, ⟨rfl, rfl, rfl, by simp, rfl, fun y => by cases y⟩, fun _ y => h4 (h5 y)⟩, c⟩
    exact b
  · refine (dopen_open hS (by simp) k (L : Int) (by omega) (by omega) he.is rfl).mono fun r w' ⟨a, b, c⟩ => ⟨_, a, ⟨V, e.used, ws, d, ?_, he.used, h5⟩, c⟩
    exact b
theorem mis_put {e : Ds} {ws : List (BitVec 8)} {d : Bool} (he : EnM k L e ws d) (hz : zs.length = L) (hL : 1 ≤ L ∧ L ≤ 400) (A : Option Addr) (c : Nat) (hA : SlRead W A (ints .u8 (bys zs))) (hAg : ∀ a, A = some a → ¬ dsG S V a.block) (hS : DsS W S B 2000 1000 V [e]) : Calls Tryd.prog 22 #[.pointer (some ⟨S, 0, none⟩), .agg (arr8 32 k), .int .i64 0, .slice A L c] W fun r w' => ∃ z y, r = .returned (.tuple #[.int .i64 z, .int .i64 y]) ∧ (∃ V' e2 ws2, DsS w' S B 2000 1000 V' [e2] ∧ EnM k L e2 ws2 d ∧ (d = false → ws2 = zs)) ∧ Turn (dsG S V) W w' := by
  cases d with
  | true =>
    refine (dput_done hS (by simp) k he.is rfl he.2.2.2.2.1 0 A L c).mono fun r w' ⟨x, b, t⟩ => ⟨_, _, x, ⟨V, e.used, ws, ?_, he.used, fun y => by cases y⟩, t⟩
    exact b
  | false =>
    have hyl : (bys zs).length = L := by rw [bys_length]; exact hz
    have hov : overD e.bs 0 (bys zs) = bys zs := by
      rw [he.2.2.1, over_bys, hz]
      congr 1
      rw [List.take_zero, List.nil_append, Nat.zero_add, List.drop_of_length_le he.2.2.2.1, List.append_nil]
    have hn := he.2.1
    have hbl := he.len
    have hw := he.2.2.2.1
    have H := dput_ok hS (by simp) k he.is rfl he.2.2.2.2.1 0 A (bys zs) L c hyl hA (fun _ a ha => hAg a ha) (Nat.zero_le _) (by omega) (by omega) (by omega)
    refine H.mono fun r w' ⟨x, D, b, t⟩ => ?_
    rw [hov] at x b
    exact ⟨_, _, x, ⟨V, ⟨e.f, e.n, D, bys zs, false, 0⟩, zs, b, ⟨he.1, he.2.1, rfl, by omega, rfl, fun y => by cases y⟩, fun _ => rfl⟩, t⟩
theorem mis_commit {e : Ds} {ws : List (BitVec 8)} {d : Bool} (he : EnM k L e ws d) (hw : d = false → ws = zs) (hk : k = shaOf zs) (hz : zs.length = L) (hL : 1 ≤ L ∧ L ≤ 400) (hS : DsS W S B 2000 1000 V [e]) : Calls Tryd.prog 23 #[.pointer (some ⟨S, 0, none⟩), .agg (arr8 32 k)] W fun r w' => ∃ z, r = .returned (.int .i64 z) ∧ (∃ V' e2 ws2, DsS w' S B 2000 1000 V' [e2] ∧ EnM k L e2 ws2 true) ∧ Turn (dsG S V) W w' := by
  cases d with
  | true =>
    refine (dcommit_done hS (by simp) k he.is rfl he.2.2.2.2.1).mono fun r w' ⟨x, b, t⟩ => ⟨_, x, ⟨V, e.used, ws, ?_, he.used⟩, t⟩
    exact b
  | false =>
    obtain rfl := hw rfl
    refine (dcommit_ok hS (by simp) k he.is rfl he.2.2.2.2.1 ws he.2.2.1 (by rw [he.len, hz, he.2.1]) (by rw [he.len]; omega) (by rw [← hk]; exact beq_self_eq_true _)).mono fun r w' ⟨x, b, t⟩ => ⟨_, x, ⟨V, ⟨e.f, e.n, e.D, e.bs, true, 0⟩, ws, ?_, ⟨he.1, he.2.1, he.2.2.1, he.2.2.2.1, rfl, fun _ => hz⟩⟩, t⟩
    exact b
end
/-- the world of the walk -/
structure UmS (w0 W : World) (S g : Nat) (ph at' : Int) (V : Value) (es : List Ds) : Prop where
  b : Below w0.heap.size w0 W
  d : DsS W S w0.heap.size 2000 1000 V es
  u : UpH W g ph at' 0 0
theorem UmS.below {w0 W W' : World} {S g : Nat} {ph at' : Int} {V : Value} {es : List Ds} (h : UmS w0 W S g ph at' V es) (hb : Below W.heap.size W W') : UmS w0 W' S g ph at' V es := ⟨h.b.trans (hb.mono h.b.size), h.d.below hb, h.u.below hb⟩
theorem UmS.lo {w0 W : World} {S g : Nat} {ph at' : Int} {V : Value} {es : List Ds} (h : UmS w0 W S g ph at' V es) {y : Nat} (hy : dsG S V y) : w0.heap.size ≤ y := (h.d.lt (by rcases hy with h1 | h1; exact .inl h1; exact .inr (.inl h1))).1
theorem UmS.turn {w0 W W' : World} {S g : Nat} {ph at' : Int} {V V' : Value} {es es' : List Ds} (h : UmS w0 W S g ph at' V es) (hd : DsS W' S w0.heap.size 2000 1000 V' es') (ht : Turn (dsG S V) W W') : UmS w0 W' S g ph at' V' es' :=
  ⟨ht.below h.b h.b.size (fun q hq => h.lo hq), hd, h.u.turn ht (fun hy => h.d.not h.u (by decide) (by decide) (by decide) (by rcases hy with h1 | h1; exact .inl h1; exact .inr (.inl h1)))⟩
theorem UmS.up {w0 W W' : World} {S g : Nat} {ph at' p q : Int} {V : Value} {es : List Ds} (h : UmS w0 W S g ph at' V es) (hgl : w0.heap.size ≤ g) (hu : UpH W' g p q 0 0) (ht : Turn (· = g) W W') : UmS w0 W' S g p q V es :=
  ⟨ht.below h.b h.b.size (fun y e => by rw [show y = g from e]; exact hgl), h.d.turn ht (fun y hy e => h.d.not h.u (by decide) (by decide) (by decide) (by rw [← show y = g from e]; exact hy)), hu⟩
theorem load_frR (X : Nat) (cs : Array Value) (w : World) (h : w.heap[X]? = some (.cells cs 64 (0, 0))) (hl : cs.size = 3 := by rfl) : (Instr.loadAt 64 (.pointer (some ⟨X, 0, none⟩))).run Tryd.prog w = .ok (.agg cs) w := by
  have := load_row 64 X 0 cs.toList _ Tryd.underlying64 rfl (by rw [Array.length_toList, hl]; kernel_rfl) w (range_new (cs := cs.toList) (by simpa using h))
  simpa using this
theorem tick_0 (w : World) (g : Nat) (ph at' a : Int) (h : UpH w g ph at' a 0) : Calls Tryd.prog 12 #[.pointer (some ⟨g, 2, none⟩)] w fun e w' => e = .returned (.tuple #[]) ∧ Below w.heap.size w w' := by
  have c3 := h.c3
  clear h
  go_enter Tryd.func12, Tryd.ntmps12
  go_wp2_with fail
  go_end0
  exact ⟨rfl, Below.refl _ _⟩
set_option maxRecDepth 100000 in
set_option maxHeartbeats 25600000 in
theorem upmends_walk (E : Nat → Addr) (size when' what : Int) (w : World) (hE : ErrsAt E w) :
    Calls Tryd.prog 5 #[.int .i64 size, .int .i64 when', .int .i64 what] w fun e w' => e = .returned (.bool true) ∧ Below w.heap.size w w' := by
  have HC := first_any w
  obtain ⟨wn, hwn⟩ : ∃ n : Nat, when' % 8 = (n : Int) := ⟨(when' % 8).toNat, by have := Int.emod_nonneg when' (show (8 : Int) ≠ 0 by decide); omega⟩
  have hwn8 : wn < 8 := by have := Int.emod_lt_of_pos when' (show (0 : Int) < 8 by decide); omega
  obtain ⟨w4, hw4⟩ : ∃ z, what % 4 = z := ⟨_, rfl⟩
  have hw4c : w4 = 0 ∨ w4 = 1 ∨ w4 = 2 ∨ w4 = 3 := by have h1 := Int.emod_nonneg what (show (4 : Int) ≠ 0 by decide); have h2 := Int.emod_lt_of_pos what (show (0 : Int) < 4 by decide); omega
  have HW4 : Hid (∀ W, Calls Tryd.prog 7 #[.int .i64 what, .int .i64 4] W fun e w' => e = .returned (.int .i64 w4) ∧ Below W.heap.size W w') := Lib.hid fun W => num_b what 4 w4 W (by decide) hw4
  have HWN : Hid (∀ W, Calls Tryd.prog 7 #[.int .i64 when', .int .i64 8] W fun e w' => e = .returned (.int .i64 (wn : Int)) ∧ Below W.heap.size W w') := Lib.hid fun W => num_b when' 8 (wn : Int) W (by decide) hwn
  clear hw4 hwn
  obtain ⟨L, hL⟩ : ∃ L : Nat, size % 400 = (L : Int) - 1 := ⟨(size % 400 + 1).toNat, by have := Int.emod_nonneg size (show (400 : Int) ≠ 0 by decide); omega⟩
  have hL1 : 1 ≤ L ∧ L ≤ 400 := by have h1 := Int.emod_nonneg size (show (400 : Int) ≠ 0 by decide); have h2 := Int.emod_lt_of_pos size (show (0 : Int) < 400 by decide); omega
  have HN := fun w => num_b size 400 ((L : Int) - 1) w (by decide) hL
  have hw1 : wrap64 ((L : Int) - 1 + 1) = (L : Int) := by unfold wrap64; omega
  clear hL
  go_enter Tryd.func5, Tryd.ntmps5
  go_wp2_with fail
  refine HC.mono ?_
  rintro e V1 ⟨rfl, hb1⟩
  clear HC
  have HC := HN V1
  clear HN
  go_wp2_with fail
  refine HC.mono ?_
  rintro e V2 ⟨rfl, hb2⟩
  have hb := hb1.trans (hb2.mono hb1.size)
  clear HC hb1 hb2
  have HC := file_any (L : Int) L (by omega) V2
  go_upto_region 5 with (fail)
  clear hw1
  go_wp2_with fail
  refine HC.mono ?_
  rintro e V3 ⟨A, c, rfl, hown, hb3⟩
  obtain ⟨_, _, hce, hcL, _⟩ := own_slice hown
  cases hce
  have HCL := Lib.hid hcL
  clear hcL
  obtain ⟨zs, hzs⟩ : ∃ zs, zs = fileU (L : Int) L := ⟨_, rfl⟩
  have hzl : zs.length = L := by rw [hzs]; exact fileU_len _ L
  have hA : SlRead V3 A (ints .u8 (bys zs)) := by rw [hzs, ← fileU_cells]; exact SlRead.of_own hown
  replace hb := hb.trans (hb3.mono hb.size)
  have HZ := Lib.hid hzl
  clear HC hown hb3 hzs
  have HC := dsum_any A zs c V3 hA (by omega)
  rw [hzl] at HC
  clear hzl
  go_wp2_with fail
  refine HC.mono ?_
  rintro e V4 ⟨rfl, hb4⟩
  replace hA := hA.below hb4
  replace hb := hb.trans (hb4.mono hb.size)
  clear HC hb4
  obtain ⟨k, hk⟩ : ∃ k, k = shaOf zs := ⟨_, rfl⟩
  rw [← hk]
  have HKK := Lib.hid hk
  clear hk
  have hinf : (Tryd.prog.info? 37).map (·.size) = some (arr8 32 k).size := by simp only [arr8_size]; kernel_rfl
  go_upto_region 7 with (refine wpList_store_row rfl 37 _ _ rfl V4.heap.size (arr8 32 k) rfl rfl _ _ (heap_alloc_new _ _) hinf (by simp only [arr8_size]; kernel_rfl) (arr8_one _ _) ?_)
  obtain ⟨b7, hb7⟩ : ∃ b, b = V4.heap.size := ⟨_, rfl⟩
  refine wp_world (fun V => Below w.heap.size w V ∧ SlRead V A (ints .u8 (bys zs)) ∧ V.heap[b7]? = some (.cells (arr8 32 k) 37 (0, 0))) ?_ ?_
  · rw [alloc_setRow, hb7]
    have hbb := below_alc V4 (.cells (arr8 32 k) 37)
    exact ⟨hb.trans (hbb.mono hb.size), hA.below hbb, heap1_0 _ _⟩
  rw [← hb7]
  clear hb hA hb7 hinf
  rintro w0 ⟨hb, hA, h7⟩
  have HC := dnew 2000 1000 (by omega) w0
  go_wp2_with fail
  refine HC.mono ?_
  rintro e V6 ⟨rfl, hs6, hb6⟩
  obtain ⟨S, hS⟩ : ∃ S, S = w0.heap.size := ⟨_, rfl⟩
  go_upto_region 9 with (fail)
  obtain ⟨g, hg⟩ : ∃ b, b = V6.heap.size := ⟨_, rfl⟩
  refine wp_world (fun V => UmS w0 V S g 0 0 (.slice none 0 0) []) ?_ ?_
  · have hbT := below_alc V6 (.cells (uv 0 0 0 0) 31)
    rw [hg, hS]
    exact ⟨hb6.trans (hbT.mono hb6.size), hs6.below hbT, heap1_0 _ _⟩
  rw [← hg, ← hS]
  have hgl : w0.heap.size ≤ g := by rw [hg]; exact hb6.size
  clear HC hs6 hb6 hg
  rintro V7 hU7
  have HC := HWN.out V7
  clear HWN
  go_wp2_with fail
  refine HC.mono ?_
  rintro e V8 ⟨rfl, hb8⟩
  have HW := Lib.hid (hU7.below hb8)
  have HO := Lib.hid (And.intro hb (And.intro hA (And.intro h7 (hE.below hb))))
  clear hU7 hb8 HC hb hA h7 hE hS
  go_wp2_with fail
  go_loopw [12] (fun i wr => ∃ (n : Nat) (V : Value) (es : List Ds) (ph at' : Int) (pot : Nat), i = .int .i64 (n : Int) ∧ UmS w0 wr S g ph at' V es ∧ MI k L zs w4 ph at' es pot ∧ (n ≤ wn ∨ n + pot ≤ 30)) (fun i _ => 400 - (intOf i).toNat)
  case atStart => exact ⟨0, _, [], 0, 0, 6, rfl, HW.out, .z0 0, .inl (Nat.zero_le _)⟩
  clear HW
  case round =>
    obtain ⟨n, V, es, ph, at', pot, rfl, hS, hmi, hpot⟩ := hrel
    have hn2 : (n : Int) < 400 := by omega
    have HR := Lib.hid (And.intro hS (And.intro hmi hpot))
    clear hS hmi hpot
    go_upto_if 40 with (fail)
    go_cut [] (fun wx => ∃ (V : Value) (es : List Ds) (pot : Nat), UmS w0 wx S g ph at' V es ∧ MI k L zs w4 ph at' es pot ∧ (n < wn ∨ n + pot ≤ 30))
    case first =>
      by_cases heq : n = wn
      · subst heq
        have HC := HW4.out wr
        go_wp2_with fail
        refine HC.mono ?_
        rintro e W1 ⟨rfl, hb1⟩
        have hS1 := HR.out.1.below hb1
        have hmi := HR.out.2.1
        have h7r := heap_below HO.out.2.2.1 hS1.b
        clear HC hb1 HR
        rcases hw4c with rfl | rfl | rfl | rfl
        · have HD := mis_delete hmi rfl hS1.d
          go_wp2_with (refine wpList_load_row rfl 37 _ rfl b7 rfl _ _ _ _ h7r Tryd.underlying37 rfl (by simp only [arr8_size]; kernel_rfl) ?_)
          refine HD.mono ?_
          rintro r W2 ⟨z, rfl, ⟨V', n', hd', hmi'⟩, ht⟩
          have HF := Lib.hid (And.intro (hS1.turn hd' ht) hmi')
          clear HD hd' ht hmi' h7r hS1 hmi
          go_wp2_with fail
          go_meet
          exact ⟨V', [], n', HF.out.1, HF.out.2, .inr (by have := HF.out.2.le hL1.2; omega)⟩
        · have HD := mis_spoil hmi hL1.2 n hS1.d
          go_wp2_with (refine wpList_load_row rfl 37 _ rfl b7 rfl _ _ _ _ h7r Tryd.underlying37 rfl (by simp only [arr8_size]; kernel_rfl) ?_)
          refine HD.mono ?_
          rintro r W2 ⟨z, rfl, ⟨V', es', n', hd', hmi'⟩, ht⟩
          have HF := Lib.hid (And.intro (hS1.turn hd' ht) hmi')
          clear HD hd' ht hmi' h7r hS1 hmi
          go_wp2_with fail
          go_meet
          exact ⟨V', es', n', HF.out.1, HF.out.2, .inr (by have := HF.out.2.le hL1.2; omega)⟩
        · have HD := mis_open hmi hL1 (by decide) hS1.d
          go_wp2_with (refine wpList_load_row rfl 37 _ rfl b7 rfl _ _ _ _ h7r Tryd.underlying37 rfl (by simp only [arr8_size]; kernel_rfl) ?_)
          refine HD.mono ?_
          rintro r W2 ⟨z, rfl, ⟨V2', e2, ws2, d2, hd2, he2, h52⟩, ht2⟩
          have hS2 := hS1.turn hd2 ht2
          have h7r2 := heap_below HO.out.2.2.1 hS2.b
          have hAg : ∀ a, A = some a → ¬ dsG S V2' a.block := fun a ha y => by
            obtain ⟨b, o, e, hl, _⟩ := HO.out.2.1 (by rw [ints_lenD, bys_length, HZ.out]; omega)
            rw [ha] at e
            cases e
            exact absurd (hS2.lo y) (by show ¬ _ ≤ b; omega)
          have HD2 := mis_put he2 HZ.out hL1 A c (HO.out.2.1.below hS2.b) hAg hS2.d
          clear HD hd2 ht2 h7r hS1 hAg
          go_wp2_with (refine wpList_load_row rfl 37 _ rfl b7 rfl _ _ _ _ h7r2 Tryd.underlying37 rfl (by simp only [arr8_size]; kernel_rfl) ?_)
          refine HD2.mono ?_
          rintro r W3 ⟨z3, y3, rfl, ⟨V3, e3, ws3, hd3, he3, hw3⟩, ht3⟩
          have hS3 := hS2.turn hd3 ht3
          have HF := Lib.hid (And.intro hS3 (And.intro he3 (And.intro hw3 (And.intro h52 hmi))))
          clear HD2 hd3 ht3 he3 hw3 h7r2 hS2 hS3 hmi h52
          go_wp2_with fail
          go_meet
          obtain ⟨n', hn'⟩ : ∃ n, MI k L zs 2 ph at' [e3] n := by
            cases d2 with
            | true => exact HF.out.2.2.2.2.done HF.out.2.1
            | false => exact HF.out.2.2.2.2.full HZ.out (HF.out.2.2.2.1 rfl) (by have := HF.out.2.1; rw [HF.out.2.2.1 rfl] at this; exact this)
          exact ⟨V3, [e3], n', HF.out.1, hn', .inr (by have := hn'.le hL1.2; omega)⟩
        · have HD := mis_open hmi hL1 (by decide) hS1.d
          go_wp2_with (refine wpList_load_row rfl 37 _ rfl b7 rfl _ _ _ _ h7r Tryd.underlying37 rfl (by simp only [arr8_size]; kernel_rfl) ?_)
          refine HD.mono ?_
          rintro r W2 ⟨z, rfl, ⟨V2', e2, ws2, d2, hd2, he2, h52⟩, ht2⟩
          have hS2 := hS1.turn hd2 ht2
          have h7r2 := heap_below HO.out.2.2.1 hS2.b
          have hAg : ∀ a, A = some a → ¬ dsG S V2' a.block := fun a ha y => by
            obtain ⟨b, o, e, hl, _⟩ := HO.out.2.1 (by rw [ints_lenD, bys_length, HZ.out]; omega)
            rw [ha] at e
            cases e
            exact absurd (hS2.lo y) (by show ¬ _ ≤ b; omega)
          have HD2 := mis_put he2 HZ.out hL1 A c (HO.out.2.1.below hS2.b) hAg hS2.d
          clear HD hd2 ht2 h7r hS1 hAg
          go_wp2_with (refine wpList_load_row rfl 37 _ rfl b7 rfl _ _ _ _ h7r2 Tryd.underlying37 rfl (by simp only [arr8_size]; kernel_rfl) ?_)
          refine HD2.mono ?_
          rintro r W3 ⟨z3, y3, rfl, ⟨V3, e3, ws3, hd3, he3, hw3⟩, ht3⟩
          have hS3 := hS2.turn hd3 ht3
          have h7r3 := heap_below HO.out.2.2.1 hS3.b
          have HD3 := mis_commit he3 hw3 HKK.out HZ.out hL1 hS3.d
          clear HD2 hd3 ht3 h7r2 hS2
          go_wp2_with (refine wpList_load_row rfl 37 _ rfl b7 rfl _ _ _ _ h7r3 Tryd.underlying37 rfl (by simp only [arr8_size]; kernel_rfl) ?_)
          refine HD3.mono ?_
          rintro r W4 ⟨z4, rfl, ⟨V4', e4, ws4, hd4, he4⟩, ht4⟩
          have HF := Lib.hid (And.intro (hS3.turn hd4 ht4) (And.intro he4 hmi))
          clear HD3 hd4 ht4 he4 h7r3 hS3 hmi h52 he3 hw3
          go_wp2_with fail
          go_meet
          obtain ⟨n', hn'⟩ := HF.out.2.2.done HF.out.2.1
          exact ⟨V4', [e4], n', HF.out.1, hn', .inr (by have := hn'.le hL1.2; omega)⟩
      · have hneI : ¬ (n : Int) = (wn : Int) := by omega
        go_wp2_with fail
        go_meet
        exact ⟨V, es, pot, HR.out.1, HR.out.2.1, by have := HR.out.2.2; omega⟩
    case rest =>
      clear HR
      obtain ⟨V, es, pot, hS, hmi, hbd⟩ := hcut
      have h7r := heap_below HO.out.2.2.1 hS.b
      by_cases h5 : ph = 5
      · subst h5
        have HA := ask_off wc g 5 at' 0 0 hS.u k A L c rfl (.inr (by decide))
        go_wp2_with (refine wpList_load_row rfl 37 _ rfl b7 rfl _ _ _ _ h7r Tryd.underlying37 rfl (by simp only [arr8_size]; kernel_rfl) ?_)
        refine HA.mono ?_
        rintro r W1 ⟨rfl, hb1⟩
        clear HA h7r
        go_upto_region 26 with (refine wpList_store_row rfl 40 _ _ rfl W1.heap.size (rqA 0 zf 0 0 (.slice none 0 0)) rfl rfl _ _ (heap_alloc_new _ _) (rq_info _ _ _ _ _) (by kernel_rfl) (rq_one _ _ _ _ _ _ _) ?_)
        refine wp_world (fun W => Below wc.heap.size wc W) ?_ ?_
        · rw [alloc_setRow]
          exact hb1.trans ((below_alc W1 _).mono hb1.size)
        rintro W2 hb2
        have hS2 := hS.below hb2
        have h7r := heap_below HO.out.2.2.1 hS2.b
        have c0 := hS2.u.c0
        clear hb1 hb2 hS
        try simp only [put_none]
        by_cases hgt : wn < n
        · have hgtI : (wn : Int) < (n : Int) := Int.ofNat_lt.2 hgt
          rcases hmi.shape with ⟨rfl, hw⟩ | ⟨e, ws, d, rfl, he, hd⟩
          · obtain rfl := hw rfl
            have HC := dstat_none hS2.d (by simp) k rfl
            have HS2 := Lib.hid hS2
            clear hmi hS2
            go_wp2_with (refine wpList_load_row rfl 37 _ rfl b7 rfl _ _ _ _ h7r Tryd.underlying37 rfl (by simp only [arr8_size]; kernel_rfl) ?_)
            refine HC.mono ?_
            rintro r W3 ⟨rfl, hd3, ht3⟩
            have HF := Lib.hid (HS2.out.turn hd3 ht3)
            have HC2 := HW4.out W3
            clear HC hd3 ht3 h7r c0 HS2
            go_wp2_with fail
            refine HC2.mono ?_
            rintro r W4 ⟨rfl, hb4⟩
            clear HC2
            go_wp2_with fail
            go_ret
            have hbf := (HF.out.below hb4).b
            exact ⟨rfl, HO.out.1.trans (hbf.mono HO.out.1.size)⟩
          · cases d with
            | false => exact absurd rfl (hd rfl)
            | true =>
              have HC := dstat_some hS2.d (by simp) k he.is rfl
              rw [he.len, he.2.2.2.2.2 rfl, he.2.2.2.2.1] at HC
              have HS2 := Lib.hid hS2
              clear hmi hS2 he hd
              go_wp2_with (refine wpList_load_row rfl 37 _ rfl b7 rfl _ _ _ _ h7r Tryd.underlying37 rfl (by simp only [arr8_size]; kernel_rfl) ?_)
              refine HC.mono ?_
              rintro r W3 ⟨rfl, hd3, ht3⟩
              have HF := Lib.hid (HS2.out.turn hd3 ht3)
              clear HC hd3 ht3 h7r c0 HS2
              go_wp2_with fail
              go_ret
              have hbf := HF.out.b
              exact ⟨rfl, HO.out.1.trans (hbf.mono HO.out.1.size)⟩
        · have hgtI : ¬ (wn : Int) < (n : Int) := fun y => hgt (Int.ofNat_lt.1 y)
          have HC := tick_0 W2 g 5 at' 0 hS2.u
          have HF := Lib.hid (And.intro hS2 hmi)
          clear h7r hS2 hmi
          go_wp2_with fail
          refine HC.mono ?_
          rintro r W3 ⟨rfl, hb3⟩
          have HG := Lib.hid (And.intro (HF.out.1.below hb3) HF.out.2)
          clear HC HF hb3 c0
          go_wp2_with fail
          have hp0 : pot = 0 := by
            have := HG.out.2
            cases this <;> rfl
          refine ⟨⟨n + 1, V, es, 5, at', pot, by go_num, HG.out.1, HG.out.2, by omega⟩, ?_⟩
          clear HG
          simp [intOf]
          omega
      · obtain ⟨p, q, IP, op, off, n', ys, l, code, nres, ds, ld, hst, hnx⟩ := m_all k L A c zs w4 E g S w0.heap.size V HZ.out hL1 HCL.out HKK.out hmi h5
        have h5d : decide (ph = 5) = false := decide_eq_false h5
        have hple := hmi.le hL1.2
        have HA := hst.ask wc hS.u (HO.out.2.1.below hS.b)
        have HS := Lib.hid hS
        clear hS hmi
        go_wp2_with (refine wpList_load_row rfl 37 _ rfl b7 rfl _ _ _ _ h7r Tryd.underlying37 rfl (by simp only [arr8_size]; kernel_rfl) ?_)
        refine HA.mono ?_
        rintro r W1 ⟨D, cD, rfl, hD, hb1⟩
        clear HA h7r
        go_upto_region 26 with (refine wpList_store_row rfl 40 _ _ rfl W1.heap.size (rqA op k off n' (.slice D l cD)) rfl rfl _ _ (heap_alloc_new _ _) (rq_info _ _ _ _ _) (by kernel_rfl) (rq_one _ _ _ _ _ _ _) ?_)
        refine wp_world (fun W => Below wc.heap.size wc W ∧ (∃ Q, W.heap[Q]? = some (.cells (rqA op k off n' (.slice D l cD)) 40 (0, 0)) ∧ Q = W1.heap.size) ∧ SlRead W D (ints .u8 ys)) ?_ ?_
        · rw [alloc_setRow]
          have hbb := below_alc W1 (.cells (rqA op k off n' (.slice D l cD)) 40)
          exact ⟨hb1.trans (hbb.mono hb1.size), ⟨_, heap1_0 _ _, rfl⟩, hD.below hbb⟩
        clear hD
        rintro W2 ⟨hb2, ⟨Q, hQ, hQe⟩, hD2⟩
        rw [← hQe]
        have hS2 := HS.out.below hb2
        have c0 := hS2.u.c0
        have HC1 := dreq_wD op k off n' D ys l cD (45 + ys.length) W2 hD2 hst.hl rfl (by have := hst.hl2; omega)
        have HS2 := Lib.hid hS2
        clear hb1 hQe hb2 hD2 hS2 HS
        try simp only [put_none]
        go_wp2_with (refine wpList_load_row rfl 40 _ rfl Q rfl _ _ _ _ hQ Tryd.underlying40 rfl (rq_info _ _ _ _ _) ?_)
        refine HC1.mono ?_
        rintro e W3 ⟨Ar, cr, rfl, hAr, hmc, hb3⟩
        have hS3 := HS2.out.below hb3
        have HC2 := hst.serve W3 hS3.d Ar _ cr hAr rfl hmc
        have HS3 := Lib.hid hS3
        clear HC1 hb3 hS3 hAr hmc hQ HS2 c0 h5d
        go_wp2_with fail
        refine HC2.mono ?_
        rintro e W4 ⟨Bq, cb, rfl, hBq, hcb, ⟨V', es', hip, hd4⟩, ht4⟩
        have hS4 := HS3.out.turn hd4 ht4
        have HC3 := drs_yesD Bq code nres ds (9 + ld) ld cb W4 hBq (by rw [hst.hd]) hst.hd hcb hst.hdb hst.hd2 hst.hc hst.hn
        have HS4 := Lib.hid hS4
        clear HC2 hd4 ht4 hBq hcb hS4 HS3
        go_wp2_with fail
        refine HC3.mono ?_
        rintro e W5 ⟨B5, c5, rfl, hB5, _, _, hb5⟩
        clear HC3
        go_upto_region 34 with (first | (refine wpList_store_row rfl 47 _ _ rfl W5.heap.size (rsA code nres (.slice B5 ld c5)) rfl rfl _ _ (heap2_0 _ _ _) (rs_info _ _ _) (by kernel_rfl) (rs_one _ _ _ _ _) ?_) | (refine wpList_store_row rfl 64 _ _ rfl (W5.heap.size + 1) (frow 0 false 0) rfl rfl _ _ ((setRow_other _ _ _ _ (by omega)).trans (heap2_1 _ _ _)) (by kernel_rfl) rfl (by kernel_rfl) ?_))
        refine wp_world (fun W => Below W4.heap.size W4 W ∧ (∃ Rb, W.heap[Rb]? = some (.cells (rsA code nres (.slice B5 ld c5)) 47 (0, 0)) ∧ W.heap[Rb + 1]? = some (.cells (frow 0 false 0) 64 (0, 0)) ∧ Rb = W5.heap.size) ∧ SlRead W B5 (ints .u8 ds)) ?_ ?_
        · have hbb := serve_two W5 (rsA 0 0 (.slice none 0 0)) (frow 0 false 0) (rsA code nres (.slice B5 ld c5)) (frow 0 false 0) (t := 47) (u := 64)
          exact ⟨hb5.trans (hbb.mono hb5.size), ⟨_, (setRow_other _ _ _ _ (by omega)).trans (setRow_heap _ _ _ _ _ _ (heap2_0 _ _ _)), setRow_heap _ _ _ _ _ _ ((setRow_other _ _ _ _ (by omega)).trans (heap2_1 _ _ _)), rfl⟩, hB5.below hbb⟩
        clear hB5
        rintro W6 ⟨hb46, ⟨Rb, hRb, hRf, hRe⟩, hB6⟩
        rw [← hRe]
        have hS6 := HS4.out.below hb46
        clear hb5 hRe hb46 HS4
        try simp only [put_none]
        have HX := Lib.hid (And.intro hRb (And.intro hB6 hS6))
        clear hRb hB6 hS6
        go_upto_region 34 with (fail)
        refine wp_region_lit ?_
        try simp only [put_list, List.set_cons_zero, List.set_cons_succ]
        refine wpList_run (by kernel_rfl) (.agg (frow 0 false 0)) (W6) (exec_load (vx := .pointer (some ⟨Rb + 1, 0, none⟩)) rfl (by kernel_rfl) (load_frR (Rb + 1) _ W6 hRf)) ?_
        refine wpList_call (by kernel_rfl) 28 #[Go.Operand.tmp 125] #[64] #[.agg (frow 0 false 0)] _ rfl (by kernel_rfl) (by kernel_rfl) (bad_no 0 false 0 W6 rfl) ?_
        rintro r W7 ⟨rfl, hb7⟩
        have hRb := heap_below HX.out.1 hb7
        have hS7 := HX.out.2.2.below hb7
        have HC4 := hst.answer W7 B5 c5 (HO.out.2.2.2.below hS7.b) hS7.u (HX.out.2.1.below hb7)
        have HS7 := Lib.hid hS7
        clear hb7 hS7 hRf HX
        refine ⟨_, rfl, ?_⟩
        try simp only [put_list, List.set_cons_zero, List.set_cons_succ]
        refine wpList_run (by kernel_rfl) (.bool false) (W7) (exec_move rfl (by kernel_rfl)) ?_
        try simp only [put_list, List.set_cons_zero, List.set_cons_succ]
        refine wpList_runG (by kernel_rfl) (.int .i64 (L : Int)) (W7) (exec_move rfl (by kernel_rfl)) ?_
        try simp only [put_list, List.set_cons_zero, List.set_cons_succ]
        refine wpList_runG (by kernel_rfl) (.agg (rsA code nres (.slice B5 ld c5))) (W7) (exec_load (vx := .pointer (some ⟨Rb, 0, none⟩)) rfl (by kernel_rfl) (load_rsR Rb _ W7 hRb)) ?_
        refine wpList_call (by kernel_rfl) 14 #[Go.Operand.tmp 11, Go.Operand.tmp 128, Go.Operand.tmp 129] #[31, 3, 47] #[.pointer (some ⟨g, 0, none⟩), .int .i64 (L : Int), .agg (rsA code nres (.slice B5 ld c5))] _ rfl (by kernel_rfl) (by kernel_rfl) (HC4) ?_
        rintro e W8 ⟨rfl, hu8, ht8⟩
        have HF := Lib.hid (HS7.out.up hgl hu8 ht8)
        clear HC4 hu8 ht8 hRb HS7
        refine ⟨_, rfl, ?_⟩
        try simp only [put_list, List.set_cons_zero, List.set_cons_succ]
        refine wpList_run (by kernel_rfl) (.bool false) (W8) (exec_pick (b := false) rfl (by kernel_rfl) (by kernel_rfl)) ?_
        refine wpList_nil ?_
        simp only [put_list, List.set_cons_zero, List.set_cons_succ]
        go_wp2_with fail
        obtain ⟨n2, hn2, hm2⟩ := hnx es' hip
        refine ⟨⟨n + 1, V', es', p, q, n2, by go_num, HF.out, hm2, by omega⟩, ?_⟩
        clear HF hst hnx hip hm2
        simp [intOf]
        omega
end Go.Proofs.YtffkjbbhbpaacaaDoor
