import Derived.Test.YtffkjbbhbpaacaaGreatDoorUdb
import Derived.Test.YtffkjbbhbpaacaaGreatDoorUph
import Derived.Test.YtffkjbbhbpaacaaGreatDoorDse
import Derived.Test.YtffkjbbhbpaacaaGreatDoorDsd
import Derived.Test.YtffkjbbhbpaacaaGreatDoorUff
import Derived.Test.YtffkjbbhbpaacaaGreatDoorFil
import Derived.Test.YtffkjbbhbpaacaaGreatDoorObl
/-
  UploadGoes: a round of asking, by states.
  UploadGoes: the walk.
-/
namespace Go.Proofs.YtffkjbbhbpaacaaGreatDoor
open Go.RowKit

theorem bys_bytsU (zs : List (BitVec 8)) : Byts (bys zs) := fun x hx => by
  unfold bys at hx
  obtain ⟨b, _, rfl⟩ := List.mem_map.1 hx
  have := b.isLt
  rw [n8N]
  omega
/-- an entry of that file's, as far as it has come -/
def EnU (k : Nat → BitVec 8) (L : Nat) (zs : List (BitVec 8)) (e : Ds) (j : Nat) (d : Bool) : Prop := e.f = k ∧ e.n = (L : Int) ∧ e.bs = (bys zs).take j ∧ j ≤ L ∧ e.done = d
theorem EnU.used {k : Nat → BitVec 8} {L : Nat} {zs : List (BitVec 8)} {e : Ds} {j : Nat} {d : Bool} (h : EnU k L zs e j d) : EnU k L zs e.used j d := h
theorem EnU.is {k : Nat → BitVec 8} {L : Nat} {zs : List (BitVec 8)} {e : Ds} {j : Nat} {d : Bool} (h : EnU k L zs e j d) : [e].findIdx? (Ds.is k) = some 0 := by
  have : Ds.is k e = true := by unfold Ds.is; rw [h.1]; exact beq_self_eq_true _
  simp [List.findIdx?_cons, this]
theorem EnU.len {k : Nat → BitVec 8} {L : Nat} {zs : List (BitVec 8)} {e : Ds} {j : Nat} {d : Bool} (h : EnU k L zs e j d) (hz : zs.length = L) : e.bs.length = j := by
  have := h.2.2.2.1
  rw [h.2.2.1, List.length_take, bys_length, hz]
  omega
/-- where it may stand, and how many rounds are left at most -/
inductive GoI (k : Nat → BitVec 8) (L : Nat) (zs : List (BitVec 8)) : Int → Int → List Ds → Nat → Prop
  | a0 (at' : Int) : GoI k L zs 0 at' [] (L + 4)
  | a1 (at' : Int) : GoI k L zs 1 at' [] (L + 3)
  | b1 (at' : Int) (e : Ds) (j : Nat) (he : EnU k L zs e j false) : GoI k L zs 1 at' [e] (L + 3)
  | b0 (at' : Int) (e : Ds) (j : Nat) (he : EnU k L zs e j false) : GoI k L zs 0 at' [e] (L + 2)
  | c2 (a : Nat) (e : Ds) (j : Nat) (he : EnU k L zs e j false) (haj : a ≤ j) (haL : a < L) : GoI k L zs 2 (a : Int) [e] (L - a + 1)
  | d3 (at' : Int) (e : Ds) (d : Bool) (he : EnU k L zs e L d) : GoI k L zs 3 at' [e] 1
  | d5 (at' : Int) (e : Ds) (he : EnU k L zs e L true) : GoI k L zs 5 at' [e] 0
/-- a round: what is asked; what is answered; where it goes on -/
structure StepU (k : Nat → BitVec 8) (L : Nat) (A : Option Addr) (c : Nat) (zs : List (BitVec 8)) (E : Nat → Addr) (g S B : Nat) (V : Value) (es : List Ds) (ph at' p q : Int) (IP : List Ds → Prop) (op off n : Int) (ys : List Int) (l : Nat) (code nres : Int) (ds : List Int) (ld : Nat) : Prop where
  hl : ys.length = l
  hl2 : l ≤ 200
  hd : ds.length = ld
  hd2 : ld ≤ 200
  hdb : Byts ds
  hc : 0 ≤ code ∧ code ≤ 19
  hn : 0 ≤ nres ∧ nres < 4294967296
  ask : ∀ W, UpH W g ph at' 0 0 → SlRead W A (ints .u8 (bys zs)) → Calls Tryz.prog 10 #[.pointer (some ⟨g, 0, none⟩), .agg (arr8 32 k), .slice A L c] W fun e w' => ∃ D cD, e = .returned (.tuple #[.agg (rqA op k off n (.slice D l cD)), .bool true]) ∧ SlRead w' D (ints .u8 ys) ∧ Below W.heap.size W w'
  serve : ∀ W, DsS W S B 2000 1000 V es → ∀ Ar m cr, SlRead W Ar (ints .u8 (rqB op k off n ys)) → 45 + ys.length = m → m ≤ cr → Calls Tryz.prog 13 #[.pointer (some ⟨S, 0, none⟩), .slice Ar m cr] W fun r w' => ∃ Bq cb, r = .returned (.slice Bq (9 + ld) cb) ∧ SlRead w' Bq (ints .u8 (rsB code nres ds)) ∧ 9 + ld ≤ cb ∧ (∃ V' es', IP es' ∧ DsS w' S B 2000 1000 V' es') ∧ Turn (dsG S V) W w'
  answer : ∀ W D cD, ErrsAt E W → UpH W g ph at' 0 0 → SlRead W D (ints .u8 ds) → Calls Tryz.prog 15 #[.pointer (some ⟨g, 0, none⟩), .int .i64 (L : Int), .agg (rsA code nres (.slice D ld cD))] W fun e w' => e = .returned (.bool false) ∧ UpH w' g p q 0 0 ∧ Turn (· = g) W w'
def NextU (k : Nat → BitVec 8) (L : Nat) (zs : List (BitVec 8)) (ph at' p q : Int) (pot : Nat) (IP : List Ds → Prop) : Prop := ∀ es', IP es' → (∃ n1, n1 ≤ pot ∧ GoI k L zs ph at' es' n1) ∧ (∃ n2, n2 < pot ∧ GoI k L zs p q es' n2)
def OkU (k : Nat → BitVec 8) (L : Nat) (A : Option Addr) (c : Nat) (zs : List (BitVec 8)) (E : Nat → Addr) (g S B : Nat) (V : Value) (es : List Ds) (ph at' : Int) (pot : Nat) : Prop := ∃ p q IP op off n ys l code nres ds ld, StepU k L A c zs E g S B V es ph at' p q IP op off n ys l code nres ds ld ∧ NextU k L zs ph at' p q pot IP
theorem GoS.lt_F {W : World} {S B : Nat} {q l : Int} {V : Value} {es : List Ds} (h : DsS W S B q l V es) : ∀ k, dsG S V k → k < W.heap.size := fun k hk => (h.lt (by rcases hk with h1 | h1; exact .inl h1; exact .inr (.inl h1))).2
/-- what lies in a response's block is none of the store's -/
theorem DsS.resp {W W' : World} {S B : Nat} {q l : Int} {V : Value} {es : List Ds} (h : DsS W S B q l V es) {g : Nat} {cs : Array Value} (hg : W.heap[g]? = some (.cells cs 44 (0, 0))) (ht : Turn (· = g) W W') : DsS W' S B q l V es :=
  h.turn ht (fun k hk e => h.not hg (by decide) (by decide) (by decide) (by rw [← show k = g from e]; exact hk))
theorem cvt_i64u (z : Int) (w : World) : (convert 3 38 (.int .i64 z)).run Tryz.prog w = .ok (.int .u32 (IntKind.u32.wrap z)) w := by
  have h1 := Tryz.underlying3
  have h2 := Tryz.underlying38
  simp [convert, run_underlying h1, run_underlying h2, Conv.intToInt]
theorem cvtU (n : Int) (h : 0 ≤ n ∧ n < 4294967296) (w : World) : (convert 3 38 (.int .i64 n)).run Tryz.prog w = .ok (.int .u32 n) w := by
  have := cvt_i64u n w
  rwa [show IntKind.u32.wrap n = n by simp [IntKind.wrap, IntKind.signed, IntKind.bits]; omega] at this
section
variable (k : Nat → BitVec 8) (L : Nat) (A : Option Addr) (c : Nat) (zs : List (BitVec 8)) (E : Nat → Addr) (g S B : Nat) (V : Value)
theorem ok_a0 (at' : Int) : OkU k L A c zs E g S B V [] 0 at' (L + 4) := by
  refine ⟨1, at', (fun es => es = []), 5, 0, 0, [], 0, 14, 0, [], 0, ⟨rfl, by omega, rfl, by omega, (fun _ h => nomatch h), by omega, by omega, ?_, ?_, ?_⟩, ?_⟩
  · exact fun W hU hA => (ask_0 W hU k A L c rfl rfl).mono fun e w' ⟨h1, h2⟩ => ⟨none, 0, h1, SlRead.nil_, h2⟩
  · exact fun W hS Ar mA cr hr hmA hmc => by
      refine (dserve_stat14 S Ar k 0 0 [] mA 0 cr  (F := dsG S V) (PM := fun W' => ∃ V' es', (fun es : List Ds => es = []) es' ∧ DsS W' S B 2000 1000 V' es') hr hmA rfl hmc (fun _ h => nomatch h) (by omega) (by omega) (by omega) (fun V1 V2 ⟨v, s, hi, hp⟩ hb => ⟨v, s, hi, hp.below hb⟩) (fun V1 V2 gg cs ⟨v, s, hi, hp⟩ hg _ ht => ⟨v, s, hi, hp.resp hg ht⟩) (GoS.lt_F hS) (fun V1 D cD hb hD hDn hcD => ?_)).mono (fun e w' hh => hh)
      have h1 := hS.below hb
      exact (dstat_none h1 (by simp) k rfl).mono fun e w2 ⟨a, b, d⟩ => ⟨a, ⟨V, [], rfl, b⟩, d⟩
  · intro W D cD hE hU hD
    refine answer_yes E W hE hU (by omega) 14 0 (.slice D 0 cD) (L : Int) 1 at' (fun W2 hb2 hU2 => ?_)
    exact after0_u E W2 (hE.below hb2) hU2 14 0 (.slice D 0 cD) (L : Int) (by omega) false (fun h => absurd h (by decide)) _ rfl
  · rintro es' rfl
    exact ⟨⟨_, Nat.le_refl _, .a0 at'⟩, _, by omega, .a1 at'⟩
theorem ok_a1 (hL : 1 ≤ L ∧ L ≤ 600) (at' : Int) : OkU k L A c zs E g S B V [] 1 at' (L + 3) := by
  refine ⟨2, 0, (fun es => es = [⟨k, (L : Int), .slice none 0 0, [], false, 0⟩]), 1, 0, (L : Int), [], 0, 0, 0, [], 0, ⟨rfl, by omega, rfl, by omega, (fun _ h => nomatch h), by omega, by omega, ?_, ?_, ?_⟩, ?_⟩
  · exact fun W hU hA => (ask_1 W hU k A L c rfl rfl (by omega)).mono fun e w' ⟨h1, h2⟩ => ⟨none, 0, h1, SlRead.nil_, h2⟩
  · exact fun W hS Ar mA cr hr hmA hmc => by
      refine (dserve_open0 S Ar k 0 (L : Int) [] mA 0 cr  (F := dsG S V) (PM := fun W' => ∃ V' es', (fun es : List Ds => es = [⟨k, (L : Int), .slice none 0 0, [], false, 0⟩]) es' ∧ DsS W' S B 2000 1000 V' es') hr hmA rfl hmc (fun _ h => nomatch h) (by omega) (by omega) (by omega) (fun V1 V2 ⟨v, s, hi, hp⟩ hb => ⟨v, s, hi, hp.below hb⟩) (fun V1 V2 gg cs ⟨v, s, hi, hp⟩ hg _ ht => ⟨v, s, hi, hp.resp hg ht⟩) (GoS.lt_F hS) (fun V1 D cD hb hD hDn hcD => ?_)).mono (fun e w' hh => hh)
      have h1 := hS.below hb
      exact (dopen_ok h1 (by simp) ⟨by simp, fun i e h => by simp at h⟩ k (L : Int) (by omega) (by omega) rfl (by omega) (by omega) (by simp [sumD]; omega)).mono fun e w2 ⟨a, V2, b, d⟩ => ⟨a, ⟨V2, _, rfl, b⟩, d⟩
  · intro W D cD hE hU hD
    refine answer_yes E W hE hU (by omega) 0 0 (.slice D 0 cD) (L : Int) 2 0 (fun W2 hb2 hU2 => ?_)
    exact after_u E W2 (hE.below hb2) hU2 (by omega) 0 0 (.slice D 0 cD) (L : Int) (by omega) _ rfl
  · rintro es' rfl
    have he : EnU k L zs ⟨k, (L : Int), .slice none 0 0, [], false, 0⟩ 0 false := ⟨rfl, rfl, by rw [List.take_zero], by omega, rfl⟩
    exact ⟨⟨_, Nat.le_refl _, .b1 at' _ 0 he⟩, _, by omega, .c2 0 _ 0 he (Nat.le_refl _) (by omega)⟩
theorem ok_b1 (hL : 1 ≤ L ∧ L ≤ 600) (at' : Int) (e : Ds) (j : Nat) (he : EnU k L zs e j false) : OkU k L A c zs E g S B V [e] 1 at' (L + 3) := by
  refine ⟨0, at', (fun es => es = [e.used]), 1, 0, (L : Int), [], 0, 15, 0, [], 0, ⟨rfl, by omega, rfl, by omega, (fun _ h => nomatch h), by omega, by omega, ?_, ?_, ?_⟩, ?_⟩
  · exact fun W hU hA => (ask_1 W hU k A L c rfl rfl (by omega)).mono fun e w' ⟨h1, h2⟩ => ⟨none, 0, h1, SlRead.nil_, h2⟩
  · exact fun W hS Ar mA cr hr hmA hmc => by
      refine (dserve_open15 S Ar k 0 (L : Int) [] mA 0 cr  (F := dsG S V) (PM := fun W' => ∃ V' es', (fun es : List Ds => es = [e.used]) es' ∧ DsS W' S B 2000 1000 V' es') hr hmA rfl hmc (fun _ h => nomatch h) (by omega) (by omega) (by omega) (fun V1 V2 ⟨v, s, hi, hp⟩ hb => ⟨v, s, hi, hp.below hb⟩) (fun V1 V2 gg cs ⟨v, s, hi, hp⟩ hg _ ht => ⟨v, s, hi, hp.resp hg ht⟩) (GoS.lt_F hS) (fun V1 D cD hb hD hDn hcD => ?_)).mono (fun e w' hh => hh)
      have h1 := hS.below hb
      exact (dopen_open h1 (by simp) k (L : Int) (by omega) (by omega) he.is rfl).mono fun e w2 ⟨a, b, d⟩ => ⟨a, ⟨V, _, rfl, b⟩, d⟩
  · intro W D cD hE hU hD
    refine answer_yes E W hE hU (by omega) 15 0 (.slice D 0 cD) (L : Int) 0 at' (fun W2 hb2 hU2 => ?_)
    exact after_u E W2 (hE.below hb2) hU2 (by omega) 15 0 (.slice D 0 cD) (L : Int) (by omega) _ rfl
  · rintro es' rfl
    exact ⟨⟨_, Nat.le_refl _, .b1 at' _ j he.used⟩, _, by omega, .b0 at' _ j he.used⟩
theorem fill_at (j L : Nat) (h : j ≤ L) : fillN (j : Int) (L : Int) = some (if j = L then 3 else 2, (j : Int)) := by
  unfold fillN
  rw [if_neg (by omega)]
  by_cases h1 : j = L
  · rw [if_pos (by omega), if_pos h1]
  · rw [if_neg (by omega), if_neg h1]
theorem ok_b0 (hz : zs.length = L) (hL : 1 ≤ L ∧ L ≤ 600) (at' : Int) (e : Ds) (j : Nat) (he : EnU k L zs e j false) : OkU k L A c zs E g S B V [e] 0 at' (L + 2) := by
  have hj := he.2.2.2.1
  have hbl := he.len hz
  refine ⟨if j = L then 3 else 2, (j : Int), (fun es => es = [e.used]), 5, 0, 0, [], 0, 0, (j : Int), [0], 1, ⟨rfl, by omega, rfl, by omega, (fun x hx => by rw [List.mem_singleton.1 hx]; omega), by omega, by omega, ?_, ?_, ?_⟩, ?_⟩
  · exact fun W hU hA => (ask_0 W hU k A L c rfl rfl).mono fun e w' ⟨h1, h2⟩ => ⟨none, 0, h1, SlRead.nil_, h2⟩
  · exact fun W hS Ar mA cr hr hmA hmc => by
      refine (dserve_statF S Ar k 0 0 [] mA 0 cr (j : Int) (cvtU (j : Int) (by omega)) (F := dsG S V) (PM := fun W' => ∃ V' es', (fun es : List Ds => es = [e.used]) es' ∧ DsS W' S B 2000 1000 V' es') hr hmA rfl hmc (fun _ h => nomatch h) (by omega) (by omega) (by omega) (fun V1 V2 ⟨v, s, hi, hp⟩ hb => ⟨v, s, hi, hp.below hb⟩) (fun V1 V2 gg cs ⟨v, s, hi, hp⟩ hg _ ht => ⟨v, s, hi, hp.resp hg ht⟩) (GoS.lt_F hS) (fun V1 D cD hb hD hDn hcD => ?_)).mono (fun e w' hh => hh)
      have h1 := hS.below hb
      refine (dstat_some h1 (by simp) k he.is rfl).mono fun r w2 ⟨a, b, d⟩ => ⟨?_, ⟨V, _, rfl, b⟩, d⟩
      rw [a, hbl, he.2.2.2.2]
  · intro W D cD hE hU hD
    obtain ⟨b, o, rfl, _, hc⟩ := hD (by simp [ints])
    have hc0 : W.cell? ⟨b, o, none⟩ = some (.int .u8 0) := by have := hc 0 (.int .u8 0) (by simp [ints]); simpa using this
    refine answer_yes E W hE hU (by omega) 0 (j : Int) _ (L : Int) (if j = L then 3 else 2) (j : Int) (fun W2 hb2 hU2 => ?_)
    refine after0_u E W2 (hE.below hb2) hU2 0 (j : Int) _ (L : Int) (by omega) false (fun _ => ?_) _ ?_
    · exact DatF.below ⟨b, o, cD, rfl, hc0⟩ hb2
    · unfold nStat
      rw [if_pos rfl, if_neg Bool.false_ne_true, fill_at j L hj]
  · rintro es' rfl
    refine ⟨⟨_, Nat.le_refl _, .b0 at' _ j he.used⟩, ?_⟩
    by_cases h : j = L
    · rw [if_pos h]
      exact ⟨1, by omega, .d3 _ _ false (by rw [← h]; exact h ▸ he.used)⟩
    · rw [if_neg h]
      exact ⟨_, by omega, .c2 j _ j he.used (Nat.le_refl _) (by omega)⟩
theorem ok_d3 (hz : zs.length = L) (hL : 1 ≤ L ∧ L ≤ 600) (hk : k = shaOf zs) (at' : Int) (e : Ds) (d : Bool) (he : EnU k L zs e L d) : OkU k L A c zs E g S B V [e] 3 at' 1 := by
  have hbl := he.len hz
  have hall : e.bs = bys zs := by rw [he.2.2.1]; exact List.take_of_length_le (by rw [bys_length]; omega)
  refine ⟨5, at', (fun es => es = [⟨e.f, e.n, e.D, e.bs, true, 0⟩]), 3, 0, 0, [], 0, 0, 0, [], 0, ⟨rfl, by omega, rfl, by omega, (fun _ h => nomatch h), by omega, by omega, ?_, ?_, ?_⟩, ?_⟩
  · exact fun W hU hA => (ask_3 W hU k A L c rfl rfl).mono fun e w' ⟨h1, h2⟩ => ⟨none, 0, h1, SlRead.nil_, h2⟩
  · exact fun W hS Ar mA cr hr hmA hmc => by
      refine (dserve_commit S Ar k 0 0 [] mA 0 cr  (F := dsG S V) (PM := fun W' => ∃ V' es', (fun es : List Ds => es = [⟨e.f, e.n, e.D, e.bs, true, 0⟩]) es' ∧ DsS W' S B 2000 1000 V' es') hr hmA rfl hmc (fun _ h => nomatch h) (by omega) (by omega) (by omega) (fun V1 V2 ⟨v, s, hi, hp⟩ hb => ⟨v, s, hi, hp.below hb⟩) (fun V1 V2 gg cs ⟨v, s, hi, hp⟩ hg _ ht => ⟨v, s, hi, hp.resp hg ht⟩) (GoS.lt_F hS) (fun V1 D cD hb hD hDn hcD => ?_)).mono (fun e w' hh => hh)
      have h1 := hS.below hb
      cases hdn : d with
      | true =>
        have hd2 : e.done = true := by rw [he.2.2.2.2, hdn]
        refine (dcommit_done h1 (by simp) k he.is rfl hd2).mono fun r w2 ⟨a, b, d⟩ => ⟨a, ⟨V, _, rfl, ?_⟩, d⟩
        have e1 : [e].set 0 e.used = [⟨e.f, e.n, e.D, e.bs, true, 0⟩] := by simp [Ds.used, hd2]
        rw [← e1]; exact b
      | false => exact (dcommit_ok h1 (by simp) k he.is rfl (by rw [he.2.2.2.2, hdn]) zs hall (by rw [hbl, he.2.1]) (by omega) (by rw [← hk]; exact beq_self_eq_true _)).mono fun r w2 ⟨a, b, d⟩ => ⟨a, ⟨V, _, rfl, b⟩, d⟩
  · intro W D cD hE hU hD
    refine answer_yes E W hE hU (by omega) 0 0 (.slice D 0 cD) (L : Int) 5 at' (fun W2 hb2 hU2 => ?_)
    exact after_u E W2 (hE.below hb2) hU2 (by omega) 0 0 (.slice D 0 cD) (L : Int) (by omega) _ rfl
  · rintro es' rfl
    have he2 : EnU k L zs ⟨e.f, e.n, e.D, e.bs, true, 0⟩ L true := ⟨he.1, he.2.1, he.2.2.1, Nat.le_refl _, rfl⟩
    exact ⟨⟨_, Nat.le_refl _, .d3 at' _ true he2⟩, 0, by omega, .d5 at' _ he2⟩
theorem over_takeU (l : List Int) (j a m : Nat) (hj : j ≤ l.length) (haj : a ≤ j) (hm : a + m ≤ l.length) : overD (l.take j) a ((l.drop a).take m) = l.take (max j (a + m)) := by
  have hlen : ((l.drop a).take m).length = m := by rw [List.length_take, List.length_drop]; omega
  unfold overD
  rw [hlen, List.take_take, Nat.min_eq_left haj, ← List.take_add]
  rcases Nat.le_total j (a + m) with h | h
  · rw [Nat.max_eq_right h, List.drop_of_length_le (by rw [List.length_take]; omega), List.append_nil]
  · rw [Nat.max_eq_left h]
    rw [List.drop_take, ← List.take_add]
    congr 1
    omega
theorem ok_c2 (hz : zs.length = L) (hL : 1 ≤ L ∧ L ≤ 600) (hcL : L ≤ c) (a : Nat) (e : Ds) (j : Nat) (he : EnU k L zs e j false) (haj : a ≤ j) (haL : a < L) : OkU k L A c zs E g S B V [e] 2 (a : Int) (L - a + 1) := by
  have hj := he.2.2.2.1
  have hbl := he.len hz
  have hzl : (bys zs).length = L := by rw [bys_length]; exact hz
  obtain ⟨m, hm⟩ : ∃ m, m = min (L - a) 200 := ⟨_, rfl⟩
  have hm1 : 1 ≤ m ∧ m ≤ 200 ∧ a + m ≤ L := by omega
  have hyl : (((bys zs).drop a).take m).length = m := by rw [List.length_take, List.length_drop, hzl]; omega
  have hov : overD e.bs a (((bys zs).drop a).take m) = (bys zs).take (max j (a + m)) := by rw [he.2.2.1]; exact over_takeU _ j a m (by omega) haj (by omega)
  obtain ⟨j', hj'⟩ : ∃ x, x = max j (a + m) := ⟨_, rfl⟩
  rw [← hj'] at hov
  have hj2 : j' ≤ L ∧ a < j' := by omega
  have hol : ((bys zs).take j').length = j' := by rw [List.length_take, hzl]; omega
  refine ⟨if j' = L then 3 else 2, (j' : Int), (fun es => ∃ D, es = [⟨e.f, e.n, D, (bys zs).take j', false, 0⟩]), 2, (a : Int), 0, ((bys zs).drop a).take m, m, 0, (j' : Int), [], 0, ⟨hyl, by omega, rfl, by omega, (fun _ h => nomatch h), by omega, by omega, ?_, ?_, ?_⟩, ?_⟩
  · intro W hU hA
    refine (ask_2 W g (a : Int) 0 0 hU k A L c (((bys zs).drop a).take m) rfl (by omega) (fun W2 hb2 => ?_)).mono ?_
    · refine (part_yes A (bys zs) L c a hzl.symm (by omega) hcL (by omega) W2 (hA.below hb2)).mono ?_
      rintro r w' ⟨v, rfl, hown, hb⟩
      rw [← hm] at hown
      obtain ⟨Av, cv, rfl, _, _, hblk⟩ := own_slice hown
      exact ⟨Av, m, cv, rfl, hyl.symm, own_read hown, fun x hx => (hblk x hx).1, hb⟩
    · rintro r w' ⟨D, l, cD, rfl, hl, hD, hb⟩
      rw [hyl] at hl
      subst hl
      exact ⟨D, cD, rfl, hD, hb⟩
  · exact fun W hS Ar mA cr hr hmA hmc => by
      refine (dserve_put S Ar k (a : Int) 0 (((bys zs).drop a).take m) mA m cr (j' : Int) (cvtU (j' : Int) (by omega)) (F := dsG S V) (PM := fun W' => ∃ V' es', (fun es : List Ds => ∃ D, es = [⟨e.f, e.n, D, (bys zs).take j', false, 0⟩]) es' ∧ DsS W' S B 2000 1000 V' es') hr hmA hyl hmc ((bys_bytsU zs).rest a |>.cut m) (by omega) (by omega) (by omega) (fun V1 V2 ⟨v, s, hi, hp⟩ hb => ⟨v, s, hi, hp.below hb⟩) (fun V1 V2 gg cs ⟨v, s, hi, hp⟩ hg _ ht => ⟨v, s, hi, hp.resp hg ht⟩) (GoS.lt_F hS) (fun V1 D cD hb hD hDn hcD => ?_)).mono (fun e w' hh => hh)
      have h1 := hS.below hb
      have hen := he.2.1
      refine (dput_ok h1 (by simp) k he.is rfl he.2.2.2.2 a D (((bys zs).drop a).take m) m cD hyl hD (fun _ x hx y => by have h2 := hDn x hx; have h3 := GoS.lt_F hS _ y; omega) (by omega) (by omega) (by omega) (by omega)).mono ?_
      rintro r w2 ⟨hr2, D', hs2, ht2⟩
      rw [hov, hol] at hr2
      rw [hov] at hs2
      exact ⟨hr2, ⟨V, _, ⟨D', rfl⟩, hs2⟩, ht2⟩
  · intro W D cD hE hU hD
    refine answer_yes E W hE hU (by omega) 0 (j' : Int) (.slice D 0 cD) (L : Int) (if j' = L then 3 else 2) (j' : Int) (fun W2 hb2 hU2 => ?_)
    refine after_u E W2 (hE.below hb2) hU2 (by omega) 0 (j' : Int) (.slice D 0 cD) (L : Int) (by omega) _ ?_
    have e1 : nAfter 2 (a : Int) (L : Int) 0 (j' : Int) = fillN (j' : Int) (L : Int) := rfl
    rw [e1, fill_at j' L hj2.1]
  · rintro es' ⟨D, rfl⟩
    have he2 : EnU k L zs ⟨e.f, e.n, D, (bys zs).take j', false, 0⟩ j' false := ⟨he.1, he.2.1, rfl, hj2.1, rfl⟩
    refine ⟨⟨_, Nat.le_refl _, .c2 a _ j' he2 (by omega) haL⟩, ?_⟩
    by_cases h : j' = L
    · rw [if_pos h]
      exact ⟨1, by omega, .d3 _ _ false (by rw [h] at he2; exact h ▸ he2)⟩
    · rw [if_neg h]
      exact ⟨_, by omega, .c2 j' _ j' he2 (Nat.le_refl _) (by omega)⟩
theorem ok_all (hz : zs.length = L) (hL : 1 ≤ L ∧ L ≤ 600) (hcL : L ≤ c) (hk : k = shaOf zs) {ph at' : Int} {es : List Ds} {pot : Nat} (h : GoI k L zs ph at' es pot) (h5 : ph ≠ 5) : OkU k L A c zs E g S B V es ph at' pot := by
  cases h with
  | a0 => exact ok_a0 k L A c zs E g S B V at'
  | a1 => exact ok_a1 k L A c zs E g S B V hL at'
  | b1 _ e j he => exact ok_b1 k L A c zs E g S B V hL at' e j he
  | b0 _ e j he => exact ok_b0 k L A c zs E g S B V hz hL at' e j he
  | c2 a e j he haj haL => exact ok_c2 k L A c zs E g S B V hz hL hcL a e j he haj haL
  | d3 _ e d he => exact ok_d3 k L A c zs E g S B V hz hL hk at' e d he
  | d5 => exact absurd rfl h5
end
def fileU (z : Int) (L : Nat) : List (BitVec 8) := (fileL z L).map UInt8.toBitVec
theorem fileU_len (z : Int) (L : Nat) : (fileU z L).length = L := by simp [fileU, fileL_len]
theorem n8_uU (u : UInt8) : cellB u = .int .u8 (n8 u.toBitVec) := by
  unfold cellB
  rw [n8N]
  rfl
theorem fileU_cells (z : Int) (L : Nat) : bcells (fileL z L) = ints .u8 (bys (fileU z L)) := by
  unfold bcells fileU
  rw [bys_ints, List.map_map]
  exact List.map_congr_left fun u _ => n8_uU u
theorem num_b (x n z : Int) (w : World) (hn : 0 < n ∧ n ≤ 4611686018427387904) (hz : x % n = z) : Calls Tryz.prog 5 #[.int .i64 x, .int .i64 n] w fun e w' => e = .returned (.int .i64 z) ∧ Below w.heap.size w w' := by
  subst hz
  refine (number_any x n w hn).mono ?_
  rintro e w' ⟨rfl, k, rfl⟩
  exact ⟨rfl, Below.drewNr k⟩
set_option maxRecDepth 100000 in
set_option maxHeartbeats 12800000 in
theorem upgoes_walk (E : Nat → Addr) (size : Int) (Al : Option Addr) (bl : List Bool) (nl cl : Nat) (w : World) (hE : ErrsAt E w) (hnl : bl.length = nl) (hlr : SlRead w Al (bl.map Value.bool)) :
    Calls Tryz.prog 3 #[.int .i64 size, .slice Al nl cl] w fun e w' => e = .returned (.bool true) ∧ Below w.heap.size w w' := by
  have HC := first_any w
  by_cases h20 : 20 < nl
  · have h20' : (20 : Int) < (nl : Int) := by omega
    clear hE hlr hnl
    go_enter Tryz.func3, Tryz.ntmps3
    go_wp2_with fail
    refine HC.mono ?_
    rintro e V1 ⟨rfl, hb1⟩
    go_wp2_with fail
    go_ret
    exact ⟨rfl, hb1⟩
  have h20' : ¬ (20 : Int) < (nl : Int) := by omega
  obtain ⟨L, hL⟩ : ∃ L : Nat, size % 600 = (L : Int) - 1 := ⟨(size % 600 + 1).toNat, by have := Int.emod_nonneg size (show (600 : Int) ≠ 0 by decide); omega⟩
  have hL1 : 1 ≤ L ∧ L ≤ 600 := by have h1 := Int.emod_nonneg size (show (600 : Int) ≠ 0 by decide); have h2 := Int.emod_lt_of_pos size (show (0 : Int) < 600 by decide); omega
  have HN := fun w => num_b size 600 ((L : Int) - 1) w (by decide) hL
  have hw1 : wrap64 ((L : Int) - 1 + 1) = (L : Int) := by unfold wrap64; omega
  clear hL
  go_enter Tryz.func3, Tryz.ntmps3
  go_wp2_with fail
  refine HC.mono ?_
  rintro e V1 ⟨rfl, hb1⟩
  clear HC
  have HC := HN V1
  clear HN
  go_wp2_with fail
  refine HC.mono ?_
  rintro e V2 ⟨rfl, hb2⟩
  have hb := hb1.trans (hb2.mono hb1.size)
  clear HC hb1 hb2
  have HC := file_any (L : Int) L (by omega) V2
  go_upto_region 7 with (fail)
  clear hw1
  go_wp2_with fail
  refine HC.mono ?_
  rintro e V3 ⟨A, c, rfl, hown, hb3⟩
  obtain ⟨_, _, hce, hcL, _⟩ := own_slice hown
  cases hce
  have HCL := Lib.hid hcL
  clear hcL
  obtain ⟨zs, hzs⟩ : ∃ zs, zs = fileU (L : Int) L := ⟨_, rfl⟩
  have hzl : zs.length = L := by rw [hzs]; exact fileU_len _ L
  have hA : SlRead V3 A (ints .u8 (bys zs)) := by rw [hzs, ← fileU_cells]; exact SlRead.of_own hown
  replace hb := hb.trans (hb3.mono hb.size)
  have HZ := Lib.hid hzl
  clear HC hown hb3 hzs
  have HC := dsum_any A zs c V3 hA (by omega)
  rw [hzl] at HC
  clear hzl
  go_wp2_with fail
  refine HC.mono ?_
  rintro e V4 ⟨rfl, hb4⟩
  replace hA := hA.below hb4
  replace hb := hb.trans (hb4.mono hb.size)
  clear HC hb4
  obtain ⟨k, hk⟩ : ∃ k, k = shaOf zs := ⟨_, rfl⟩
  rw [← hk]
  have HKK := Lib.hid hk
  clear hk
  have hinf : (Tryz.prog.info? 28).map (·.size) = some (arr8 32 k).size := by simp only [arr8_size]; kernel_rfl
  go_upto_region 9 with (refine wpList_store_row rfl 28 _ _ rfl V4.heap.size (arr8 32 k) rfl rfl _ _ (heap_alloc_new _ _) hinf (by simp only [arr8_size]; kernel_rfl) (arr8_one _ _) ?_)
  obtain ⟨b7, hb7⟩ : ∃ b, b = V4.heap.size := ⟨_, rfl⟩
  refine wp_world (fun V => Below w.heap.size w V ∧ SlRead V A (ints .u8 (bys zs)) ∧ V.heap[b7]? = some (.cells (arr8 32 k) 28 (0, 0))) ?_ ?_
  · rw [alloc_setRow, hb7]
    have hbb := below_alc V4 (.cells (arr8 32 k) 28)
    exact ⟨hb.trans (hbb.mono hb.size), hA.below hbb, heap1_0 _ _⟩
  rw [← hb7]
  clear hb hA hb7 hinf
  rintro w0 ⟨hb, hA, h7⟩
  have HC := dnew 2000 1000 (by omega) w0
  go_wp2_with fail
  refine HC.mono ?_
  rintro e V6 ⟨rfl, hs6, hb6⟩
  obtain ⟨S, hS⟩ : ∃ S, S = w0.heap.size := ⟨_, rfl⟩
  go_upto_region 11 with (fail)
  obtain ⟨g, hg⟩ : ∃ b, b = V6.heap.size := ⟨_, rfl⟩
  refine wp_world (fun V => Below w0.heap.size w0 V ∧ DsS V S w0.heap.size 2000 1000 (.slice none 0 0) [] ∧ UpH V g 0 0 0 0) ?_ ?_
  · have hbT := below_alc V6 (.cells (uv 0 0 0 0) 35)
    rw [hg, hS]
    exact ⟨hb6.trans (hbT.mono hb6.size), hs6.below hbT, heap1_0 _ _⟩
  rw [← hg, ← hS]
  have hgl : w0.heap.size ≤ g := by rw [hg]; exact hb6.size
  clear HC hs6 hb6 hg
  rintro V7 ⟨hbV, hdV, huV⟩
  have HW : Hid (Below w0.heap.size w0 V7 ∧ DsS V7 S w0.heap.size 2000 1000 (.slice none 0 0) [] ∧ UpH V7 g 0 0 0 0) := Lib.hid (by rw [← hS]; exact ⟨hbV, hdV, huV⟩)
  clear hS
  have HO := Lib.hid (And.intro hb (And.intro hA (And.intro h7 (And.intro (hE.below hb) (hlr.below hb)))))
  clear hbV hdV huV hb hA h7 hE hlr
  go_wp2_with fail
  go_loopw [10] (fun i wr => ∃ (n : Nat) (V : Value) (es : List Ds) (ph at' : Int) (pot : Nat), i = .int .i64 (n : Int) ∧ Below w0.heap.size w0 wr ∧ DsS wr S w0.heap.size 2000 1000 V es ∧ UpH wr g ph at' 0 0 ∧ GoI k L zs ph at' es pot ∧ n + pot ≤ L + 4 + min n nl) (fun i _ => 2000 - (intOf i).toNat)
  case atStart => exact ⟨0, _, [], 0, 0, L + 4, rfl, HW.out.1, HW.out.2.1, HW.out.2.2, .a0 0, by omega⟩
  clear HW
  case round =>
    obtain ⟨n, V, es, ph, at', pot, rfl, hbr, hdr, hur, hgo, hpot⟩ := hrel
    have hn2 : (n : Int) < 2000 := by omega
    have h7r := heap_below HO.out.2.2.1 hbr
    have c0 := hur.c0
    by_cases h5 : ph = 5
    · obtain ⟨e, he, rfl⟩ : ∃ e, EnU k L zs e L true ∧ es = [e] := by
        cases hgo with
        | d5 _ e he => exact ⟨e, he, rfl⟩
        | a0 => exact absurd h5 (by decide)
        | a1 => exact absurd h5 (by decide)
        | b1 => exact absurd h5 (by decide)
        | b0 => exact absurd h5 (by decide)
        | c2 => exact absurd h5 (by decide)
        | d3 => exact absurd h5 (by decide)
      subst h5
      have HC := dstat_some hdr (by simp) k he.is rfl
      rw [he.len HZ.out, he.2.2.2.2] at HC
      have HB := Lib.hid hbr
      have HSl := Lib.hid (fun y => GoS.lt_F hdr y)
      have HLo : Hid (∀ y, dsG S V y → w0.heap.size ≤ y) := Lib.hid fun y hy => (hdr.lt (by rcases hy with h1 | h1; exact .inl h1; exact .inr (.inl h1))).1
      clear hgo hpot hdr hur hbr he
      go_wp2_with (refine wpList_load_row rfl 28 _ rfl b7 rfl _ _ _ _ h7r Tryz.underlying28 rfl (by simp only [arr8_size]; kernel_rfl) ?_)
      refine HC.mono ?_
      rintro r W1 ⟨rfl, _, ht⟩
      clear HC c0 h7r
      go_wp2_with fail
      go_ret
      have hbf := ht.below HB.out HB.out.size HLo.out
      exact ⟨rfl, HO.out.1.trans (hbf.mono HO.out.1.size)⟩
    · obtain ⟨p, q, IP, op, off, n', ys, l, code, nres, ds, ld, hst, hnx⟩ := ok_all k L A c zs E g S w0.heap.size V HZ.out hL1 HCL.out HKK.out hgo h5
      have h5d : decide (ph = 5) = false := decide_eq_false h5
      have HA := hst.ask wr hur (HO.out.2.1.below hbr)
      have HR := Lib.hid (And.intro hbr (And.intro hdr hur))
      clear hbr hdr hur hgo
      go_wp2_with (refine wpList_load_row rfl 28 _ rfl b7 rfl _ _ _ _ h7r Tryz.underlying28 rfl (by simp only [arr8_size]; kernel_rfl) ?_)
      refine HA.mono ?_
      rintro r W1 ⟨D, cD, rfl, hD, hb1⟩
      clear HA c0 h7r h5d
      go_upto_region 18 with (refine wpList_store_row rfl 40 _ _ rfl W1.heap.size (rqA op k off n' (.slice D l cD)) rfl rfl _ _ (heap_alloc_new _ _) (rq_info _ _ _ _ _) (by kernel_rfl) (rq_one _ _ _ _ _ _ _) ?_)
      refine wp_world (fun W => Below wr.heap.size wr W ∧ (∃ Q, W.heap[Q]? = some (.cells (rqA op k off n' (.slice D l cD)) 40 (0, 0)) ∧ Q = W1.heap.size) ∧ SlRead W D (ints .u8 ys)) ?_ ?_
      · rw [alloc_setRow]
        have hbb := below_alc W1 (.cells (rqA op k off n' (.slice D l cD)) 40)
        exact ⟨hb1.trans (hbb.mono hb1.size), ⟨_, heap1_0 _ _, rfl⟩, hD.below hbb⟩
      clear hD
      rintro W2 ⟨hb2, ⟨Q, hQ, hQe⟩, hD2⟩
      rw [← hQe]
      have HB2 := Lib.hid (And.intro hb2 (Nat.le_refl W2.heap.size))
      have HC1 := dreq_wD op k off n' D ys l cD (45 + ys.length) W2 hD2 hst.hl rfl (by have := hst.hl2; omega)
      clear hb1 hQe hb2 hD2
      try simp only [put_none]
      go_wp2_with (refine wpList_load_row rfl 40 _ rfl Q rfl _ _ _ _ hQ Tryz.underlying40 rfl (rq_info _ _ _ _ _) ?_)
      refine HC1.mono ?_
      rintro e W3 ⟨Ar, cr, rfl, hAr, hmc, hb3⟩
      have hb23 := HB2.out.1.trans (hb3.mono HB2.out.1.size)
      have hd3 := HR.out.2.1.below hb23
      have HC2 := hst.serve W3 hd3 Ar _ cr hAr rfl hmc
      have HL3 := Lib.hid (And.intro (HR.out.1.trans (hb23.mono HR.out.1.size)) (And.intro hd3 (HR.out.2.2.below hb23)))
      clear HC1 hb3 hb23 hd3 hAr hmc hQ HB2
      go_wp2_with fail
      refine HC2.mono ?_
      rintro e W4 ⟨Bq, cb, rfl, hBq, hcb, ⟨V', es', hip, hd4⟩, ht4⟩
      have hlo : ∀ y, dsG S V y → w0.heap.size ≤ y := fun y hy => (HL3.out.2.1.lt (by rcases hy with h1 | h1; exact .inl h1; exact .inr (.inl h1))).1
      have hb4 := ht4.below HL3.out.1 HL3.out.1.size hlo
      have hu4 := HL3.out.2.2.turn ht4 (fun hy => HL3.out.2.1.not HL3.out.2.2 (by decide) (by decide) (by decide) (by rcases hy with h1 | h1; exact .inl h1; exact .inr (.inl h1)))
      have HC3 := rsp_yesD E Bq code nres ds (9 + ld) ld cb W4 hBq (by rw [hst.hd]) hst.hd hst.hdb hst.hd2 (HO.out.2.2.2.1.below hb4) hst.hc hst.hn
      have H4 := Lib.hid (And.intro hb4 (And.intro hd4 hu4))
      clear HC2 hlo hb4 hu4 hd4 ht4 hBq hcb HL3
      go_wp2_with fail
      refine HC3.mono ?_
      rintro e W5 ⟨B5, c5, rfl, hB5, _, _, hb5⟩
      clear HC3
      go_upto_region 21 with (refine wpList_store_row rfl 44 _ _ rfl W5.heap.size (rsA code nres (.slice B5 ld c5)) rfl rfl _ _ (heap_alloc_new _ _) (rs_info _ _ _) (by kernel_rfl) (rs_one _ _ _ _ _) ?_)
      refine wp_world (fun W => Below W4.heap.size W4 W ∧ (∃ Rb, W.heap[Rb]? = some (.cells (rsA code nres (.slice B5 ld c5)) 44 (0, 0)) ∧ Rb = W5.heap.size) ∧ SlRead W B5 (ints .u8 ds)) ?_ ?_
      · rw [alloc_setRow]
        have hbb := below_alc W5 (.cells (rsA code nres (.slice B5 ld c5)) 44)
        exact ⟨hb5.trans (hbb.mono hb5.size), ⟨_, heap1_0 _ _, rfl⟩, hB5.below hbb⟩
      clear hB5
      rintro W6 ⟨hb46, ⟨Rb, hRb, hRe⟩, hB6⟩
      rw [← hRe]
      have hb6 := H4.out.1.trans (hb46.mono H4.out.1.size)
      have hd6 := H4.out.2.1.below hb46
      have hu6 := H4.out.2.2.below hb46
      have hE6 := HO.out.2.2.2.1.below hb6
      have hl6 := HO.out.2.2.2.2.below hb6
      clear hb5 hRe hb46 H4 HR
      try simp only [put_none]
      by_cases hnn : n < nl
      · have hnI : (n : Int) < (nl : Int) := Int.ofNat_lt.2 hnn
        obtain ⟨lb, lo, rfl, hll, hlc⟩ := hl6 (by rw [List.length_map, hnl]; omega)
        obtain ⟨bb, hbb⟩ : ∃ b, bl[n]? = some b := ⟨bl[n]'(by omega), List.getElem?_eq_getElem _⟩
        have hcb := hlc n (.bool bb) (by rw [List.getElem?_map, hbb]; rfl)
        have HH := Lib.hid (And.intro hE6 (And.intro hb6 (And.intro hd6 (And.intro hu6 (And.intro hRb hB6)))))
        clear hE6 hb6 hd6 hu6 hRb hB6 hlc hll hbb hl6
        cases bb with
        | true =>
          go_wp2_with fail
          obtain ⟨⟨n1, hn1, hg1⟩, _⟩ := hnx es' hip
          refine ⟨⟨n + 1, V', es', ph, at', n1, by go_num, HH.out.2.1, HH.out.2.2.1, HH.out.2.2.2.1, hg1, by omega⟩, ?_⟩
          clear HH hst hnx hip hg1
          simp [intOf]
          omega
        | false =>
          go_upto_region 24 with (fail)
          obtain ⟨hE6, hb6, hd6, hu6, hRb, hB6⟩ := HH.out
          clear HH hcb
          have HC4 := hst.answer W6 B5 c5 hE6 hu6 hB6
          clear hE6
          go_wp2_with (refine wpList_load_row rfl 44 _ rfl Rb rfl _ _ _ _ hRb Tryz.underlying44 rfl (rs_info _ _ _) ?_)
          refine HC4.mono ?_
          rintro e W7 ⟨rfl, hu7, ht7⟩
          have hs7 := hd6.turn ht7 (fun y hy e => hd6.not hu6 (by decide) (by decide) (by decide) (by rw [← show y = g from e]; exact hy))
          have hb7 := ht7.below hb6 hb6.size (fun y e => by rw [show y = g from e]; exact hgl)
          have HF := Lib.hid (And.intro hb7 (And.intro hs7 hu7))
          clear HC4 hs7 hb7 ht7 hu7 hRb hB6 hd6 hb6 hu6
          go_wp2_with fail
          obtain ⟨_, n2, hn2, hg2⟩ := hnx es' hip
          refine ⟨⟨n + 1, V', es', p, q, n2, by go_num, HF.out.1, HF.out.2.1, HF.out.2.2, hg2, by omega⟩, ?_⟩
          clear HF hst hnx hip hg2
          simp [intOf]
          omega
      · have hnI : ¬ (n : Int) < (nl : Int) := fun y => hnn (Int.ofNat_lt.1 y)
        have HH := Lib.hid (And.intro hE6 (And.intro hb6 (And.intro hd6 (And.intro hu6 (And.intro hRb hB6)))))
        clear hE6 hb6 hd6 hu6 hRb hB6 hl6
        go_upto_region 24 with (fail)
        obtain ⟨hE6, hb6, hd6, hu6, hRb, hB6⟩ := HH.out
        clear HH
        have HC4 := hst.answer W6 B5 c5 hE6 hu6 hB6
        clear hE6
        go_wp2_with (refine wpList_load_row rfl 44 _ rfl Rb rfl _ _ _ _ hRb Tryz.underlying44 rfl (rs_info _ _ _) ?_)
        refine HC4.mono ?_
        rintro e W7 ⟨rfl, hu7, ht7⟩
        have hs7 := hd6.turn ht7 (fun y hy e => hd6.not hu6 (by decide) (by decide) (by decide) (by rw [← show y = g from e]; exact hy))
        have hb7 := ht7.below hb6 hb6.size (fun y e => by rw [show y = g from e]; exact hgl)
        have HF := Lib.hid (And.intro hb7 (And.intro hs7 hu7))
        clear HC4 hs7 hb7 ht7 hu7 hRb hB6 hd6 hb6 hu6
        go_wp2_with fail
        obtain ⟨_, n2, hn2, hg2⟩ := hnx es' hip
        refine ⟨⟨n + 1, V', es', p, q, n2, by go_num, HF.out.1, HF.out.2.1, HF.out.2.2, hg2, by omega⟩, ?_⟩
        clear HF hst hnx hip hg2
        simp [intOf]
        omega
end Go.Proofs.YtffkjbbhbpaacaaGreatDoor
