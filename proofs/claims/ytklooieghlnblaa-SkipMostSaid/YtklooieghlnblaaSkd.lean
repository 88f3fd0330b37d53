import Derived.Test.YtklooieghlnblaaSkc
import Derived.Deep.RegionLaw
import Derived.Lib.SliceRun
/-
  skip: slices.Delete of one entry.
-/
namespace Go.Proofs.Ytklooieghlnblaa
open Go.RowKit

theorem step_append_row {P : Program} {ops : Array Oper} {o : Oper} {a : Act} {w : World} {K : Act → World → Prop} {Q : Exit → Act → World → Prop} {E : Prop}
    (hg : o.guard = none) (s x : Operand) (t : TypeId) (hop : o.op = Op.call { callee := Callee.builtin Builtin.append, args := #[s, x], argTypes := #[t, t] })
    (e : TypeId) (i : TypeInfo) (size : Nat) (h1 : P.underlying t = some (.slice e)) (h2 : P.info? e = some i) (h4 : i.size = size)
    (b n cap : Nat) (hs : a.eval s = .slice (some ⟨b, 0, none⟩) n cap) (cur : Array Value) (hcur : w.heap[b]? = some (.cells cur e (0, 0)))
    (ad : Addr) (m c : Nat) (news : List Value) (hx : a.eval x = .slice (some ad) m c) (hn : news.length = m * size) (hc : ∀ j u, news[j]? = some u → w.cell? (ad.add j) = some u) (h1c : ∀ u ∈ news, u.oneCell' = true)
    (hroom : n + m ≤ cap) (hfit : n * size + news.length ≤ cur.size)
    (hK : K (a.put o.dst (.slice (some ⟨b, 0, none⟩) (n + m) cap)) (w.setRow b (cur.toList.take (n * size) ++ news ++ cur.toList.drop (n * size + news.length)).toArray)) :
    if Region.wanted o (yielded ops a.tmps) = true then Oper.wp P o a w K Q else E := by
  have hw : Region.wanted o (yielded ops a.tmps) = true := by simp [Region.wanted, hg]
  rw [if_pos hw]
  subst h4
  have hrun := run_append_room (P := P) w t o.type e i h1 h2 b n cap cur hcur ad m c news hn hc h1c hroom hfit
  generalize (cur.toList.take (n * i.size) ++ news ++ cur.toList.drop (n * i.size + news.length)).toArray = cs at hrun hK
  unfold Oper.wp
  simp [execOp, hop, resolve, invoke, builtin, hs, hx, hrun, Result.andThen]
  exact hK

def zeroE : List Value := (default : Ent).ce
theorem zero_E (w : World) : (zeroValue 46).run Try.prog w = .ok (.agg zeroE.toArray) w := by kernel_rfl
theorem ceT_one (d k : List UInt8) (n : Int) : ∀ v ∈ ceT d k n, v.oneCell' = true := by
  intro v hv
  simp only [ceT, List.mem_append, List.mem_map, List.mem_singleton] at hv
  rcases hv with ⟨b, _, rfl⟩ | ⟨b, _, rfl⟩ | rfl <;> rfl
theorem cells_one (es : List Ent) : ∀ v ∈ cells es, v.oneCell' = true := by
  intro v hv
  obtain ⟨e, _, he⟩ := List.mem_flatMap.1 hv
  exact ceT_one _ _ _ v he
theorem cells_app (a b : List Ent) : cells (a ++ b) = cells a ++ cells b := by simp [cells]
theorem cells_take (es : List Ent) (i : Nat) : cells (es.take i) = (cells es).take (i * 65) := by
  rcases Nat.lt_or_ge i es.length with h | h
  · have e : cells es = cells (es.take i) ++ cells (es.drop i) := by rw [← cells_app, List.take_append_drop]
    rw [e, List.take_left' (by rw [cells_len]; simp; omega)]
  · rw [List.take_of_length_le h, List.take_of_length_le (by rw [cells_len]; omega)]
theorem cells_drop (es : List Ent) (i : Nat) : cells (es.drop i) = (cells es).drop (i * 65) := by
  rcases Nat.lt_or_ge i es.length with h | h
  · have e : cells es = cells (es.take i) ++ cells (es.drop i) := by rw [← cells_app, List.take_append_drop]
    rw [e, List.drop_left' (by rw [cells_len]; simp; omega)]
  · rw [List.drop_of_length_le h, List.drop_of_length_le (by rw [cells_len]; omega)]
    rfl
theorem clear_E (w : World) (ty : TypeId) (g o c : Nat) (cur : Array Value) (hg : w.heap[g]? = some (.cells cur 46 (0, 0))) (hfit : o + 65 ≤ cur.size) :
    (Builtin.clear_ #[24] ty #[.slice (some ⟨g, o, none⟩) 1 c]).run Try.prog w = .ok (.tuple #[]) (w.setRow g (cur.toList.take o ++ zeroE ++ cur.toList.drop (o + 65)).toArray) := by
  have hzc : (Builtin.zeroCells (Value.agg zeroE.toArray).cells 1).toList = zeroE := by
    show (Builtin.zeroCells zeroE.toArray 1).toList = zeroE
    kernel_rfl
  have hl : zeroE.length = 65 := Ent.ce_len _
  have hst := run_storeCells_at Try.prog g o 46 zeroE 0 cur w hg (by rw [hl]; simpa using hfit) (ceT_one _ _ _)
  simp only [Nat.add_zero, hl] at hst
  have hu := Try.underlying24
  simp [Builtin.clear_, run_underlying hu, zero_E, hzc, hst]

theorem size_E (w : World) : (sizeOf 46).run Try.prog w = .ok 65 w := by kernel_rfl
set_option maxHeartbeats 4000000 in
set_option maxRecDepth 1000000 in
theorem delete_any (es : List Ent) (i base g c : Nat) (w : World) (hi : i < es.length) (hn : es.length ≤ 1000) (hown : w.ownsRow base 46 65 (.slice (some ⟨g, 0, none⟩) es.length c) es.length (cells es)) :
    Calls Try.prog 25 #[.slice (some ⟨g, 0, none⟩) es.length c, .int .i64 i, .int .i64 ((i : Int) + 1)] w fun e w' => e = .returned (.slice (some ⟨g, 0, none⟩) (es.length - 1) c) ∧ w'.ownsRow base 46 65 (.slice (some ⟨g, 0, none⟩) (es.length - 1) c) (es.length - 1) (cells (es.eraseIdx i)) ∧ w.grownBy w' (some g) := by
  obtain ⟨g', c', cur, hv, hbg, hcur, hnc, hcm, hcs, htk⟩ : ∃ g' c' cur, Value.slice (some ⟨g, 0, none⟩) es.length c = .slice (some ⟨g', 0, none⟩) es.length c' ∧ base ≤ g' ∧ w.heap[g']? = some (.cells cur 46 (0, 0)) ∧ es.length ≤ c' ∧ c' ≤ maxLen ∧ cur.size = c' * 65 ∧ cur.toList.take (es.length * 65) = cells es := by
    rcases hown.2 with ⟨h, _⟩ | h
    · cases h
    · exact h
  clear hown
  simp only [Value.slice.injEq, Option.some.injEq, Addr.mk.injEq, and_true, true_and] at hv
  obtain ⟨rfl, rfl⟩ := hv
  unfold maxLen at hcm
  obtain ⟨inf, hinf, hsz⟩ := Option.map_eq_some_iff.1 (show (Try.prog.info? 46).map (·.size) = some 65 by kernel_rfl)
  obtain ⟨news, hnews⟩ : ∃ news, news = cells (es.drop (i + 1)) := ⟨_, rfl⟩
  have hlen : news.length = (es.length - (i + 1)) * 65 := by rw [hnews, cells_len]; simp
  have hone : Hid (∀ u ∈ news, u.oneCell' = true) := by rw [hnews]; exact cells_one _
  have hclen : cur.toList.length = c * 65 := by rw [Array.length_toList]; exact hcs
  obtain ⟨A, hA, hsrc⟩ : ∃ A : Addr, (if c = i + 1 then (some (⟨g, 0, none⟩ : Addr)) else some ⟨g, (i + 1) * 65, none⟩) = some A ∧ Hid (∀ t u, news[t]? = some u → w.drew.cell? (A.add t) = some u) := by
    by_cases h : c = i + 1
    · refine ⟨⟨g, 0, none⟩, by simp [h], fun t u hu => ?_⟩
      have h0 : news.length = 0 := by rw [hlen]; omega
      rw [List.length_eq_zero_iff.1 h0] at hu
      simp at hu
    · refine ⟨⟨g, (i + 1) * 65, none⟩, by simp [h], fun t u hu => ?_⟩
      have ht : t < news.length := (List.getElem?_eq_some_iff.1 hu).1
      rw [hnews, cells_drop, ← htk, List.getElem?_drop, List.getElem?_take, if_pos (by omega)] at hu
      rw [Addr.add_lit]
      show w.cell? _ = _
      rw [cell_of_row w g _ cur _ _ hcur]
      simpa using hu
  -- the worlds
  obtain ⟨cur1, hcur1⟩ : ∃ cur1, cur1 = (cur.toList.take (i * 65) ++ news ++ cur.toList.drop (i * 65 + news.length)).toArray := ⟨_, rfl⟩
  have hl1 : cur1.size = cur.size := by
    rw [hcur1]
    simp only [List.size_toArray, List.length_append, List.length_take, List.length_drop, Array.length_toList]
    omega
  obtain ⟨W1, hW1⟩ : ∃ W1, W1 = w.drew.setRow g cur1 := ⟨_, rfl⟩
  have hg1 : W1.heap[g]? = some (.cells cur1 46 (0, 0)) := by rw [hW1]; exact setRow_heap w.drew g cur _ _ _ hcur
  obtain ⟨cur2, hcur2⟩ : ∃ cur2, cur2 = (cur1.toList.take ((es.length - 1) * 65) ++ zeroE ++ cur1.toList.drop ((es.length - 1) * 65 + 65)).toArray := ⟨_, rfl⟩
  have hl2 : cur2.size = cur.size := by
    rw [hcur2]
    simp only [List.size_toArray, List.length_append, List.length_take, List.length_drop, Array.length_toList, hl1]
    rw [show zeroE.length = 65 from Ent.ce_len _]
    omega
  obtain ⟨W2, hW2⟩ : ∃ W2, W2 = W1.setRow g cur2 := ⟨_, rfl⟩
  have hg2 : W2.heap[g]? = some (.cells cur2 46 (0, 0)) := by rw [hW2]; exact setRow_heap W1 g cur1 _ _ _ hg1
  have hcl : ∀ ty, (Builtin.clear_ #[24] ty #[.slice (some ⟨g, (i + (es.length - (i + 1))) * 65, none⟩) (es.length - (i + (es.length - (i + 1)))) (c - (i + (es.length - (i + 1))))]).run Try.prog W1 = .ok (.tuple #[]) W2 := by
    intro ty
    rw [show i + (es.length - (i + 1)) = es.length - 1 by omega, show es.length - (es.length - 1) = 1 by omega, clear_E W1 ty g _ _ cur1 hg1 (by omega), hW2, hcur2]
  have HW2 : Hid (W2.ownsRow base 46 65 (.slice (some ⟨g, 0, none⟩) (es.length - 1) c) (es.length - 1) (cells (es.eraseIdx i)) ∧ w.grownBy W2 (some g)) := by
    constructor
    · refine ⟨by rw [cells_len, List.length_eraseIdx_of_lt hi], .inr ⟨g, c, cur2, rfl, hbg, hg2, by omega, hcm, by rw [hl2, hcs], ?_⟩⟩
      have e1 : cur2.toList.take ((es.length - 1) * 65) = cur1.toList.take ((es.length - 1) * 65) := by
        rw [hcur2, List.append_assoc]
        exact List.take_left' (by rw [List.length_take, Array.length_toList (xs := cur1)]; omega)
      have e2 : cur.toList.take (i * 65) = cells (es.take i) := by
        rw [cells_take, ← htk, List.take_take, Nat.min_eq_left (by omega)]
      rw [e1, hcur1, List.eraseIdx_eq_take_drop_succ, cells_app, ← hnews, ← e2]
      exact List.take_left' (by rw [List.length_append, List.length_take, hlen, Array.length_toList (xs := cur)]; omega)
    · rw [hW2, hW1]
      exact ⟨rfl, rfl, rfl, by simp [World.setRow], fun k _ hk => by
        have hkg : k ≠ g := fun e => hk (by rw [e])
        rw [setRow_other _ g k _ hkg, setRow_other _ g k _ hkg]
        rfl⟩
  have X1 := Lib.hid (show w.drew.setRow g (cur.toList.take (i * 65) ++ news ++ cur.toList.drop (i * 65 + news.length)).toArray = W1 by rw [hW1, hcur1])
  have HC : Hid (w.heap[g]? = some (.cells cur 46 (0, 0))) := hcur
  have HL := Lib.hid hlen
  have HCS := Lib.hid hcs
  have hic : i ≤ c := by omega
  have hi1c : (i : Int) + 1 ≤ (c : Int) := by omega
  have hi1n : (i : Int) + 1 ≤ (es.length : Int) := by omega
  have e3 : ((i : Int) + 1).toNat = i + 1 := by omega
  have h11 : (0 : Int) ≤ (i : Int) + 1 := by omega
  have hne : ((i : Int) == (i : Int) + 1) = false := by simp; omega
  have hfit : i * 65 + news.length ≤ cur.size := by omega
  have hsz' : inf.size = 65 := hsz
  clear hW1 hW2 hg1 hg2 hcur1 hcur2 hl1 hl2 hlen hnews hcs hclen htk hcur hsz
  go_enter Try.func25, Try.ntmps25
  go_wp2_with fail
  go_region_law (refine step_append_row rfl (.tmp 22) (.tmp 25) 24 rfl 46 inf 65 Try.underlying24 hinf hsz' g i c (by simp [Act.eval, Act.put]) cur HC.out A (es.length - (i + 1)) (c - (i + 1)) news (by simp [Act.eval, Act.put]) HL.out hsrc.out hone.out (by omega) hfit ?_; rw [X1.out])
  go_wp2
  go_ret
  exact ⟨by rw [show i + (es.length - (i + 1)) = es.length - 1 by omega]; rfl, HW2.out⟩
end Go.Proofs.Ytklooieghlnblaa
