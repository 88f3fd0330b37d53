import Derived.Test.YtegijahkiopncaaDoorBla
/-
  blob: place's closure.
-/
namespace Go.Proofs.YtegijahkiopncaaDoor
open Go.RowKit
/-- an id's bytes -/
def idl (f : Nat → BitVec 8) : List UInt8 := (List.range 32).map fun i => UInt8.ofBitVec (f i)
theorem arr8_idl (f : Nat → BitVec 8) : arr8 32 f = ((idl f).map Extern.Stop.cell).toArray := by
  unfold arr8 idl
  rw [List.map_map]
  congr 1
theorem eq_ids (f k : Nat → BitVec 8) (w : World) : (Op.equalIn 10000 26 (.agg (arr8 32 f)) (.agg (arr8 32 k))).run Tryd.prog w = .ok (idl f == idl k) w := by
  rw [arr8_idl, arr8_idl, run_equalIn_bytes w 9998 26 5 32 Tryd.underlying26 Tryd.underlying5 (fun w => by kernel_rfl) _ _ (by simp [idl]) (by simp [idl])]
theorem load_idB (W : World) (g : Nat) (f : Nat → BitVec 8) (h : W.rangeAt g 0 (arr8 32 f).toList) : (Instr.loadAt 26 (.pointer (some ⟨g, 0, none⟩))).run Tryd.prog W = .ok (.agg (arr8 32 f)) W := by
  have := load_row (P := Tryd.prog) 26 g 0 (arr8 32 f).toList _ Tryd.underlying26 rfl (by simp only [Array.length_toList, arr8_size]; kernel_rfl) W h
  simpa using this
theorem pred_b (w : World) (e c : Nat) (f k : Nat → BitVec 8) (n : Int) (D : Value) (done : Bool) (idle : Int) (h : EnH w e f n D done idle) (hc : w.heap[c]? = some (.cells (arr8 32 k) 26 (0, 0))) :
    Calls Tryd.prog 44 #[.pointer (some ⟨e, 0, none⟩), .pointer (some ⟨c, 0, none⟩)] w fun r w' => r = .returned (.bool (idl f == idl k)) ∧ w' = w.drew := by
  go_enter Tryd.func44, Tryd.ntmps44
  have hd : EnH w.drew e f n D done idle := h
  have hc' : w.drew.heap[c]? = some (.cells (arr8 32 k) 26 (0, 0)) := hc
  go_upto_region 1 with (fail)
  refine wp_region_noPanic ?_
  refine wp_region_held_drew (S := fun w' => w' = w.drew) (by kernel_rfl) (rfl) (fun hHeld => ?_)
  refine held_move 0 (Go.Operand.tmp 0) (some 4) (.pointer (some ⟨e, 0, none⟩)) (by kernel_rfl) (by kernel_rfl) (by kernel_rfl) (by kernel_rfl) (by kernel_rfl) (fun _ _ _ _ _ h => h) hHeld ?_
  refine held_nil 1 (Go.Operand.tmp 4) (some 5) ⟨e, 0, none⟩ (by kernel_rfl) (by kernel_rfl) (by kernel_rfl) (by kernel_rfl) (by kernel_rfl) (fun _ _ _ _ _ h => h) hHeld ?_
  refine held_field 2 63 (Go.Operand.tmp 5) 0 (some 6) (.pointer (some ⟨e, 0, none⟩)) (.pointer (some ⟨e, 0, none⟩)) (by kernel_rfl) (by kernel_rfl) (fun w => by kernel_rfl) (by kernel_rfl) (by kernel_rfl) (by kernel_rfl) (fun _ _ _ _ _ h => h) hHeld ?_
  refine held_cell 3 26 (Go.Operand.tmp 6) (some 7) (.pointer (some ⟨e, 0, none⟩)) (.agg (arr8 32 f)) (by kernel_rfl) (by kernel_rfl) (fun W h => by rw [h]; exact load_idB w.drew e f (en_id hd)) (by kernel_rfl) (by kernel_rfl) (by kernel_rfl) (fun _ _ _ _ _ h => h) hHeld ?_
  refine held_cell 4 26 (Go.Operand.tmp 1) (some 8) (.pointer (some ⟨c, 0, none⟩)) (.agg (arr8 32 k)) (by kernel_rfl) (by kernel_rfl) (fun W h => by rw [h]; exact load_idB w.drew c k (range_new (cs := (arr8 32 k).toList) (by simpa using hc'))) (by kernel_rfl) (by kernel_rfl) (by kernel_rfl) (fun _ _ _ _ _ h => h) hHeld ?_
  refine held_any 5 (Go.Op.binOp Go.BinOp.eql 26 (Go.Operand.tmp 7) (Go.Operand.tmp 8) 26) (some 9) (.bool (idl f == idl k)) (by kernel_rfl) (by kernel_rfl) (by kernel_rfl) (by kernel_rfl) (fun _ _ _ _ _ h => h) hHeld (fun o ho w hw => exec_eqrow (k := .eql) (cx := arr8 32 f) (cy := arr8 32 k) (b := idl f == idl k) (.inl rfl) ho (by kernel_rfl) (by kernel_rfl) (eq_ids f k w)) ?_
  refine held_assign 6 (Go.Operand.tmp 9) (some 3) (.bool (idl f == idl k)) (by kernel_rfl) (by kernel_rfl) (by kernel_rfl) (by kernel_rfl) (by kernel_rfl) (fun _ _ _ _ _ h => h) hHeld ?_
  refine wpAnyH_done (by kernel_rfl) ?_ _
  refine NoPanic.normal ?_
  go_wp2_with fail
  go_ret
  exact ⟨rfl, rfl⟩
/-- an entry of the store: its block, whose it is, how long, what has come, whether it is whole, since when -/
structure Be where
  g : Nat
  f : Nat → BitVec 8
  n : Int
  D : Value
  bs : List Int
  done : Bool
  idle : Int
def Be.is (k : Nat → BitVec 8) (e : Be) : Bool := idl e.f == idl k
def Be.at (W : World) (e : Be) : Prop := EnH W e.g e.f e.n e.D e.done e.idle
def Be.ptr (e : Be) : Value := .pointer (some ⟨e.g, 0, none⟩)
/-- at which place -/
def bix (es : List Be) (k : Nat → BitVec 8) : Int := match es.findIdx? (Be.is k) with | some i => i | none => -1
theorem bix_hit {es : List Be} {k : Nat → BitVec 8} {i : Nat} {e : Be} (h : es[i]? = some e) (hp : e.is k = true) (hn : ∀ (j : Nat) (e' : Be), j < i → es[j]? = some e' → e'.is k = false) : bix es k = i := by
  have hi := (List.getElem?_eq_some_iff.1 h).1
  have h1 : es.findIdx? (Be.is k) = some i := by
    rw [List.findIdx?_eq_some_iff_getElem]
    refine ⟨hi, ?_, fun j hj => ?_⟩
    · have := (List.getElem?_eq_some_iff.1 h).2
      rw [this]; exact hp
    · have hj' : j < es.length := by omega
      have := hn j es[j] hj (List.getElem?_eq_getElem hj')
      simp [this]
  unfold bix
  rw [h1]
theorem bix_miss {es : List Be} {k : Nat → BitVec 8} (hn : ∀ (j : Nat) (e' : Be), es[j]? = some e' → e'.is k = false) : bix es k = -1 := by
  have h1 : es.findIdx? (Be.is k) = none := by
    rw [List.findIdx?_eq_none_iff]
    intro e he
    obtain ⟨j, hj, rfl⟩ := List.getElem_of_mem he
    exact hn j _ (List.getElem?_eq_getElem hj)
  unfold bix
  rw [h1]
theorem index_b (es : List Be) (k : Nat → BitVec 8) (g c box : Nat) (w : World) (hl : es.length ≤ 1000) (hg : g < w.heap.size)
    (hrow : ∀ j e, es[j]? = some e → w.cell? ⟨g, j, none⟩ = some e.ptr ∧ e.at w) (hbox : w.heap[box]? = some (.cells (arr8 32 k) 26 (0, 0))) :
    Calls Tryd.prog 43 #[.slice (some ⟨g, 0, none⟩) es.length c, .func (.func 44) #[] #[.pointer (some ⟨box, 0, none⟩)]] w fun r w' => r = .returned (.int .i64 (bix es k)) ∧ Below w.heap.size w w' := by
  obtain ⟨len, hlen⟩ : ∃ n, n = es.length := ⟨_, rfl⟩
  rw [← hlen]
  have HL := Lib.hid hlen
  have hl' : len ≤ 1000 := by omega
  have HR := Lib.hid hrow
  have HB := Lib.hid hbox
  have hself := Below.refl w.heap.size w
  clear hlen hl hrow hbox
  obtain ⟨n0, hn0⟩ : ∃ n, n = w.heap.size := ⟨_, rfl⟩
  have HS := Lib.hid hn0
  rw [← hn0] at hself
  rw [← hn0] at hg
  rw [← hn0]
  clear hn0
  go_enter Tryd.func43, Tryd.ntmps43
  go_wp2_with fail
  go_loopg [5, 8] len (fun gg _ s8 wr => ∃ kk : Nat, kk ≤ len ∧ len - kk ≤ gg ∧ s8 = .int .i64 kk ∧ Below n0 w wr ∧ Hid (∀ (j : Nat) (e' : Be), j < kk → es[j]? = some e' → e'.is k = false))
  case atStart => exact ⟨0, Nat.zero_le _, by omega, rfl, hself, fun j _ hj => absurd hj (Nat.not_lt_zero _)⟩
  case round =>
    obtain ⟨kk, hkk, hgg, rfl, hb, hM⟩ := hrel
    by_cases hlt : kk < len
    · have hk1 : (kk : Int) < (len : Int) := by omega
      obtain ⟨e, he⟩ : ∃ e, es[kk]? = some e := ⟨es[kk]'(by rw [← HL.out]; exact hlt), List.getElem?_eq_getElem _⟩
      have HE := Lib.hid he
      have hc : wr.cell? ⟨g, kk, none⟩ = some e.ptr := (hb.cell (p := ⟨g, kk, none⟩) hg).trans (HR.out kk e he).1
      have ha : e.at wr := by
        have h1 := (HR.out kk e he).2
        exact heap_below h1 (by rw [← HS.out]; exact hb)
      have hbx : wr.heap[box]? = some (.cells (arr8 32 k) 26 (0, 0)) := heap_below HB.out (by rw [← HS.out]; exact hb)
      have hcon := Lib.hid (pred_b wr e.g box e.f k e.n e.D e.done e.idle ha hbx)
      have hst : n0 ≤ wr.heap.size := by rw [HS.out]; exact hb.size
      have hbd : Below n0 w wr.drew := hb.drew
      have hptr : e.ptr = .pointer (some ⟨e.g, 0, none⟩) := rfl
      rw [hptr] at hc
      obtain ⟨b, hbv⟩ : ∃ b, b = (idl e.f == idl k) := ⟨_, rfl⟩
      rw [← hbv] at hcon
      have HV := Lib.hid hbv
      clear he hbx ha hbv
      cases b with
      | true =>
        go_wp2_with (refine (hcon.out).mono ?_; rintro r w' ⟨rfl, rfl⟩)
        go_ret
        refine ⟨?_, by assumption⟩
        rw [bix_hit HE.out HV.out.symm hM.out]
        rfl
      | false =>
        go_wp2_with (refine (hcon.out).mono ?_; rintro r w' ⟨rfl, rfl⟩)
        go_roundg (len - (kk + 1))
        case measure => omega
        case rel =>
          refine ⟨kk + 1, by omega, by omega, by go_num, by assumption, fun j e' hj he' => ?_⟩
          by_cases e2 : j = kk
          · subst e2
            obtain rfl := Option.some.inj (HE.out.symm.trans he')
            exact HV.out.symm
          · exact hM.out j e' (by omega) he'
    · have hk1 : ¬ (kk : Int) < (len : Int) := by omega
      obtain rfl : kk = len := by omega
      go_wp2
      go_ret
      refine ⟨?_, hb⟩
      rw [bix_miss (fun j e' he' => hM.out j e' (by have := (List.getElem?_eq_some_iff.1 he').1; rw [← HL.out] at this; exact this) he')]
      rfl
theorem index_bn (k : Value) (w : World) :
    Calls Tryd.prog 43 #[.slice none 0 0, k] w fun r w' => r = .returned (.int .i64 (-1)) ∧ w' = w := by
  go_enter Tryd.func43, Tryd.ntmps43
  go_wp2
  refine wp_loop_rounds 1 ?_
  rw [rounds_succ]
  go_wp2
  go_ret
  exact ⟨rfl, rfl⟩
end Go.Proofs.YtegijahkiopncaaDoor
