import Derived.Test.YtgdnolondfnbkaaDoorCoj
import Derived.Test.YtgdnolondfnbkaaDoorHop
/-
  head.Bytes.
-/
namespace Go.Proofs.YtgdnolondfnbkaaDoor
open Go.RowKit

/-- a header as a value -/
def hdC (dh : List Int) (pn n : Int) : List Value := ints .u8 dh ++ [.int .u32 pn, .int .u32 n]
abbrev hdV (dh : List Int) (pn n : Int) : Value := .agg (hdC dh pn n).toArray
/-- a header's bytes -/
def hdB (dh : List Int) (pn n : Int) : List Int := dh ++ le4 pn ++ le4 n
theorem hdB_len (dh : List Int) (pn n : Int) (h : dh.length = 32) : (hdB dh pn n).length = 40 := by simp [hdB, le4, h]
/-- a header in memory -/
structure HdS (w : World) (H : Nat) (dh : List Int) (pn n : Int) : Prop where
  k : SlRead w (some ⟨H, 0, none⟩) (ints .u8 dh)
  p : w.cell? ⟨H, 32, none⟩ = some (.int .u32 pn)
  n : w.cell? ⟨H, 33, none⟩ = some (.int .u32 n)
theorem HdS.below {w w' : World} {H : Nat} {dh : List Int} {pn n : Int} (h : HdS w H dh pn n) (hb : Below w.heap.size w w') : HdS w' H dh pn n :=
  ⟨h.k.below hb, (hb.cell (p := ⟨H, 32, none⟩) (cell_lt h.p)).trans h.p, (hb.cell (p := ⟨H, 33, none⟩) (cell_lt h.n)).trans h.n⟩
theorem HdS.turn {F : Nat → Prop} {w w' : World} {H : Nat} {dh : List Int} {pn n : Int} (h : HdS w H dh pn n) (ht : Turn F w w') (hF : ¬ F H) : HdS w' H dh pn n :=
  ⟨h.k.turn ht (fun _ a ha => by cases ha; exact hF), (ht.cell (cell_lt h.p) hF).trans h.p, (ht.cell (cell_lt h.n) hF).trans h.n⟩
theorem HdS.new (w : World) (dh : List Int) (pn n : Int) (t : TypeId) (hl : dh.length = 32) : HdS (w.alloc (.cells (hdC dh pn n).toArray t)) w.heap.size dh pn n := by
  have hc : ∀ j, (w.alloc (.cells (hdC dh pn n).toArray t)).cell? ⟨w.heap.size, j, none⟩ = (hdC dh pn n)[j]? := fun j => by rw [World.cell?_alloc_new]; simp
  have hil : (ints .u8 dh).length = 32 := by rw [ints_length, hl]
  refine ⟨fun _ => ⟨w.heap.size, 0, rfl, by simp, fun j u hj => ?_⟩, ?_, ?_⟩
  · rw [Nat.zero_add, hc, hdC, List.getElem?_append_left (List.getElem?_eq_some_iff.1 hj).1]; exact hj
  · rw [hc, hdC, List.getElem?_append_right (by omega), hil]; rfl
  · rw [hc, hdC, List.getElem?_append_right (by omega), hil]; rfl
theorem slice_dh (b : Nat) (w : World) : (Instr.sliceAt 23 (.pointer (some ⟨b, 0, none⟩)) none none none).run Tryd.prog w = .ok (.slice (some ⟨b, 0, none⟩) 32 32) w :=
  sliceAt_all 32 Tryd.underlying23 (by kernel_rfl) b (by decide) w
set_option maxRecDepth 100000 in
set_option maxHeartbeats 1600000 in
theorem hbytes_any (dh : List Int) (pn n : Int) (w : World) (hl : dh.length = 32) :
    Calls Tryd.prog 12 #[hdV dh pn n] w fun e w' => ∃ v, e = .returned v ∧ w'.ownsRow w.heap.size 5 1 v 40 (ints .u8 (hdB dh pn n)) ∧ Below w.heap.size w w' := by
  have hsl := slice_dh
  go_enter Tryd.func12, Tryd.ntmps12
  go_upto_region 2 with (fail)
  refine wp_world (fun V => Below w.heap.size w V ∧ HdS V w.heap.size dh pn n ∧ WrS V (w.heap.size + 1) (w.heap.size + 1) [] (.slice none 0 0) ∧ V.heap.size = w.heap.size + 2) ?_ ?_
  · have h1 := below_alc w (.cells (hdC dh pn n).toArray 26)
    have h2 := below_alc (w.alloc (.cells (hdC dh pn n).toArray 26)) (.cells #[.slice none 0 0] 61)
    exact ⟨h1.trans (h2.mono (by simp)), (HdS.new w dh pn n _ hl).below h2, ⟨by simp [go_sem], by simp [go_sem], World.ownsRow_nil _ _ _ _, by simp [Value.ownBlock], Nat.le_refl _⟩, by simp⟩
  rintro V ⟨hbV, hH, hw, hVs⟩
  obtain ⟨Hb, hHb⟩ : ∃ H, H = w.heap.size := ⟨_, rfl⟩
  obtain ⟨Wb, hWb⟩ : ∃ H, H = w.heap.size + 1 := ⟨_, rfl⟩
  rw [← hHb] at hH
  rw [← hWb] at hw
  have HB0 := Lib.hid hHb
  have hlt : Hb < Wb := by omega
  have hwv : Wb ≤ V.heap.size := by omega
  have hHw : w.heap.size ≤ Wb := by omega
  rw [← hWb, ← hHb]
  have HN := Lib.hid hl
  clear hVs hWb hHb hl
  have h32 : dh.length ≤ 1000000 := by rw [HN.out]; omega
  have HR := wraw_any (some ⟨Hb, 0, none⟩) dh 32 Wb Wb [] _ V hw hwv (by simp) hH.k h32
  rw [List.nil_append, HN.out] at HR
  have hz0 : dh.length ≤ 900 := by rw [HN.out]; omega
  go_wp2_with fail
  refine HR.mono ?_
  rintro e V1 ⟨rfl, v1, hw1, ht1, _⟩
  have hH1 := hH.turn ht1 (fun hh => by have := (hw.ltF hh).1; omega)
  have hb1 : Below w.heap.size w V1 := ht1.below hbV hbV.size (fun q hq => by have := (hw.ltF hq).1; omega)
  have hs1 := ht1.size
  have cp := hH1.p
  have H2 := wu32_any pn Wb Wb dh v1 V1 hw1 (by omega) (by omega)
  have hz1 : (dh ++ le4 pn).length ≤ 1000 := by simp [le4]; omega
  have HZ : Hid (hdB dh pn n = (dh ++ le4 pn) ++ le4 n) := Lib.hid rfl
  generalize dh ++ le4 pn = zs at *
  clear HR hH hw ht1 hbV
  go_wp2_with fail
  refine H2.mono ?_
  rintro e V2 ⟨rfl, v2, hw2, ht2, _⟩
  have hH2 := hH1.turn ht2 (fun hh => by have := (hw1.ltF hh).1; omega)
  have hb2 : Below w.heap.size w V2 := ht2.below hb1 hb1.size (fun q hq => by have := (hw1.ltF hq).1; omega)
  have hs2 := ht2.size
  have cn := hH2.n
  have H3 := wu32_any n Wb Wb zs v2 V2 hw2 (by omega) (by omega)
  rw [← HZ.out] at H3
  clear H2 hH1 hw1 ht2 hb1 cp
  go_wp2_with fail
  refine H3.mono ?_
  rintro e V3 ⟨rfl, v3, hw3, ht3, _⟩
  have hb3 : Below w.heap.size w V3 := ht3.below hb2 hb2.size (fun q hq => by have := (hw2.ltF hq).1; omega)
  have h40 := hdB_len dh pn n HN.out
  have HBy := wbytes_any Wb Wb (hdB dh pn n) v3 V3 hw3 (by omega)
  rw [h40] at HBy
  clear H3 hH2 hw2 ht3 hb2 cn h40
  go_wp2_with fail
  refine HBy.mono ?_
  rintro e V4 ⟨v4, rfl, hown, hb4⟩
  have HF := Lib.hid (And.intro (ownsRow_lower hown hb3.size) (hb3.trans (hb4.mono hb3.size)))
  clear hown hb4 HBy hw3 hb3
  go_wp2_with fail
  go_ret
  exact ⟨v4, rfl, HF.out⟩
end Go.Proofs.YtgdnolondfnbkaaDoor
