import Derived.Test.YtocjmlncpjfnfaaDoorCoh
import Derived.Test.YtocjmlncpjfnfaaDoorCpy
/-
  code: a Reader's word.
-/
namespace Go.Proofs.YtocjmlncpjfnfaaDoor
open Go.RowKit

def Byts (xs : List Int) : Prop := ∀ x ∈ xs, 0 ≤ x ∧ x < 256
def byteI (xs : List Int) (p : Nat) : Int := xs.getD p 0
theorem Byts.at_ {xs : List Int} (h : Byts xs) (p : Nat) : 0 ≤ byteI xs p ∧ byteI xs p < 256 := by
  unfold byteI
  by_cases hp : p < xs.length
  · have := h _ (List.getElem_mem hp)
    simpa [List.getD, hp] using this
  · simp [List.getD, hp]
theorem byteI_get {xs : List Int} {p : Nat} (hp : p < xs.length) : xs[p]? = some (byteI xs p) := by
  unfold byteI
  simp [List.getD, hp]
def wordI (xs : List Int) (p : Nat) : Int := byteI xs p + byteI xs (p + 1) * 256 + byteI xs (p + 2) * 65536 + byteI xs (p + 3) * 16777216
theorem or_low (a b : Nat) (k : Nat) (ha : a < 2 ^ k) : a ||| b * 2 ^ k = a + b * 2 ^ k := by
  rw [Nat.or_comm, ← Nat.shiftLeft_eq, ← Nat.shiftLeft_add_eq_or_of_lt ha b]; omega
theorem or4 (a b c d : Int) (ha : 0 ≤ a ∧ a < 256) (hb : 0 ≤ b ∧ b < 256) (hc : 0 ≤ c ∧ c < 256) (hd : 0 ≤ d ∧ d < 256) :
    bits .or .u32 (bits .or .u32 (bits .or .u32 a (b * 256)) (c * 65536)) (d * 16777216) = a + b * 256 + c * 65536 + d * 16777216 := by
  obtain ⟨a, rfl⟩ := Int.eq_ofNat_of_zero_le ha.1
  obtain ⟨b, rfl⟩ := Int.eq_ofNat_of_zero_le hb.1
  obtain ⟨c, rfl⟩ := Int.eq_ofNat_of_zero_le hc.1
  obtain ⟨d, rfl⟩ := Int.eq_ofNat_of_zero_le hd.1
  have h1 : bits .or .u32 (a : Int) ((b : Int) * 256) = ((a + b * 256 : Nat) : Int) := by
    rw [show ((b : Int) * 256) = ((b * 256 : Nat) : Int) by simp, u32_or_nat _ _ (by omega) (by omega), or_low a b 8 (by omega)]
  have h2 : bits .or .u32 ((a + b * 256 : Nat) : Int) ((c : Int) * 65536) = ((a + b * 256 + c * 65536 : Nat) : Int) := by
    rw [show ((c : Int) * 65536) = ((c * 65536 : Nat) : Int) by simp, u32_or_nat _ _ (by omega) (by omega), or_low _ c 16 (by omega)]
  have h3 : bits .or .u32 ((a + b * 256 + c * 65536 : Nat) : Int) ((d : Int) * 16777216) = ((a + b * 256 + c * 65536 + d * 16777216 : Nat) : Int) := by
    rw [show ((d : Int) * 16777216) = ((d * 16777216 : Nat) : Int) by simp, u32_or_nat _ _ (by omega) (by omega), or_low _ d 24 (by omega)]
  rw [h1, h2, h3]
  simp
theorem sliceAt_l0 {P : Program} {t e : TypeId} (hu : P.underlying t = some (.slice e)) (hs : (P.info? e).map (·.size) = some 1) (A : Option Addr) (n cap l : Nat) (h1 : l ≤ n) (w : World) :
    (Instr.sliceAt t (.slice A n cap) (some (.int .i64 (l : Int))) none none).run P w = .ok (.slice (cutA A l cap) (n - l) (cap - l)) w := by
  have e2 : P.elem t = e := by simp [Program.elem, hu]
  rw [run_sliceAt_slice (h := by rw [e2]; exact hu)]
  exact slice_sl_l hu hs A n cap l _ rfl h1 w
theorem sliceAt_lh0 {P : Program} {t e : TypeId} (hu : P.underlying t = some (.slice e)) (hs : (P.info? e).map (·.size) = some 1) (b o n cap l m : Nat) (hm : l + m ≤ n) (hc : n ≤ cap) (h0 : l < n) (w : World) :
    (Instr.sliceAt t (.slice (some ⟨b, o, none⟩) n cap) (some (.int .i64 (l : Int))) (some (.int .i64 ((l : Int) + m))) none).run P w = .ok (.slice (some ⟨b, o + l, none⟩) m (cap - l)) w := by
  have e2 : P.elem t = e := by simp [Program.elem, hu]
  rw [run_sliceAt_slice (h := by rw [e2]; exact hu)]
  exact slice_sl_lh hu hs b o n cap l m hm hc h0 w
section
variable {w : World} {R : Nat} {A : Option Addr} {xs : List Int} {p c : Nat} {E : Nat → Addr}
theorem RdS.cells {w : World} {R : Nat} {A : Option Addr} {xs : List Int} {p c : Nat} (h : RdS w R A xs p c) (h0 : 0 < xs.length) : ∃ b o, A = some ⟨b, o, none⟩ ∧ b < w.heap.size ∧ b ≠ R ∧ ∀ j, j < xs.length → w.cell? ⟨b, o + j, none⟩ = some (.int .u8 (byteI xs j)) := by
  obtain ⟨b, o, rfl, hlt, hc⟩ := h.rd (by simpa using h0)
  exact ⟨b, o, rfl, hlt, h.ap h0 _ rfl, fun j hj => hc j _ (ints_get .u8 xs j _ (byteI_get hj))⟩
set_option maxRecDepth 100000 in
set_option maxHeartbeats 1600000 in
theorem word_ok (h : RdS w R A xs p c) (hx : Byts xs) (hl : xs.length ≤ 100000) (hp : p + 4 ≤ xs.length) : Calls Tryd.prog 72 #[.pointer (some ⟨R, 0, none⟩)] w fun e w' => e = .returned (.int .u32 (wordI xs p)) ∧ Below w.heap.size w w' := by
  have H1 := need_ok h hl 4 (by omega)
  obtain ⟨b, o, rfl, hlt, hbR, hc⟩ := h.cells (by omega)
  go_enter Tryd.func72, Tryd.ntmps72
  go_wp2_with fail
  refine H1.mono ?_
  rintro e W1 ⟨rfl, hb⟩
  have h1 := h.below hb
  have hlt1 : b < W1.heap.size := Nat.lt_of_lt_of_le hlt hb.size
  have c0 := h1.c0
  have c1 := h1.c1
  have k0 := (hb.cell (p := ⟨b, o + p, none⟩) hlt).trans (hc p (by omega))
  have k1 := (hb.cell (p := ⟨b, o + (p + 1), none⟩) hlt).trans (hc (p + 1) (by omega))
  have k2 := (hb.cell (p := ⟨b, o + (p + 2), none⟩) hlt).trans (hc (p + 2) (by omega))
  have k3 := (hb.cell (p := ⟨b, o + (p + 3), none⟩) hlt).trans (hc (p + 3) (by omega))
  rw [← Nat.add_assoc] at k1 k2 k3
  have r0 := hx.at_ p
  have r1 := hx.at_ (p + 1)
  have r2 := hx.at_ (p + 2)
  have r3 := hx.at_ (p + 3)
  have HV : Hid (wordI xs p = byteI xs p + byteI xs (p + 1) * 256 + byteI xs (p + 2) * 65536 + byteI xs (p + 3) * 16777216) := Lib.hid rfl
  generalize byteI xs p = x0 at *
  generalize byteI xs (p + 1) = x1 at *
  generalize byteI xs (p + 2) = x2 at *
  generalize byteI xs (p + 3) = x3 at *
  have hor := or4 x0 x1 x2 x3 r0 r1 r2 r3
  have m1 : x1 * 256 % 4294967296 = x1 * 256 := by omega
  have m2 : x2 * 65536 % 4294967296 = x2 * 65536 := by omega
  have m3 : x3 * 16777216 % 4294967296 = x3 * 16777216 := by omega
  have hcl := h1.cl
  have hsl : ∀ w, (Instr.sliceAt 25 (.slice (some ⟨b, o, none⟩) xs.length c) (some (.int .i64 (p : Int))) none none).run Tryd.prog w = .ok (.slice (some ⟨b, o + p, none⟩) (xs.length - p) (c - p)) w := fun w => by
    have := sliceAt_l0 (P := Tryd.prog) Tryd.underlying25 (by kernel_rfl) (some ⟨b, o, none⟩) xs.length c p (by omega) w
    rwa [cutA_some (show p < xs.length by omega) h1.cl] at this
  have HB := Lib.hid hb
  clear h h1 hb hc H1 hcl
  go_wp2_with fail
  go_quiet (fail)
  go_wp2_with fail
  go_quiet (fail)
  go_wp2_with fail
  go_ret
  exact ⟨by rw [HV.out]; rfl, HB.out.trans (((Below.drewNr _).trans (Below.drewNr _)).mono HB.out.size)⟩
end
end Go.Proofs.YtocjmlncpjfnfaaDoor
