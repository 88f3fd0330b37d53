import Derived.Test.YtklooieghlnblaaSkg
import Derived.Test.YtklooieghlnblaaHo
/-
  skip: what Put wants: an entry built, a row of one entry, appended.
-/
namespace Go.Proofs.Ytklooieghlnblaa
open Go.RowKit

def mk32 (f : Nat → UInt8) : List UInt8 := (List.range 32).map f
theorem of32 (d : List UInt8) (h : d.length = 32) : d = mk32 (fun i => d.getD i 0) := by
  apply List.ext_getElem
  · simp [mk32, h]
  · intro i h1 h2
    simp [mk32, h1]
theorem build_f (f g : Nat → UInt8) (n : Int) (w : World) : (Instr.build 46 #[(0, .agg ((mk32 f).map cellB).toArray), (1, .agg ((mk32 g).map cellB).toArray), (2, .int .u32 n)]).run Try.prog w = .ok (.agg (ceT (mk32 f) (mk32 g) n).toArray) w := by kernel_rfl
theorem build_E (d k : List UInt8) (n : Int) (hd : d.length = 32) (hk : k.length = 32) (w : World) : (Instr.build 46 #[(0, .agg (d.map cellB).toArray), (1, .agg (k.map cellB).toArray), (2, .int .u32 n)]).run Try.prog w = .ok (.agg (ceT d k n).toArray) w := by
  rw [of32 d hd, of32 k hk]
  exact build_f _ _ n w
theorem bsl_f (f g : Nat → UInt8) (n : Int) (w : World) : (Instr.buildSlice 24 1 #[(0, .agg (ceT (mk32 f) (mk32 g) n).toArray)]).run Try.prog w = .ok (.slice (some ⟨w.heap.size, 0, none⟩) 1 1) (w.alloc (.cells (ceT (mk32 f) (mk32 g) n).toArray 46)) := by kernel_rfl
theorem bsl_E (d k : List UInt8) (n : Int) (hd : d.length = 32) (hk : k.length = 32) (w : World) : (Instr.buildSlice 24 1 #[(0, .agg (ceT d k n).toArray)]).run Try.prog w = .ok (.slice (some ⟨w.heap.size, 0, none⟩) 1 1) (w.alloc (.cells (ceT d k n).toArray 46)) := by
  rw [of32 d hd, of32 k hk]
  exact bsl_f _ _ n w
theorem run_app_own (ty : TypeId) (W : World) (base : Nat) (v : Value) (es fs : List Ent) (hown : W.ownsRow base 46 65 v es.length (cells es)) (a : Addr) (c : Nat)
    (hnews : ∀ j u, (cells fs)[j]? = some u → W.cell? (a.add j) = some u) (hn : es.length + fs.length ≤ 2000) (hbase : base ≤ W.heap.size) :
    ∃ v' w', (Builtin.append_ #[24, 24] ty #[v, .slice (some a) fs.length c]).run Try.prog W = .ok v' w' ∧ w'.ownsRow base 46 65 v' (es ++ fs).length (cells (es ++ fs)) ∧ W.grownBy w' v.ownBlock ∧ (∀ k, v'.ownBlock = some k → v.ownBlock = some k ∨ W.heap.size ≤ k) := by
  obtain ⟨i, hi, hz⟩ := Option.map_eq_some_iff.1 info_E
  simp only [Prod.mk.injEq] at hz
  obtain ⟨v', w', h1, h2, h3, _, h4⟩ := run_append_own2 (P := Try.prog) W base 24 ty 46 i (.agg zeroE.toArray) 65 68 Try.underlying24 hi (zero_info i hi) hz.1 hz.2 (by show zeroE.length = 65; exact Ent.ce_len _) (by omega) v es.length (cells es) hown a fs.length c (cells fs) (cells_len fs) hnews (cells_one fs) (by unfold maxLen; omega) (by omega) hbase
  refine ⟨v', w', h1, by rw [cells_app, List.length_append]; exact h2, h3, h4⟩
theorem own_shape {w : World} {base n : Nat} {v : Value} {xs : List Value} (h : w.ownsRow base 46 65 v n xs) : ∃ A c, v = .slice A n c := by
  rcases h.2 with ⟨rfl, rfl⟩ | ⟨g, c, _, rfl, _⟩
  · exact ⟨none, 0, rfl⟩
  · exact ⟨_, c, rfl⟩
theorem Mod.range {B o : Nat} {row : Option Nat} {w w' : World} (h : Mod B o row w w') {g p : Nat} {cs : List Value} (hr : w.rangeAt g p cs) (hg : g < w.heap.size) (h1 : g ≠ B) (h2 : some g ≠ row) : w'.rangeAt g p cs := fun j v hv =>
  (World.cell?_of_block (h.block g hg h1 h2)).trans (hr j v hv)
theorem load_sl (b o : Nat) (v : Value) (w : World) (h : w.cell? ⟨b, o, none⟩ = some v) : (Instr.loadAt 24 (.pointer (some ⟨b, o, none⟩))).run Try.prog w = .ok v w := by
  have h2 := Try.underlying24
  go_simp
theorem field_S (b o : Nat) (w : World) : (Instr.fieldAt 26 (.pointer (some ⟨b, o, none⟩)) 0).run Try.prog w = .ok (.pointer (some ⟨b, o, none⟩)) w := by
  go_simp
def StP (b1 b2 B o : Nat) (d k : List UInt8) (v : Value) (w : World) : Prop := w.rangeAt b1 0 (d.map cellB) ∧ w.rangeAt b2 0 (k.map cellB) ∧ w.cell? ⟨B, o, none⟩ = some v
end Go.Proofs.Ytklooieghlnblaa
