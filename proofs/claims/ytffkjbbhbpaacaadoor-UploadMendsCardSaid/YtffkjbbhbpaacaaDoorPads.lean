import Derived.Test.YtffkjbbhbpaacaaDoorAr
import Derived.StillTailTactics
import Derived.Deep.MidRow
import Derived.Stop.BytesEq
import Derived.Test.YtffkjbbhbpaacaaDoorHd
import Derived.Lib.SliceRun
import Derived.Laws.CopyOwn
/-
  
  
  
  
  
  
  
  
  
  
  
-/
namespace Go.Proofs.YtffkjbbhbpaacaaDoor
open Go.RowKit

def sm_s (x : BitVec 32) : BitVec 32 := x.rotateRight 7 ^^^ x.rotateRight 18 ^^^ x >>> 3
def sm_t (x : BitVec 32) : BitVec 32 := x.rotateRight 17 ^^^ x.rotateRight 19 ^^^ x >>> 10
def updw (s : Nat → BitVec 32) (i : Nat) (x : BitVec 32) : Nat → BitVec 32 := fun j => if j = i then x else s j
def w16 (m : Nat → BitVec 8) : Nat → Nat → BitVec 32
  | 0 => fun _ => 0#32
  | k + 1 => updw (w16 m k) k (wordB (m (4 * k)) (m (4 * k + 1)) (m (4 * k + 2)) (m (4 * k + 3)))
def w64 (s : Nat → BitVec 32) : Nat → Nat → BitVec 32
  | 0 => s
  | k + 1 => updw (w64 s k) (16 + k) (w64 s k k + sm_s (w64 s k (k + 1)) + w64 s k (k + 9) + sm_t (w64 s k (k + 14)))
def sched (m : Nat → BitVec 8) : Nat → BitVec 32 := w64 (w16 m 16) 48

abbrev Ws (w : World) (b : Nat) (s : Nat → BitVec 32) : Prop := w.rowIs b 119 64 (fun i => v32 (s i))
theorem Ws.put {w : World} {b : Nat} {s : Nat → BitVec 32} (h : Ws w b s) (i : Nat) (x : BitVec 32) : Ws (w.setCell ⟨b, i, none⟩ (v32 x)) b (updw s i x) := by
  refine (h.set i _).congr fun j _ => ?_
  unfold updw
  split <;> simp [*]

theorem n32_and (x y : BitVec 32) : bits .and .u32 (n32 x) (n32 y) = n32 (x &&& y) := by
  unfold n32; rw [u32_and_nat _ _ x.isLt y.isLt, BitVec.toNat_and]

theorem n32_not (x : BitVec 32) : bits .xor .u32 IntKind.u32.max (n32 x) = n32 (~~~ x) := by
  rw [show IntKind.u32.max = n32 (BitVec.allOnes 32) by decide, n32_xor, BitVec.allOnes_xor]

/-- the rounds' numbers, as the program lays them -/
def kList : List (BitVec 32) := [1116352408#32, 1899447441#32, 3049323471#32, 3921009573#32, 961987163#32, 1508970993#32, 2453635748#32, 2870763221#32, 3624381080#32, 310598401#32, 607225278#32, 1426881987#32, 1925078388#32, 2162078206#32, 2614888103#32, 3248222580#32, 3835390401#32, 4022224774#32, 264347078#32, 604807628#32, 770255983#32, 1249150122#32, 1555081692#32, 1996064986#32, 2554220882#32, 2821834349#32, 2952996808#32, 3210313671#32, 3336571891#32, 3584528711#32, 113926993#32, 338241895#32, 666307205#32, 773529912#32, 1294757372#32, 1396182291#32, 1695183700#32, 1986661051#32, 2177026350#32, 2456956037#32, 2730485921#32, 2820302411#32, 3259730800#32, 3345764771#32, 3516065817#32, 3600352804#32, 4094571909#32, 275423344#32, 430227734#32, 506948616#32, 659060556#32, 883997877#32, 958139571#32, 1322822218#32, 1537002063#32, 1747873779#32, 1955562222#32, 2024104815#32, 2227730452#32, 2361852424#32, 2428436474#32, 2756734187#32, 3204031479#32, 3329325298#32]
def kR (i : Nat) : BitVec 32 := kList.getD i 0#32

def rnT (s : Nat → BitVec 32) (k w : BitVec 32) : BitVec 32 := s 7 + big_e (s 4) + ((s 4 &&& s 5) ^^^ (~~~ s 4 &&& s 6)) + k + w
def rnU (s : Nat → BitVec 32) : BitVec 32 := big_a (s 0) + ((s 0 &&& s 1) ^^^ (s 0 &&& s 2) ^^^ (s 1 &&& s 2))
/-- one round -/
def rnd (s : Nat → BitVec 32) (k w : BitVec 32) : Nat → BitVec 32
  | 0 => rnT s k w + rnU s
  | 1 => s 0
  | 2 => s 1
  | 3 => s 2
  | 4 => s 3 + rnT s k w
  | 5 => s 4
  | 6 => s 5
  | _ => s 6
def rds (s W : Nat → BitVec 32) : Nat → Nat → BitVec 32
  | 0 => s
  | k + 1 => rnd (rds s W k) (kR k) (W k)
def addTo (s r : Nat → BitVec 32) (n : Nat) : Nat → BitVec 32 := fun i => if i < n then s i + r i else s i
/-- the state behind a block -/
def mixed (s : Nat → BitVec 32) (m : Nat → BitVec 8) : Nat → BitVec 32 := addTo s (rds s (sched m) 64) 8

/-- a digest's block: the state, the block's bytes, how many are filled, how many came in all -/
def hcell (s : Nat → BitVec 32) (m : Nat → BitVec 8) (us tt : Int) : Nat → Value := fun i =>
  if i < 8 then v32 (s i) else if i < 72 then v8 (m (i - 8)) else if i = 72 then .int .i64 us else .int .u64 tt
abbrev HashR (w : World) (b : Nat) (s : Nat → BitVec 32) (m : Nat → BitVec 8) (us tt : Int) : Prop := w.rowIs b (0 : TypeId) 74 (hcell s m us tt)
def updb (m : Nat → BitVec 8) (i : Nat) (x : BitVec 8) : Nat → BitVec 8 := fun j => if j = i then x else m j

section
variable {w : World} {b : Nat} {s : Nat → BitVec 32} {m : Nat → BitVec 8} {us tt : Int}
theorem HashR.s_ (h : HashR w b s m us tt) (i : Nat) (hi : i < 8) : w.cell? ⟨b, i, none⟩ = some (v32 (s i)) := by
  have := h.cell (i := i) (by omega)
  simpa [hcell, hi] using this
theorem HashR.m_ (h : HashR w b s m us tt) (i : Nat) (hi : i < 64) : w.cell? ⟨b, 8 + i, none⟩ = some (v8 (m i)) := by
  have := h.cell (i := 8 + i) (by omega)
  rw [this]; unfold hcell
  rw [if_neg (by omega), if_pos (by omega), Nat.add_sub_cancel_left]
theorem HashR.u_ (h : HashR w b s m us tt) : w.cell? ⟨b, 72, none⟩ = some (.int .i64 us) := h.cell (i := 72) (by omega)
theorem HashR.t_ (h : HashR w b s m us tt) : w.cell? ⟨b, 73, none⟩ = some (.int .u64 tt) := h.cell (i := 73) (by omega)
theorem HashR.setS (h : HashR w b s m us tt) (i : Nat) (hi : i < 8) (x : BitVec 32) : HashR (w.setCell ⟨b, i, none⟩ (v32 x)) b (updw s i x) m us tt := by
  refine (h.set i _).congr fun j _ => ?_
  unfold hcell updw
  by_cases e : j = i
  · subst e; simp [hi]
  · simp [e]
theorem HashR.setM (h : HashR w b s m us tt) (i : Nat) (hi : i < 64) (x : BitVec 8) : HashR (w.setCell ⟨b, 8 + i, none⟩ (v8 x)) b s (updb m i x) us tt := by
  refine (h.set (8 + i) _).congr fun j _ => ?_
  unfold hcell updb
  by_cases e : j = 8 + i
  · subst e
    rw [if_pos rfl, if_neg (by omega), if_pos (by omega), if_pos (by omega)]
  · by_cases e8 : j < 8
    · simp [e, e8]
    · have e2 : ¬ j - 8 = i := by omega
      simp [e, e8, e2]
theorem HashR.setU (h : HashR w b s m us tt) (x : Int) : HashR (w.setCell ⟨b, 72, none⟩ (.int .i64 x)) b s m x tt := by
  refine (h.set 72 _).congr fun j _ => ?_
  unfold hcell
  by_cases e : j = 72
  · subst e; simp
  · simp [e]
theorem HashR.setT (h : HashR w b s m us tt) (x : Int) : HashR (w.setCell ⟨b, 73, none⟩ (.int .u64 x)) b s m us x := by
  refine (h.set 73 _).congr fun j _ => ?_
  unfold hcell
  by_cases e : j = 73
  · subst e; simp
  · by_cases e2 : j = 72
    · simp [e2]
    · by_cases e1 : j < 72
      · simp [e, e1]
      · by_cases e0 : j < 74
        · omega
        · simp [e, e1, e2]
          omega
end

/-- the rounds' numbers stand in the program's variable -/
def KAt (w : World) : Prop := ∀ i, i < 64 → w.cell? ⟨(0 : Nat), i, none⟩ = some (v32 (kR i))
namespace KAt
variable {w w' : World}
theorem cell (h : KAt w) {i : Nat} (hi : i < 64) : w.cell? ⟨(0 : Nat), i, none⟩ = some (v32 (kR i)) := h i hi
theorem lt (h : KAt w) : (0 : Nat) < w.heap.size := World.block_lt_of_cell? w _ (h 0 (by omega))
theorem of_block (h : KAt w) (e : w'.heap[((0 : Nat) : Nat)]? = w.heap[((0 : Nat) : Nat)]?) : KAt w' := fun i hi => (World.cell?_of_block (a := ⟨(0 : Nat), i, none⟩) e).trans (h i hi)
theorem alloc (h : KAt w) (o : Obj) : KAt (w.alloc o) := h.of_block (heap_alloc_old _ _ h.lt)
end KAt
theorem Only.kat {g : Nat} {w w' : World} (h : Only g w w') (hk : KAt w) (hne : g ≠ (0 : Nat)) : KAt w' := hk.of_block (h.block _ hk.lt (fun e => hne e.symm))

theorem wpList_copy_cells {P : Program} {w : World} {ops : Array Oper} {rest : List Oper} {o : Oper} {a : Act} {Q : Exit → Act → World → Prop} (hgd : o.guard = none) (d s : Operand) (dT sT : TypeId)
    (ho : o.op = .call { callee := .builtin .copy, args := #[d, s], argTypes := #[dT, sT] }) (elem : TypeId) (hu : P.underlying dT = some (.slice elem)) (hsz : (P.info? elem).map (·.size) = some 1)
    (g off dLen dCap : Nat) (ad : Addr) (sLen sCap : Nat) (hd : a.eval d = .slice (some ⟨g, off, none⟩) dLen dCap) (hs : a.eval s = .slice (some ad) sLen sCap)
    (cs : List Value) (hn : cs.length = Nat.min sLen dLen)
    (hsrc : ∀ j v, cs[j]? = some v → w.cell? (ad.add j) = some v) (hc : ∀ j, j < cs.length → (w.cell? ⟨g, off + j, none⟩).isSome = true) (hf : ∀ j, j < cs.length → w.frozen? ⟨g, off + j, none⟩ = false) (h1 : ∀ v ∈ cs, v.oneCell' = true)
    (h : wpList P ops Q rest (a.put o.dst (goInt cs.length)) (w.setCells g off cs)) : wpList P ops Q (o :: rest) a w := by
  refine wpList_plain hgd fun K hK => ?_
  have hrun := run_copy_cells (P := P) w dT sT o.type elem g off dLen dCap ad sLen sCap cs hu hsz hn hsrc hc hf h1
  unfold Oper.wp
  simp [execOp, ho, resolve, invoke, builtin, hd, hs, hrun, Result.andThen]
  exact hK _ _ h

/-- a slice's address behind a cut -/
def cutA (A : Option Addr) (l cap : Nat) : Option Addr := if cap = l then A else A.map (·.add l)
theorem slice_sl_l {P : Program} {t e : TypeId} (hu : P.underlying t = some (.slice e)) (hs : (P.info? e).map (·.size) = some 1) (A : Option Addr) (n cap l : Nat) (z : Int) (hz : z = l) (h1 : l ≤ n) (w : World) :
    (Instr.slice t (.slice A n cap) (some (.int .i64 z)) none none).run P w = .ok (.slice (cutA A l cap) (n - l) (cap - l)) w := by
  subst hz
  have e2 : P.elem t = e := by simp [Program.elem, hu]
  rw [run_slice_l (P := P) w t A n cap (by rw [e2]; exact hu) .i64 (l : Int) (by omega) (by omega), e2]
  obtain ⟨i, hi, hz⟩ := Option.map_eq_some_iff.1 hs
  simp [sizeOf, typeInfo, hi, hz, Result.andThen, sliced, cutA]
theorem cutA_some {l cap n b o : Nat} (h : l < n) (hc : n ≤ cap) : cutA (some ⟨b, o, none⟩) l cap = some ⟨b, o + l, none⟩ := by
  unfold cutA
  rw [if_neg (by omega)]
  simp [add_eq]

section
variable {P : Program} {t e : TypeId} {n : Nat}
/-- a slice of an array that lies in the midst of a block, to its end -/
theorem slice_mid_l (hu : P.underlying t = some (.array n e)) (hs : (P.info? e).map (·.size) = some 1) (b o : Nat) (kl : IntKind) (l : Int) (h0 : 0 ≤ l) (h3 : l < n) (w : World) :
    (Instr.sliceAt t (.pointer (some ⟨b, o, none⟩)) (some (.int kl l)) none none).run P w = .ok (.slice (some ⟨b, o + l.toNat, none⟩) (n - l.toNat) (n - l.toNat)) w := by
  have e1 : P.arrayLen t = n := by simp [Program.arrayLen, hu]
  have e2 : P.elem t = e := by simp [Program.elem, hu]
  have := run_sliceAt_array_l (P := P) w t ⟨b, o, none⟩ (by rw [e1, e2]; exact hu) kl l h0 (by rw [e1]; omega)
  rw [this, e1, e2]
  obtain ⟨i, hi, hz⟩ := Option.map_eq_some_iff.1 hs
  have hne : n ≠ l.toNat := by omega
  simp [sizeOf, typeInfo, hi, hz, Result.andThen, slicedAt, hne, Addr.add]
end

/-- bytes as numbers -/
def bys (ys : List (BitVec 8)) : List Int := ys.map fun y => n8 y
@[simp] theorem bys_length (ys : List (BitVec 8)) : (bys ys).length = ys.length := by simp [bys]
theorem bys_drop (ys : List (BitVec 8)) (n : Nat) : (bys ys).drop n = bys (ys.drop n) := by simp [bys, List.map_drop]
theorem bys_ints (ys : List (BitVec 8)) : ints .u8 (bys ys) = ys.map fun y => v8 y := by simp [ints, bys]

/-- a digest in the making -/
structure HSt where
  s : Nat → BitVec 32
  m : Nat → BitVec 8
  u : Nat
def feed1 (h : HSt) (x : BitVec 8) : HSt := if h.u + 1 = 64 then ⟨mixed h.s (updb h.m h.u x), updb h.m h.u x, 0⟩ else ⟨h.s, updb h.m h.u x, h.u + 1⟩
def feeds (h : HSt) (xs : List (BitVec 8)) : HSt := xs.foldl feed1 h
def updbs (m : Nat → BitVec 8) (u : Nat) : List (BitVec 8) → Nat → BitVec 8
  | [] => m
  | x :: r => updbs (updb m u x) (u + 1) r
theorem feeds_cons (h : HSt) (x : BitVec 8) (r : List (BitVec 8)) : feeds h (x :: r) = feeds (feed1 h x) r := rfl
theorem feeds_append (h : HSt) (xs ys : List (BitVec 8)) : feeds h (xs ++ ys) = feeds (feeds h xs) ys := by simp [feeds]
theorem feeds_short (xs : List (BitVec 8)) : ∀ (h : HSt), h.u + xs.length < 64 → feeds h xs = ⟨h.s, updbs h.m h.u xs, h.u + xs.length⟩ := by
  induction xs with
  | nil => intro h _; rfl
  | cons x r ih =>
    intro h hl
    simp at hl
    have e : feed1 h x = ⟨h.s, updb h.m h.u x, h.u + 1⟩ := by unfold feed1; rw [if_neg (by omega)]
    rw [feeds_cons, e, ih _ (by simp only; omega)]
    simp only [updbs, List.length_cons, HSt.mk.injEq, true_and]
    omega
theorem feeds_full (xs : List (BitVec 8)) : ∀ (h : HSt), h.u + xs.length = 64 → xs ≠ [] → feeds h xs = ⟨mixed h.s (updbs h.m h.u xs), updbs h.m h.u xs, 0⟩ := by
  induction xs with
  | nil => intro h _ hn; exact absurd rfl hn
  | cons x r ih =>
    intro h hl _
    simp at hl
    by_cases hr : r = []
    · subst hr
      simp at hl
      have e : feed1 h x = ⟨mixed h.s (updb h.m h.u x), updb h.m h.u x, 0⟩ := by unfold feed1; rw [if_pos (by omega)]
      rw [feeds_cons, e]; rfl
    · have hpos : 0 < r.length := by cases r <;> simp_all
      have e : feed1 h x = ⟨h.s, updb h.m h.u x, h.u + 1⟩ := by unfold feed1; rw [if_neg (by omega)]
      rw [feeds_cons, e, ih _ (by simp only; omega) hr]
      rfl
theorem feeds_u (xs : List (BitVec 8)) : ∀ (h : HSt), h.u < 64 → (feeds h xs).u < 64 := by
  induction xs with
  | nil => intro h hu; exact hu
  | cons x r ih =>
    intro h hu
    rw [feeds_cons]
    refine ih _ ?_
    unfold feed1
    split <;> simp only <;> omega

theorem HashR.setCells {b : Nat} {s : Nat → BitVec 32} {us tt : Int} : ∀ (xs : List (BitVec 8)) {w : World} {m : Nat → BitVec 8} (u : Nat), HashR w b s m us tt → u + xs.length ≤ 64 → HashR (w.setCells b (8 + u) (xs.map fun y => v8 y)) b s (updbs m u xs) us tt
  | [], _, _, _, h, _ => h
  | x :: r, w, m, u, h, hl => by
    simp at hl
    exact HashR.setCells r (u + 1) (h.setM u (by omega) x) (by omega)
theorem Only.setCells {g : Nat} {w : World} : ∀ (vs : List Value) (o : Nat) {w' : World}, Only g w w' → Only g w (w'.setCells g o vs)
  | [], _, _, h => h
  | v :: r, o, _, h => Only.setCells r (o + 1) (h.setCell o v)
theorem Only.cell {g : Nat} {w w' : World} (h : Only g w w') {b o : Nat} (hb : b < w.heap.size) (hne : b ≠ g) : w'.cell? ⟨b, o, none⟩ = w.cell? ⟨b, o, none⟩ :=
  World.cell?_of_block (h.block b hb hne)

theorem SlRead.cut {w : World} {A : Option Addr} {xs : List Int} {k : IntKind} (h : SlRead w A (ints k xs)) (c : Nat) (A' : Option Addr) (hA : c < xs.length → ∀ b o, A = some ⟨b, o, none⟩ → A' = some ⟨b, o + c, none⟩) : SlRead w A' (ints k (xs.drop c)) := by
  intro hn
  have hc : c < xs.length := by simp at hn; omega
  obtain ⟨b, o, rfl, hlt, hcell⟩ := h (by simp; omega)
  refine ⟨b, o + c, hA hc b o rfl, hlt, fun j u hu => ?_⟩
  rw [Nat.add_assoc]
  refine hcell (c + j) u ?_
  rw [← hu]
  simp [ints, List.getElem?_drop]

/-- not in that block -/
def OffB (A : Option Addr) (hb : Nat) : Prop := ∀ b o, A = some ⟨b, o, none⟩ → b ≠ hb
theorem SlRead.only {g : Nat} {w w' : World} {A : Option Addr} {xs : List Value} (h : SlRead w A xs) (ho : OffB A g) (hb : Only g w w') : SlRead w' A xs := by
  intro hn
  obtain ⟨b, o, rfl, hlt, hc⟩ := h hn
  exact ⟨b, o, rfl, Nat.lt_of_lt_of_le hlt hb.size, fun j u hu => (hb.cell hlt (ho b o rfl)).trans (hc j u hu)⟩

theorem wpList_alloc_z {P : Program} {w : World} {ops : Array Oper} {rest : List Oper} {o : Oper} {a : Act} {Q : Exit → Act → World → Prop} (hgd : o.guard = none) (t : TypeId) (ho : o.op = .alloc t) (z : Array Value)
    (hz : ∀ w, (zeroValue t).run P w = .ok (.agg z) w) (h : wpList P ops Q rest (a.put o.dst (.pointer (some ⟨w.heap.size, 0, none⟩))) (w.alloc (.cells z t))) : wpList P ops Q (o :: rest) a w := by
  refine wpList_plain hgd fun K hK => ?_
  unfold Oper.wp execOp
  simp [ho, Instr.alloc, hz, newVar, newRow, Value.cells, Result.andThen]
  exact hK _ _ h

theorem n8_byte (L : BitVec 64) (s : Nat) : (L.toNat : Int) / 2 ^ s % 256 = n8 ((L >>> s).setWidth 8) := by
  unfold n8 n32
  simp only [BitVec.toNat_setWidth, BitVec.toNat_ushiftRight, Nat.shiftRight_eq_div_pow]
  have : (2 ^ s : Int) = ((2 ^ s : Nat) : Int) := by simp
  rw [this]
  have h1 : L.toNat / 2 ^ s % 2 ^ 8 % 2 ^ 32 = L.toNat / 2 ^ s % 256 := by omega
  rw [h1]
  simp

section
variable {P : Program} {t e : TypeId} {n : Nat}
theorem slice_arr_hi (hu : P.underlying t = some (.array n e)) (hs : (P.info? e).map (·.size) = some 1) (b : Nat) (kh : IntKind) (h : Int) (h0 : 0 ≤ h) (h2 : h ≤ n) (w : World) :
    (Instr.sliceAt t (.pointer (some ⟨b, 0, none⟩)) none (some (.int kh h)) none).run P w = .ok (.slice (some ⟨b, 0, none⟩) h.toNat n) w := by
  have e1 : P.arrayLen t = n := by simp [Program.arrayLen, hu]
  have e2 : P.elem t = e := by simp [Program.elem, hu]
  have := run_sliceAt_array_h (P := P) w t ⟨b, 0, none⟩ (by rw [e1, e2]; exact hu) kh h h0 (by rw [e1]; exact h2)
  rw [this, e1, e2]
  obtain ⟨i, hi, hz⟩ := Option.map_eq_some_iff.1 hs
  simp [sizeOf, typeInfo, hi, hz, Result.andThen, slicedAt, Addr.add]
end

/-- how many bytes of the padding stand ahead of the length -/
def padN (u : Nat) : Nat := 1 + (119 - u) % 64
/-- the padding's byte i: L is the length in bits -/
def padF (n : Nat) (L : BitVec 64) (k : Nat) (i : Nat) : BitVec 8 := if n ≤ i ∧ i < n + k then (L >>> (56 - 8 * (i - n))).setWidth 8 else if i = 0 then 128#8 else 0#8
def padL (u : Nat) (L : BitVec 64) : List (BitVec 8) := (List.range (padN u + 8)).map (padF (padN u) L 8)

/-- a digest's words as bytes -/
def outB (s : Nat → BitVec 32) (i : Nat) : BitVec 8 := (s (i / 4) >>> (24 - 8 * (i % 4))).setWidth 8
/-- what Sum answers -/
def digOf (h : HSt) (L : BitVec 64) : Nat → BitVec 8 := outB (feeds h (padL h.u L)).s

theorem n32_byte (x : BitVec 32) (s : Nat) : n32 x / (2 ^ s : Nat) % (256 : Int) = n8 ((x >>> s).setWidth 8) := by
  unfold n8 n32
  simp only [BitVec.toNat_setWidth, BitVec.toNat_ushiftRight, Nat.shiftRight_eq_div_pow]
  have h1 : x.toNat / 2 ^ s % 2 ^ 8 % 2 ^ 32 = x.toNat / 2 ^ s % 256 := by omega
  rw [h1]
  simp

theorem rowIs_cells {w : World} {b : Nat} {t : TypeId} {n : Nat} {f : Nat → Value} (h : w.rowIs b t n f) : w.heap[b]? = some (.cells ((List.range n).map f).toArray t (0, 0)) := by
  obtain ⟨c, hb, hn, hc⟩ := h
  rw [hb]
  have : c = ((List.range n).map f).toArray := by
    apply Array.ext
    · simp [hn]
    · intro i h1 h2
      have e1 := hc i (by omega)
      rw [Array.getElem?_eq_getElem h1] at e1
      simpa using Option.some.inj e1
  rw [this]

def hrow (s : Nat → BitVec 32) (m : Nat → BitVec 8) (us tt : Int) : Array Value := ((List.range 74).map (hcell s m us tt)).toArray
@[simp] theorem hrow_size (s : Nat → BitVec 32) (m : Nat → BitVec 8) (us tt : Int) : (hrow s m us tt).size = 74 := by simp [hrow]
theorem hrow_get (s : Nat → BitVec 32) (m : Nat → BitVec 8) (us tt : Int) (i : Nat) (h : i < 74) : (hrow s m us tt)[i]? = some (hcell s m us tt i) := by simp [hrow, h]
theorem hrow_one (s : Nat → BitVec 32) (m : Nat → BitVec 8) (us tt : Int) : (hrow s m us tt).all (·.oneCell') = true := by
  rw [Array.all_eq_true_iff_forall_mem]
  intro v hv
  simp only [hrow, List.mem_toArray, List.mem_map] at hv
  obtain ⟨i, _, rfl⟩ := hv
  unfold hcell
  repeat' split
  all_goals rfl
theorem wpList_load_part {P : Program} {ops : Array Oper} {rest : List Oper} {op : Oper} {a : Act} {w : World} {Q : Exit → Act → World → Prop} (hgd : op.guard = none) (ty : TypeId) (x : Operand) (ho : op.op = .load ty x)
    (b o : Nat) (hx : a.eval x = .pointer (some ⟨b, o, none⟩)) (A : Array Value) (d : TypeDesc) (hc : w.rangeAt b o A.toList)
    (hu : P.underlying ty = some d) (hd : d.isRow = true) (hi : (P.info? ty).map (·.size) = some A.toList.length)
    (h : wpList P ops Q rest (a.put op.dst (.agg A)) w) : wpList P ops Q (op :: rest) a w :=
  wpList_load_mid hgd ty x ho b o hx A.toList d hc hu hd hi (by simpa using h)
def outTo (s : Nat → BitVec 32) (k : Nat) (i : Nat) : BitVec 8 := if i < 4 * k then outB s i else 0#8
def hzero : Array Value := Array.replicate 8 (.int .u32 0) ++ Array.replicate 64 (.int .u8 0) ++ #[.int .i64 0, .int .u64 0]
theorem hzero_size : hzero.size = 74 := by simp [hzero]

def iv : Nat → BitVec 32
  | 0 => 1779033703#32 | 1 => 3144134277#32 | 2 => 1013904242#32 | 3 => 2773480762#32 | 4 => 1359893119#32 | 5 => 2600822924#32 | 6 => 528734635#32 | _ => 1541459225#32
/-- a digest at its start -/
def h0 : HSt := ⟨iv, fun _ => 0#8, 0⟩

theorem wpList_build {P : Program} {w : World} {ops : Array Oper} {rest : List Oper} {o : Oper} {a : Act} {Q : Exit → Act → World → Prop} (hgd : o.guard = none) (t : TypeId) (parts : Array (Nat × Operand)) (ho : o.op = .build t parts)
    (ps : Array (Nat × Value)) (hp : (parts.map fun (i, x) => (i, a.eval x)) = ps) (v : Value)
    (hz : ∀ w, (Instr.build t ps).run P w = .ok v w) (h : wpList P ops Q rest (a.put o.dst v) w) : wpList P ops Q (o :: rest) a w := by
  refine wpList_plain hgd fun K hK => ?_
  unfold Oper.wp execOp
  simp only [ho]
  simp [hp, hz, Result.andThen]
  exact hK _ _ h

theorem ivrow : (Value.agg #[Value.int IntKind.u32 1779033703, Value.int IntKind.u32 3144134277, Value.int IntKind.u32 1013904242,
            Value.int IntKind.u32 2773480762, Value.int IntKind.u32 1359893119, Value.int IntKind.u32 2600822924,
            Value.int IntKind.u32 528734635, Value.int IntKind.u32 1541459225]) = .agg (arr32 8 iv) := by rfl

/-- a digest to which xs was written -/
abbrev HashX (w : World) (C : Nat) (xs : List (BitVec 8)) : Prop := HashR w C (feeds h0 xs).s (feeds h0 xs).m (feeds h0 xs).u ((xs.length : Int) % 18446744073709551616)
/-- the digest of xs, as the program reckons it -/
def shaOf (xs : List (BitVec 8)) : Nat → BitVec 8 := digOf (feeds h0 xs) (BitVec.ofNat 64 (8 * xs.length))

theorem h0_u (xs : List (BitVec 8)) : (feeds h0 xs).u < 64 := feeds_u xs h0 (by decide)
theorem len_wrap (n : Nat) : IntKind.u64.wrap ((n : Int) % 18446744073709551616 * 8) = ((BitVec.ofNat 64 (8 * n)).toNat : Int) := by
  rw [BitVec.toNat_ofNat]
  show ((n : Int) % 18446744073709551616 * 8) % 18446744073709551616 = _
  omega

/-- a slice of bytes: its address, its bytes, its room -/
abbrev BSl := Option Addr × List (BitVec 8) × Nat
abbrev slv (a : BSl) : Value := .slice a.1 a.2.1.length a.2.2
structure SlOk (w : World) (a : BSl) : Prop where
  r : SlRead w a.1 (ints .u8 (bys a.2.1))
  c : a.2.1.length ≤ a.2.2
  l : a.2.1.length ≤ 4611686018427387904
theorem SlOk.below {w w' : World} {a : BSl} (h : SlOk w a) (hb : Below w.heap.size w w') : SlOk w' a := ⟨h.r.below hb, h.c, h.l⟩
theorem SlRead.offB {w : World} {A : Option Addr} {xs : List Value} (h : SlRead w A xs) (hx : 0 < xs.length) {C : Nat} (hC : w.heap.size ≤ C) : OffB A C := by
  obtain ⟨b, o, rfl, hlt, _⟩ := h hx
  intro b' o' e
  simp at e
  omega
def flat (sl : List BSl) : List (BitVec 8) := sl.flatMap (·.2.1)
theorem flat_snoc (sl : List BSl) (k : Nat) (a : BSl) (h : sl[k]? = some a) : flat (sl.take (k + 1)) = flat (sl.take k) ++ a.2.1 := by
  unfold flat
  rw [List.take_add_one, h]
  simp

theorem arr8_cells (n : Nat) (f : Nat → BitVec 8) : arr8 n f = (((List.range n).map fun i => UInt8.ofBitVec (f i)).map Extern.Stop.cell).toArray := by
  unfold arr8
  rw [List.map_map]
  congr 1
theorem size_u8 (w : World) : (sizeOf 5).run Tryd.prog w = .ok 1 w := by
  obtain ⟨i, hi, hz⟩ := Option.map_eq_some_iff.1 (show (Tryd.prog.info? 5).map (·.size) = some 1 by kernel_rfl)
  simp [sizeOf, typeInfo, hi, hz, Result.andThen]
theorem equal32 (f : Nat → BitVec 8) (w : World) : (Op.equalIn 10000 37 (.agg (arr8 32 f)) (.agg (arr8 32 f))).run Tryd.prog w = .ok true w := by
  rw [arr8_cells, run_equalIn_bytes w 9998 37 5 32 Tryd.underlying37 Tryd.underlying5 size_u8 _ _ (by simp) (by simp)]
  simp
theorem wpList_eql_row {P : Program} {ops : Array Oper} {rest : List Oper} {o : Oper} {a : Act} {w : World} {Q : Exit → Act → World → Prop} (hw : Region.wanted o (yielded ops a.tmps) = true) (t t2 : TypeId) (x y : Operand) (ho : o.op = .binOp .eql t x y t2)
    (cx cy : Array Value) (hx : a.eval x = .agg cx) (hy : a.eval y = .agg cy) (b : Bool) (hgd : P.eqGuardType P.depth t = false) (he : ∀ w, (Op.equalIn 10000 t (.agg cx) (.agg cy)).run P w = .ok b w)
    (h : wpList P ops Q rest (a.put o.dst (.bool b)) w) : wpList P ops Q (o :: rest) a w :=
  BigFrame.wpList_want hw fun _ hK => by
    unfold Oper.wp execOp
    simp [ho, hx, hy, eqGuard, hgd, run_eql_struct, he, Result.andThen]
    exact hK _ _ h
theorem wpList_load_row_g {P : Program} {ops : Array Oper} {rest : List Oper} {o : Oper} {a : Act} {w : World} {Q : Exit → Act → World → Prop} (hw : Region.wanted o (yielded ops a.tmps) = true) (ty : TypeId) (x : Operand) (ho : o.op = .load ty x)
    (g : Nat) (hx : a.eval x = .pointer (some ⟨g, 0, none⟩)) (t : TypeId) (cs : Array Value) (fr : Nat × Nat) (d : TypeDesc) (hg : w.heap[g]? = some (.cells cs t fr))
    (hu : P.underlying ty = some d) (hd : (match d with | .struct _ | .array _ _ => true | _ => false) = true) (hi : (P.info? ty).map (·.size) = some cs.size)
    (h : wpList P ops Q rest (a.put o.dst (.agg cs)) w) : wpList P ops Q (o :: rest) a w :=
  BigFrame.wpList_want hw fun _ hK => wp_load_row ty x ho g hx t cs fr d hg hu hd hi (hK _ _ h)
/-- two rows of bytes, the same in each place -/
theorem equal32_of (f g : Nat → BitVec 8) (h : f = g) (w : World) : (Op.equalIn 10000 37 (.agg (arr8 32 f)) (.agg (arr8 32 g))).run Tryd.prog w = .ok true w := by
  subst h; exact equal32 f w
theorem ownsRow_via {w w' : World} {base : Nat} {e : TypeId} {size : Nat} {v : Value} {n : Nat} {xs : List Value} (h : w.ownsRow base e size v n xs) (hg : ∀ g, base ≤ g → g < w.heap.size → w'.heap[g]? = w.heap[g]?) : w'.ownsRow base e size v n xs := by
  obtain ⟨h1, h2⟩ := h
  refine ⟨h1, ?_⟩
  rcases h2 with h2 | ⟨g, cap, cur, e1, e2, e3, e4⟩
  · exact .inl h2
  · have hlt : g < w.heap.size := by
      obtain ⟨hl, _⟩ := Array.getElem?_eq_some_iff.1 e3
      exact hl
    exact .inr ⟨g, cap, cur, e1, e2, (hg g e2 hlt).trans e3, e4⟩
theorem ownsRow_form {w : World} {base : Nat} {e : TypeId} {size : Nat} {v : Value} {n : Nat} {xs : List Value} (h : w.ownsRow base e size v n xs) : ∃ A c, v = .slice A n c ∧ (0 < n → n ≤ c) := by
  rcases h.2 with ⟨h1, h2⟩ | ⟨g, cap, cur, e1, _, _, e4, _⟩
  · subst h2; exact ⟨none, 0, h1, by omega⟩
  · exact ⟨_, cap, e1, fun _ => e4⟩
theorem slice_sl_one {P : Program} {t e : TypeId} (hu : P.underlying t = some (.slice e)) (hs : (P.info? e).map (·.size) = some 1) (b o n cap k : Nat) (hk : k < n) (hc : n ≤ cap) (w : World) :
    (Instr.slice t (.slice (some ⟨b, o, none⟩) n cap) (some (.int .i64 k)) (some (.int .i64 ((k : Int) + 1))) none).run P w = .ok (.slice (some ⟨b, o + k, none⟩) 1 (cap - k)) w := by
  have e2 : P.elem t = e := by simp [Program.elem, hu]
  rw [run_slice_lh (P := P) w t (some ⟨b, o, none⟩) n cap (by rw [e2]; exact hu) .i64 .i64 (k : Int) ((k : Int) + 1) (by omega) (by omega) (by omega), e2]
  obtain ⟨i, hi, hz⟩ := Option.map_eq_some_iff.1 hs
  have h1 : ((k : Int) + 1).toNat = k + 1 := by omega
  have h2 : ¬ cap = k := by omega
  simp [sizeOf, typeInfo, hi, hz, Result.andThen, sliced, h1, h2, add_eq]

theorem Tryd.info25 : (Tryd.prog.info? 25).map (fun i => (i.zero, i.size, i.bytes)) = some (some (.slice none 0 0), 1, 24) := by kernel_rfl

theorem HashR.below {w w' : World} {b : Nat} {s : Nat → BitVec 32} {m : Nat → BitVec 8} {us tt : Int} (h : HashR w b s m us tt) (hb : Below w.heap.size w w') : HashR w' b s m us tt := h.of_block (hb.block _ h.lt)
theorem KAt.below {w w' : World} (h : KAt w) (hb : Below w.heap.size w w') : KAt w' := h.of_block (hb.block _ h.lt)
theorem OffB.of_lt {w : World} {A : Option Addr} {xs : List Value} (h : SlRead w A xs) (hx : 0 < xs.length) {C : Nat} (hC : w.heap.size ≤ C) : OffB A C := h.offB hx hC

theorem bsl_u8 (z : Int) (w : World) : (Instr.buildSlice 25 1 #[(0, .int .u8 z)]).run Tryd.prog w = .ok (.slice (some ⟨w.heap.size, 0, none⟩) 1 1) (w.alloc (.cells #[.int .u8 z] 5)) := by kernel_rfl
theorem rangeAt_row {w : World} {g : Nat} {t : TypeId} {n : Nat} {f : Nat → BitVec 8} (h : w.rowIs g t n (fun i => v8 (f i))) : w.rangeAt g 0 (arr8 n f).toList := by
  intro j v hv
  have hj : j < n := by
    have := (List.getElem?_eq_some_iff.1 hv).1
    simpa using this
  rw [Nat.zero_add, h.cell hj]
  rw [Array.getElem?_toList, arr8_get n f j hj] at hv
  exact hv
theorem rangeAt_below {w w' : World} {g o : Nat} {cs : List Value} (h : w.rangeAt g o cs) (hb : Below w.heap.size w w') (hg : g < w.heap.size) : w'.rangeAt g o cs := fun j v hv => (hb.cell (p := ⟨g, o + j, none⟩) hg).trans (h j v hv)

theorem SlRead.one_new {W : World} (v : Value) (t : TypeId) : SlRead (W.alloc (.cells #[v] t)) (some ⟨W.heap.size, 0, none⟩) [v] := by
  intro _
  refine ⟨W.heap.size, 0, rfl, by simp, fun j u hj => ?_⟩
  have hj0 : j = 0 := by
    have := (List.getElem?_eq_some_iff.1 hj).1
    simp at this
    omega
  subst hj0
  rw [World.cell?_alloc_new]
  exact hj
theorem n8_nat (x : BitVec 8) : n8 x = (x.toNat : Int) := by
  unfold n8 n32
  simp only [BitVec.toNat_setWidth]
  have := x.isLt
  omega
theorem n8_xor (x y : BitVec 8) : bits .xor .u8 (n8 x) (n8 y) = n8 (x ^^^ y) := by
  rw [u8_xor _ _ (n8_lo _) (n8_hi _) (n8_lo _) (n8_hi _), n8_nat, n8_nat, n8_nat, BitVec.toNat_xor]
  simp
theorem n8_or (x y : BitVec 8) : bits .or .u8 (n8 x) (n8 y) = n8 (x ||| y) := by
  rw [u8_or _ _ (n8_lo _) (n8_hi _) (n8_lo _) (n8_hi _), n8_nat, n8_nat, n8_nat, BitVec.toNat_or]
  simp
theorem n8_zero (x : BitVec 8) : (n8 x == 0) = decide (x = 0#8) := by
  rw [n8_nat, Bool.eq_iff_iff]
  simp only [beq_iff_eq, decide_eq_true_eq]
  constructor
  · intro h
    apply BitVec.eq_of_toNat_eq
    simpa using h
  · intro h; subst h; rfl
theorem or_zero (x y z : BitVec 8) : (x ||| (y ^^^ z)) = 0#8 ↔ x = 0#8 ∧ y = z := by
  constructor
  · intro h
    have h1 : x = 0#8 := by
      apply BitVec.eq_of_getLsbD_eq
      intro i hi
      have := congrArg (·.getLsbD i) h
      simp at this ⊢
      simp [this]
    refine ⟨h1, ?_⟩
    subst h1
    apply BitVec.eq_of_getLsbD_eq
    intro i hi
    have := congrArg (·.getLsbD i) h
    simpa using this
  · rintro ⟨rfl, rfl⟩; simp

def SameN (xs ys : List (BitVec 8)) (k : Nat) : Prop := ∀ j, j < k → xs[j]? = ys[j]?

theorem SlRead.byte {w : World} {A : Option Addr} {xs : List (BitVec 8)} (h : SlRead w A (ints .u8 (bys xs))) {j : Nat} (hj : j < xs.length) :
    ∃ b o, A = some ⟨b, o, none⟩ ∧ w.cell? ⟨b, o + j, none⟩ = some (v8 xs[j]) := by
  obtain ⟨b, o, rfl, _, hc⟩ := h (by simp; omega)
  exact ⟨b, o, rfl, hc j _ (by rw [bys_ints]; simp [hj])⟩

/-- an array's bytes as a list -/
def lst (n : Nat) (f : Nat → BitVec 8) : List (BitVec 8) := (List.range n).map f
@[simp] theorem lst_length (n : Nat) (f : Nat → BitVec 8) : (lst n f).length = n := by simp [lst]
theorem lst_get (n : Nat) (f : Nat → BitVec 8) (i : Nat) (h : i < n) : (lst n f)[i]? = some (f i) := by simp [lst, h]
theorem slread_row {w : World} {g : Nat} {t : TypeId} {n : Nat} {f : Nat → BitVec 8} (h : w.rowIs g t n (fun i => v8 (f i))) : SlRead w (some ⟨g, 0, none⟩) (ints .u8 (bys (lst n f))) := by
  intro _
  refine ⟨g, 0, rfl, h.lt, fun j u hj => ?_⟩
  rw [bys_ints] at hj
  have hjn : j < n := by
    have := (List.getElem?_eq_some_iff.1 hj).1
    simpa using this
  rw [Nat.zero_add, h.cell hjn, ← hj]
  simp [lst, hjn]

section
variable {P : Program} {t e : TypeId}
theorem sliceAt_all (n : Nat) (hu : P.underlying t = some (.array n e)) (hs : (P.info? e).map (·.size) = some 1) (b : Nat) (hn : 0 < n) (w : World) :
    (Instr.sliceAt t (.pointer (some ⟨b, 0, none⟩)) none none none).run P w = .ok (.slice (some ⟨b, 0, none⟩) n n) w := sliceAt_arr n hu hs b hn w
end

/-- the key as it is used: its digest where it is longer than a block -/
def keyOf (key : List (BitVec 8)) : List (BitVec 8) := if 64 < key.length then lst 32 (shaOf key) else key
theorem keyOf_len (key : List (BitVec 8)) : (keyOf key).length ≤ 64 := by
  unfold keyOf
  split
  · simp
  · omega
/-- both pads -/
def inP (key : List (BitVec 8)) (i : Nat) : BitVec 8 := (keyOf key).getD i 0#8 ^^^ 54#8
def outP (key : List (BitVec 8)) (i : Nat) : BitVec 8 := (keyOf key).getD i 0#8 ^^^ 92#8
def padTo (k : List (BitVec 8)) (x : BitVec 8) (m : Nat) (i : Nat) : BitVec 8 := if i < m then k.getD i 0#8 ^^^ x else k.getD i 0#8
theorem padTo_step (k : List (BitVec 8)) (x : BitVec 8) (m : Nat) (j : Nat) : (if j = m then v8 (k.getD m 0#8 ^^^ x) else v8 (padTo k x m j)) = v8 (padTo k x (m + 1) j) := by
  unfold padTo
  by_cases e : j = m
  · subst e; simp
  · rw [if_neg e]
    by_cases h : j < m
    · rw [if_pos h, if_pos (by omega)]
    · rw [if_neg h, if_neg (by omega)]

theorem rowIs_setCells {g : Nat} {t : TypeId} {n : Nat} : ∀ (xs : List (BitVec 8)) {w : World} {f : Nat → BitVec 8} (o : Nat), w.rowIs g t n (fun i => v8 (f i)) → (w.setCells g o (xs.map fun y => v8 y)).rowIs g t n (fun i => v8 (if o ≤ i ∧ i < o + xs.length then xs.getD (i - o) 0#8 else f i))
  | [], w, f, o, h => h.congr fun i _ => by rw [if_neg (by simp)]
  | x :: r, w, f, o, h => by
    have h1 : (w.setCell ⟨g, o, none⟩ (v8 x)).rowIs g t n (fun i => v8 (if i = o then x else f i)) := (h.set o (v8 x)).congr fun i _ => by split <;> rfl
    refine (rowIs_setCells r (o + 1) h1).congr fun i _ => ?_
    by_cases e : i = o
    · subst e
      have e1 : ¬ (i + 1 ≤ i ∧ i < i + 1 + r.length) := by omega
      have e2 : i ≤ i ∧ i < i + (x :: r).length := by simp
      rw [if_neg e1, if_pos rfl, if_pos e2]
      simp
    · by_cases e2 : o + 1 ≤ i ∧ i < o + 1 + r.length
      · have e3 : o ≤ i ∧ i < o + (x :: r).length := by simp; omega
        rw [if_pos e2, if_pos e3, show i - o = (i - (o + 1)) + 1 by omega]
        simp
      · have e3 : ¬ (o ≤ i ∧ i < o + (x :: r).length) := by simp; omega
        rw [if_neg e2, if_neg e3, if_neg e]
theorem wpList_copy_row {P : Program} {w : World} {ops : Array Oper} {rest : List Oper} {o : Oper} {a : Act} {Q : Exit → Act → World → Prop} (hgd : o.guard = none) (d s : Operand) (dT sT : TypeId)
    (ho : o.op = .call { callee := .builtin .copy, args := #[d, s], argTypes := #[dT, sT] }) (elem : TypeId) (hu : P.underlying dT = some (.slice elem)) (hsz : (P.info? elem).map (·.size) = some 1)
    (g n : Nat) (sp : Option Addr) (sLen sCap : Nat) (hd : a.eval d = .slice (some ⟨g, 0, none⟩) n n) (hs : a.eval s = .slice sp sLen sCap) (t : TypeId) (f : Nat → BitVec 8) (hr : w.rowIs g t n (fun i => v8 (f i)))
    (K : List (BitVec 8)) (hKl : K.length = sLen) (hn : sLen ≤ n) (hS : SlRead w sp (ints .u8 (bys K)))
    (h : ∀ W', W'.rowIs g t n (fun i => v8 (if i < K.length then K.getD i 0#8 else f i)) → Only g w W' → wpList P ops Q rest (a.put o.dst (goInt K.length)) W') : wpList P ops Q (o :: rest) a w := by
  by_cases h0 : K.length = 0
  · refine wpList_copy_nothing hgd d s dT sT ho elem hu hsz (some ⟨g, 0, none⟩) sp n n sLen sCap hd hs (by rw [← hKl, h0]; exact Nat.zero_min _) ?_
    have := h w (hr.congr fun i _ => by rw [if_neg (by omega)]) (Only.refl _ _)
    rwa [h0] at this
  · obtain ⟨b, o', rfl, _, hc⟩ := hS (by simp; omega)
    have hl : (K.map fun y => v8 y).length = K.length := by simp
    have h2 := h (w.setCells g 0 (K.map fun y => v8 y)) ((rowIs_setCells K 0 hr).congr fun i _ => by simp) (Only.setCells _ _ (Only.refl _ _))
    refine wpList_copy_cells hgd d s dT sT ho elem hu hsz g 0 n n ⟨b, o', none⟩ sLen sCap hd hs (K.map fun y => v8 y) (by rw [hl, hKl]; exact (Nat.min_eq_left hn).symm) ?_ ?_ ?_ ?_ (by rw [hl]; exact h2)
    · intro j v hv
      rw [add_eq]
      exact hc j v (by rw [bys_ints]; exact hv)
    · intro j hj
      rw [hl] at hj
      rw [Nat.zero_add]
      exact Option.isSome_of_eq_some (hr.cell (i := j) (by omega))
    · intro j _
      exact hr.frozen _
    · intro v hv
      obtain ⟨x, _, rfl⟩ := List.mem_map.1 hv
      rfl

section
variable {P : Program} {md : Region.Mode} {ops : Array Oper} {Q : Exit → Act → World → Prop} {S : World → Prop} {fuel : Nat} {listed : Array Bool} {a : Act} {w : World}
/-- one of the operations that are ready: a store -/
theorem rdy_store {rs : List Nat} (i : Nat) (ty : TypeId) (x y : Operand) (dst : Option Tmp) (vx vy : Value) (w2 : World)
    (hi : ops[i]?.map (fun o => (o.op, o.dst, Region.wanted o (yielded ops a.tmps))) = some (.store ty x y, dst, true))
    (hx : (a.eval x, a.eval y) = (vx, vy)) (hrun : (Instr.storeAt ty vx vy).run P w = .ok () w2) (hS : S w2)
    (h : S w2 → wpAnyH P md ops Q S fuel (listed.setIfInBounds i true) (a.put dst undef) w2) (rest : AllReadyH P md ops Q S fuel listed a w rs) : AllReadyH P md ops Q S fuel listed a w (i :: rs) := by
  obtain ⟨oi, ho, he⟩ := Option.map_eq_some_iff.1 hi
  simp only [Prod.mk.injEq] at he hx
  refine AllReadyH.cons ho (fun K hK => ?_) rest
  rw [if_pos he.2.2]
  unfold Oper.wp
  simp [execOp, he.1, hx.1, hx.2, hrun, Result.andThen]
  show K (a.put oi.dst undef) w2
  rw [he.2.1]
  exact hK.out _ _ hS h
end
/-- what lies there is laid there again -/
theorem row_again {P : Program} {w : World} {g : Nat} {t ty : TypeId} {n : Nat} {f : Nat → BitVec 8} (h : w.rowIs g t n (fun i => v8 (f i))) (hi : (P.info? ty).map (·.size) = some n) :
    (Instr.storeAt ty (.pointer (some ⟨g, 0, none⟩)) (.agg (arr8 n f))).run P w = .ok () (w.setCells g 0 ((lst n f).map fun y => v8 y)) ∧ (w.setCells g 0 ((lst n f).map fun y => v8 y)).rowIs g t n (fun i => v8 (f i)) ∧ Only g w (w.setCells g 0 ((lst n f).map fun y => v8 y)) := by
  have he : (arr8 n f).toList = (lst n f).map fun y => v8 y := by simp [arr8, lst]
  refine ⟨?_, ?_, Only.setCells _ _ (Only.refl _ _)⟩
  · have := run_storeAt_mid (P := P) w g 0 ty (arr8 n f) (fun j hj => ⟨by rw [Nat.zero_add]; exact Option.isSome_of_eq_some (h.cell (i := j) (by simpa using hj)), h.frozen _⟩) (by rw [hi]; simp) (arr8_one n f)
    rwa [he] at this
  · refine (rowIs_setCells (lst n f) 0 h).congr fun i hi => ?_
    rw [if_pos (by simp; omega)]
    simp [List.getD, lst_get n f i hi]

theorem results_two_rows {P : Program} {fn : Func} {p q : Tmp} {ty : TypeId} (h : fn.results = #[.cell p ty, .cell q ty]) (tmps : Array Value) (w : World) (g g' : Nat) (t t' : TypeId) (cs cs' : Array Value) (fr fr' : Nat × Nat) (d : TypeDesc)
    (hp : tmps.getD p undef = .pointer (some ⟨g, 0, none⟩)) (hg : w.heap[g]? = some (.cells cs t fr)) (hq : tmps.getD q undef = .pointer (some ⟨g', 0, none⟩)) (hg' : w.heap[g']? = some (.cells cs' t' fr'))
    (hu : P.underlying ty = some d) (hd : (match d with | .struct _ | .array _ _ => true | _ => false) = true) (hi : (P.info? ty).map (·.size) = some cs.size) (hi' : (P.info? ty).map (·.size) = some cs'.size) :
    (results fn tmps).run P w = .ok (.tuple #[.agg cs, .agg cs']) w := by
  have hp' : tmps[p]?.getD undef = .pointer (some ⟨g, 0, none⟩) := by simpa using hp
  have hq' : tmps[q]?.getD undef = .pointer (some ⟨g', 0, none⟩) := by simpa using hq
  simp [results, h, hp', hq', asAddr, run_loadVar_row w g t ty cs fr d hg hu hd hi, run_loadVar_row w g' t' ty cs' fr' d hg' hu hd hi']

end Go.Proofs.YtffkjbbhbpaacaaDoor
