import Derived.Test.YtocjmlncpjfnfaaDoorAr
import Derived.StillTailTactics
/-
  
  
  
-/
namespace Go.Proofs.YtocjmlncpjfnfaaDoor
open Go.RowKit

def sm_s (x : BitVec 32) : BitVec 32 := x.rotateRight 7 ^^^ x.rotateRight 18 ^^^ x >>> 3
def sm_t (x : BitVec 32) : BitVec 32 := x.rotateRight 17 ^^^ x.rotateRight 19 ^^^ x >>> 10
def updw (s : Nat → BitVec 32) (i : Nat) (x : BitVec 32) : Nat → BitVec 32 := fun j => if j = i then x else s j
def w16 (m : Nat → BitVec 8) : Nat → Nat → BitVec 32
  | 0 => fun _ => 0#32
  | k + 1 => updw (w16 m k) k (wordB (m (4 * k)) (m (4 * k + 1)) (m (4 * k + 2)) (m (4 * k + 3)))
def w64 (s : Nat → BitVec 32) : Nat → Nat → BitVec 32
  | 0 => s
  | k + 1 => updw (w64 s k) (16 + k) (w64 s k k + sm_s (w64 s k (k + 1)) + w64 s k (k + 9) + sm_t (w64 s k (k + 14)))
def sched (m : Nat → BitVec 8) : Nat → BitVec 32 := w64 (w16 m 16) 48

abbrev Ws (w : World) (b : Nat) (s : Nat → BitVec 32) : Prop := w.rowIs b 118 64 (fun i => v32 (s i))
theorem Ws.put {w : World} {b : Nat} {s : Nat → BitVec 32} (h : Ws w b s) (i : Nat) (x : BitVec 32) : Ws (w.setCell ⟨b, i, none⟩ (v32 x)) b (updw s i x) := by
  refine (h.set i _).congr fun j _ => ?_
  unfold updw
  split <;> simp [*]

set_option maxRecDepth 100000 in
set_option maxHeartbeats 1600000 in
theorem schedule_any (hb : Nat) (m : Nat → BitVec 8) (w : World) (hm : ∀ i, i < 64 → w.cell? ⟨hb, 8 + i, none⟩ = some (v8 (m i))) (hlt : hb < w.heap.size) :
    Calls Tryd.prog 99 #[.pointer (some ⟨hb, 0, none⟩)] w fun e w' => e = .returned (.agg (arr32 64 (sched m))) ∧ Below w.heap.size w w' := by
  go_enter Tryd.func99, Tryd.ntmps99
  go_upto_region 2 with (fail)
  refine wp_world (fun W => Below w.heap.size w W ∧ W.rowIs w.heap.size 118 64 (fun _ => .int .u32 0) ∧ Ws W (w.heap.size + 1) (w16 m 0)) ⟨by go_grown, (rowIs_new _ _ _ _ _ _ (by simp) (by rfl) (fun i hi => (by simp [hi] : (Array.replicate 64 (Value.int IntKind.u32 0))[i]? = some (.int .u32 0)))).alloc _, rowIs_new _ _ _ _ _ _ (by simp) (by rfl) (fun i hi => (by simp [hi, w16, n32] : (Array.replicate 64 (Value.int IntKind.u32 0))[i]? = some (v32 (w16 m 0 i))))⟩ ?_
  rintro W ⟨hb0, hr0, hw0⟩
  generalize hB : w.heap.size = B at *
  have HB := Lib.hid hB; clear hB
  go_wp2_with fail
  go_loopw [11] (fun i wr => ∃ k : Nat, k ≤ 16 ∧ i = .int .i64 k ∧ Below B w wr ∧ wr.rowIs B 118 64 (fun _ => .int .u32 0) ∧ Ws wr (B + 1) (w16 m k)) (fun i _ => 16 - (intOf i).toNat)
  case atStart => exact ⟨0, by omega, rfl, hb0, hr0, hw0⟩
  clear hb0 hr0 hw0
  case round =>
    obtain ⟨k, hk, rfl, hbl, hr, hw⟩ := hrel
    by_cases hlt2 : k < 16
    · have cc : ∀ i, i < 64 → wr.cell? ⟨hb, 8 + i, none⟩ = some (v8 (m i)) := fun i hi => by rw [World.cell?_of_block (hbl.block hb hlt)]; exact hm i hi
      have c0 := cc (4 * k) (by omega)
      have c1 := cc (4 * k + 1) (by omega)
      have c2 := cc (4 * k + 2) (by omega)
      have c3 := cc (4 * k + 3) (by omega)
      rw [← Nat.add_assoc] at c1 c2 c3
      clear cc
      have hsl := slice_mid_lh (P := Tryd.prog) Tryd.underlying137 (show (Tryd.prog.info? 5).map (·.size) = some 1 by kernel_rfl) hb 8 .i64 .i64 (4 * (k : Int)) (4 * (k : Int) + 4) (by omega) (by omega) (by omega) (by omega)
      rw [show (4 * (k : Int)).toNat = 4 * k by omega, show (4 * (k : Int) + 4).toNat = 4 * k + 4 by omega, show 4 * k + 4 - 4 * k = 4 by omega] at hsl
      have cw := hw.cell (i := k) (by omega)
      have fw := hw.frozen k
      have hw1 : Ws _ (B + 1) (w16 m (k + 1)) := hw.put k (wordB (m (4 * k)) (m (4 * k + 1)) (m (4 * k + 2)) (m (4 * k + 3)))
      have hr1 : World.rowIs _ B 118 64 _ := hr.setOther (a := ⟨B + 1, k, none⟩) (by simp only; omega) (v32 (wordB (m (4 * k)) (m (4 * k + 1)) (m (4 * k + 2)) (m (4 * k + 3))))
      have hb1 : Below B w (wr.setCell ⟨B + 1, k, none⟩ (v32 (wordB (m (4 * k)) (m (4 * k + 1)) (m (4 * k + 2)) (m (4 * k + 3))))) := hbl.setCell (by simp only; omega) _
      clear hw hr hbl
      generalize m (4 * k) = x at *
      generalize m (4 * k + 1) = y at *
      generalize m (4 * k + 2) = z at *
      generalize m (4 * k + 3) = u at *
      have s1 := n8_shl24 x
      have s2 := n8_shl16 y
      have s3 := n8_shl8 z
      have b0 := n8_hi x
      have b1 := n8_hi y
      have b2 := n8_hi z
      have b3 := n8_hi u
      have l0 := n8_lo x
      have l1 := n8_lo y
      have l2 := n8_lo z
      have l3 := n8_lo u
      have o1 := n32_or (x.setWidth 32 <<< 24) (y.setWidth 32 <<< 16)
      have o2 := n32_or (x.setWidth 32 <<< 24 ||| y.setWidth 32 <<< 16) (z.setWidth 32 <<< 8)
      have o3 := n32_or (x.setWidth 32 <<< 24 ||| y.setWidth 32 <<< 16 ||| z.setWidth 32 <<< 8) (u.setWidth 32)
      rw [show x.setWidth 32 <<< 24 ||| y.setWidth 32 <<< 16 ||| z.setWidth 32 <<< 8 ||| u.setWidth 32 = wordB x y z u from rfl] at o3
      go_wp2_with fail
      go_region
      go_wp2_with fail
      go_roundw
      case rel => exact ⟨k + 1, by omega, by go_num, hb1.drew, hr1, hw1⟩
      case measure => simp [intOf]; omega
    · have hdk : decide ((k : Int) < 16) = false := by simp; omega
      have hk16 : k = 16 := by omega
      rw [hk16] at hw
      clear hk16
      go_wp2_with fail
      go_loopw [6] (fun i wr => ∃ k : Nat, k ≤ 48 ∧ i = .int .i64 ((16 + k : Nat) : Int) ∧ Below B w wr ∧ wr.rowIs B 118 64 (fun _ => .int .u32 0) ∧ Ws wr (B + 1) (w64 (w16 m 16) k)) (fun i _ => 64 - (intOf i).toNat)
      case atStart => exact ⟨0, by omega, rfl, hbl, hr, hw⟩
      clear hbl hr hw
      case round =>
        obtain ⟨j, hj, rfl, hbl, hr, hw⟩ := hrel
        by_cases hlt3 : j < 48
        · have h15 : ((16 + j : Nat) : Int) - 15 = ((j + 1 : Nat) : Int) := by omega
          have h2 : ((16 + j : Nat) : Int) - 2 = ((j + 14 : Nat) : Int) := by omega
          have h16 : ((16 + j : Nat) : Int) - 16 = (j : Int) := by omega
          have h7 : ((16 + j : Nat) : Int) - 7 = ((j + 9 : Nat) : Int) := by omega
          have hput := Ws.put hw (16 + j) (w64 (w16 m 16) j j + sm_s (w64 (w16 m 16) j (j + 1)) + w64 (w16 m 16) j (j + 9) + sm_t (w64 (w16 m 16) j (j + 14)))
          have hE : updw (w64 (w16 m 16) j) (16 + j) (w64 (w16 m 16) j j + sm_s (w64 (w16 m 16) j (j + 1)) + w64 (w16 m 16) j (j + 9) + sm_t (w64 (w16 m 16) j (j + 14))) = w64 (w16 m 16) (j + 1) := rfl
          generalize w64 (w16 m 16) j = S at *
          have c1 := hw.cell (i := j + 1) (by omega)
          have c14 := hw.cell (i := j + 14) (by omega)
          have c0 := hw.cell (i := j) (by omega)
          have c9 := hw.cell (i := j + 9) (by omega)
          generalize hn : 16 + j = n at *
          have hn0 : (0 : Int) ≤ (n : Int) := by omega
          have hn1 : (n : Int) < 64 := by omega
          generalize hp1 : j + 1 = p1 at *
          generalize hp14 : j + 14 = p14 at *
          generalize hp9 : j + 9 = p9 at *
          have HE := Lib.hid hE; clear hE
          have e1 : (p1 : Int) < 64 := by omega
          have e14 : (p14 : Int) < 64 := by omega
          have e9 : (p9 : Int) < 64 := by omega
          have e0 : (j : Int) < 64 := by omega
          go_wp2_with fail
          go_quiet (fail)
          have x1 := n32_xor ((S p1).rotateRight 7) ((S p1).rotateRight 18)
          have x2 := n32_xor ((S p1).rotateRight 7 ^^^ (S p1).rotateRight 18) (S p1 >>> 3)
          rw [show (S p1).rotateRight 7 ^^^ (S p1).rotateRight 18 ^^^ S p1 >>> 3 = sm_s (S p1) from rfl] at x2
          have x3 : n32 (S p1) / (8 : Int) = n32 (S p1 >>> 3) := n32_shr (S p1) 3
          have y1 := n32_xor ((S p14).rotateRight 17) ((S p14).rotateRight 19)
          have y2 := n32_xor ((S p14).rotateRight 17 ^^^ (S p14).rotateRight 19) (S p14 >>> 10)
          rw [show (S p14).rotateRight 17 ^^^ (S p14).rotateRight 19 ^^^ S p14 >>> 10 = sm_t (S p14) from rfl] at y2
          have y3 : n32 (S p14) / (1024 : Int) = n32 (S p14 >>> 10) := n32_shr (S p14) 10
          go_wp2_with fail
          go_at_call 101
          refine (rr_7 _ _).mono ?_; rintro e w1 ⟨rfl, rfl⟩
          go_wp2_with fail
          go_at_call 101
          refine (rr_18 _ _).mono ?_; rintro e w1 ⟨rfl, rfl⟩
          go_wp2_with fail
          go_at_call 101
          refine (rr_17 _ _).mono ?_; rintro e w1 ⟨rfl, rfl⟩
          go_wp2_with fail
          go_at_call 101
          refine (rr_19 _ _).mono ?_; rintro e w1 ⟨rfl, rfl⟩
          go_wp2_with fail
          clear x1 x2 x3 y1 y2 y3
          have a1 := n32_add (S j) (sm_s (S p1))
          have a2 := n32_add (S j + sm_s (S p1)) (S p9)
          have a3 := n32_add (S j + sm_s (S p1) + S p9) (sm_t (S p14))
          have hr1 := hr.setOther (a := ⟨B + 1, n, none⟩) (by simp only; omega) (v32 (S j + sm_s (S p1) + S p9 + sm_t (S p14)))
          have hb1 : Below B w (wr.setCell ⟨B + 1, n, none⟩ (v32 (S j + sm_s (S p1) + S p9 + sm_t (S p14)))) := hbl.setCell (by simp only; omega) _
          have fn := hw.frozen n
          have fo := hw.cell (i := n) (by omega)
          clear hw hr hbl
          go_region
          go_wp2_with fail
          go_roundw
          case rel =>
            refine ⟨p1, by omega, by congr 1; omega, ?_, hr1, by rw [← HE.out]; exact hput⟩
            first | exact hb1.drew | exact hb1.trans (Below.drewNr _)
          case measure => simp [intOf]; omega
        · have hdk2 : decide (((16 + j : Nat) : Int) < 64) = false := by simp; omega
          have hj48 : j = 48 := by omega
          subst hj48
          rw [show w64 (w16 m 16) 48 = sched m from rfl] at hw
          have hh := rowIs_heap32 hw
          obtain ⟨old, hr1, hr2, _⟩ := hr
          generalize hz : sched m = z at *
          have HZ := Lib.hid hz; clear hz
          have hbb := below_setRow (g := B) hbl (by omega) (arr32 64 z)
          have hres : (wr.setRow B (arr32 64 z)).heap[B]? = some (.cells (arr32 64 z) 118 (0, 0)) := setRow_heap _ _ _ _ _ _ hr1
          go_wp2_with (first | (refine wpList_load_row rfl 118 _ rfl _ rfl _ _ _ _ hh Tryd.underlying118 rfl (by kernel_rfl) ?_) | (refine wpList_store_row rfl 118 _ _ rfl _ _ rfl rfl _ _ hr1 (by kernel_rfl) (by simpa using hr2) (arr32_one _ _) ?_))
          refine bodyPost_ret (results_cell_row rfl _ _ _ _ _ _ _ rfl hres Tryd.underlying118 rfl (by kernel_rfl)) rfl ?_
          rw [HZ.out, HB.out]
          exact ⟨rfl, hbb⟩
theorem n32_and (x y : BitVec 32) : bits .and .u32 (n32 x) (n32 y) = n32 (x &&& y) := by
  unfold n32; rw [u32_and_nat _ _ x.isLt y.isLt, BitVec.toNat_and]

theorem n32_not (x : BitVec 32) : bits .xor .u32 IntKind.u32.max (n32 x) = n32 (~~~ x) := by
  rw [show IntKind.u32.max = n32 (BitVec.allOnes 32) by decide, n32_xor, BitVec.allOnes_xor]

/-- the rounds' numbers, as the program lays them -/
def kList : List (BitVec 32) := [1116352408#32, 1899447441#32, 3049323471#32, 3921009573#32, 961987163#32, 1508970993#32, 2453635748#32, 2870763221#32, 3624381080#32, 310598401#32, 607225278#32, 1426881987#32, 1925078388#32, 2162078206#32, 2614888103#32, 3248222580#32, 3835390401#32, 4022224774#32, 264347078#32, 604807628#32, 770255983#32, 1249150122#32, 1555081692#32, 1996064986#32, 2554220882#32, 2821834349#32, 2952996808#32, 3210313671#32, 3336571891#32, 3584528711#32, 113926993#32, 338241895#32, 666307205#32, 773529912#32, 1294757372#32, 1396182291#32, 1695183700#32, 1986661051#32, 2177026350#32, 2456956037#32, 2730485921#32, 2820302411#32, 3259730800#32, 3345764771#32, 3516065817#32, 3600352804#32, 4094571909#32, 275423344#32, 430227734#32, 506948616#32, 659060556#32, 883997877#32, 958139571#32, 1322822218#32, 1537002063#32, 1747873779#32, 1955562222#32, 2024104815#32, 2227730452#32, 2361852424#32, 2428436474#32, 2756734187#32, 3204031479#32, 3329325298#32]
def kR (i : Nat) : BitVec 32 := kList.getD i 0#32

def rnT (s : Nat → BitVec 32) (k w : BitVec 32) : BitVec 32 := s 7 + big_e (s 4) + ((s 4 &&& s 5) ^^^ (~~~ s 4 &&& s 6)) + k + w
def rnU (s : Nat → BitVec 32) : BitVec 32 := big_a (s 0) + ((s 0 &&& s 1) ^^^ (s 0 &&& s 2) ^^^ (s 1 &&& s 2))
/-- one round -/
def rnd (s : Nat → BitVec 32) (k w : BitVec 32) : Nat → BitVec 32
  | 0 => rnT s k w + rnU s
  | 1 => s 0
  | 2 => s 1
  | 3 => s 2
  | 4 => s 3 + rnT s k w
  | 5 => s 4
  | 6 => s 5
  | _ => s 6
def rds (s W : Nat → BitVec 32) : Nat → Nat → BitVec 32
  | 0 => s
  | k + 1 => rnd (rds s W k) (kR k) (W k)
def addTo (s r : Nat → BitVec 32) (n : Nat) : Nat → BitVec 32 := fun i => if i < n then s i + r i else s i
/-- the state behind a block -/
def mixed (s : Nat → BitVec 32) (m : Nat → BitVec 8) : Nat → BitVec 32 := addTo s (rds s (sched m) 64) 8

/-- a digest's block: the state, the block's bytes, how many are filled, how many came in all -/
def hcell (s : Nat → BitVec 32) (m : Nat → BitVec 8) (us tt : Int) : Nat → Value := fun i =>
  if i < 8 then v32 (s i) else if i < 72 then v8 (m (i - 8)) else if i = 72 then .int .i64 us else .int .u64 tt
abbrev HashR (w : World) (b : Nat) (s : Nat → BitVec 32) (m : Nat → BitVec 8) (us tt : Int) : Prop := w.rowIs b 139 74 (hcell s m us tt)
def updb (m : Nat → BitVec 8) (i : Nat) (x : BitVec 8) : Nat → BitVec 8 := fun j => if j = i then x else m j

section
variable {w : World} {b : Nat} {s : Nat → BitVec 32} {m : Nat → BitVec 8} {us tt : Int}
theorem HashR.s_ (h : HashR w b s m us tt) (i : Nat) (hi : i < 8) : w.cell? ⟨b, i, none⟩ = some (v32 (s i)) := by
  have := h.cell (i := i) (by omega)
  simpa [hcell, hi] using this
theorem HashR.m_ (h : HashR w b s m us tt) (i : Nat) (hi : i < 64) : w.cell? ⟨b, 8 + i, none⟩ = some (v8 (m i)) := by
  have := h.cell (i := 8 + i) (by omega)
  rw [this]; unfold hcell
  rw [if_neg (by omega), if_pos (by omega), Nat.add_sub_cancel_left]
theorem HashR.u_ (h : HashR w b s m us tt) : w.cell? ⟨b, 72, none⟩ = some (.int .i64 us) := h.cell (i := 72) (by omega)
theorem HashR.t_ (h : HashR w b s m us tt) : w.cell? ⟨b, 73, none⟩ = some (.int .u64 tt) := h.cell (i := 73) (by omega)
theorem HashR.setS (h : HashR w b s m us tt) (i : Nat) (hi : i < 8) (x : BitVec 32) : HashR (w.setCell ⟨b, i, none⟩ (v32 x)) b (updw s i x) m us tt := by
  refine (h.set i _).congr fun j _ => ?_
  unfold hcell updw
  by_cases e : j = i
  · subst e; simp [hi]
  · simp [e]
theorem HashR.setM (h : HashR w b s m us tt) (i : Nat) (hi : i < 64) (x : BitVec 8) : HashR (w.setCell ⟨b, 8 + i, none⟩ (v8 x)) b s (updb m i x) us tt := by
  refine (h.set (8 + i) _).congr fun j _ => ?_
  unfold hcell updb
  by_cases e : j = 8 + i
  · subst e
    rw [if_pos rfl, if_neg (by omega), if_pos (by omega), if_pos (by omega)]
  · by_cases e8 : j < 8
    · simp [e, e8]
    · have e2 : ¬ j - 8 = i := by omega
      simp [e, e8, e2]
theorem HashR.setU (h : HashR w b s m us tt) (x : Int) : HashR (w.setCell ⟨b, 72, none⟩ (.int .i64 x)) b s m x tt := by
  refine (h.set 72 _).congr fun j _ => ?_
  unfold hcell
  by_cases e : j = 72
  · subst e; simp
  · simp [e]
theorem HashR.setT (h : HashR w b s m us tt) (x : Int) : HashR (w.setCell ⟨b, 73, none⟩ (.int .u64 x)) b s m us x := by
  refine (h.set 73 _).congr fun j _ => ?_
  unfold hcell
  by_cases e : j = 73
  · subst e; simp
  · by_cases e2 : j = 72
    · simp [e2]
    · by_cases e1 : j < 72
      · simp [e, e1]
      · by_cases e0 : j < 74
        · omega
        · simp [e, e1, e2]
          omega
end

/-- the rounds' numbers stand in the program's variable -/
def KAt (w : World) : Prop := ∀ i, i < 64 → w.cell? ⟨19, i, none⟩ = some (v32 (kR i))
namespace KAt
variable {w w' : World}
theorem cell (h : KAt w) {i : Nat} (hi : i < 64) : w.cell? ⟨19, i, none⟩ = some (v32 (kR i)) := h i hi
theorem lt (h : KAt w) : 19 < w.heap.size := World.block_lt_of_cell? w _ (h 0 (by omega))
theorem of_block (h : KAt w) (e : w'.heap[(19 : Nat)]? = w.heap[(19 : Nat)]?) : KAt w' := fun i hi => (World.cell?_of_block (a := ⟨19, i, none⟩) e).trans (h i hi)
theorem alloc (h : KAt w) (o : Obj) : KAt (w.alloc o) := h.of_block (heap_alloc_old _ _ h.lt)
end KAt
theorem Only.kat {g : Nat} {w w' : World} (h : Only g w w') (hk : KAt w) (hne : g ≠ 19) : KAt w' := hk.of_block (h.block _ hk.lt (fun e => hne e.symm))

set_option maxRecDepth 100000 in
set_option maxHeartbeats 1600000 in
theorem mix_any (hb : Nat) (s : Nat → BitVec 32) (m : Nat → BitVec 8) (us tt : Int) (w : World) (hm : HashR w hb s m us tt) (hlt : hb < w.heap.size) (hk : KAt w) :
    Calls Tryd.prog 97 #[.pointer (some ⟨hb, 0, none⟩)] w fun e w' => e = .returned (.tuple #[]) ∧ HashR w' hb (mixed s m) m us tt ∧ Only hb w w' := by
  go_enter Tryd.func97, Tryd.ntmps97
  go_upto_region 1 with (first | (go_at_call 99; refine (schedule_any hb m w hm.m_ hlt).mono ?_; rintro e W1 ⟨rfl, hb1⟩) | (refine wpList_store_row rfl 118 _ _ rfl _ _ rfl rfl _ _ (heap_alloc_new _ _) (by kernel_rfl) (by simp) (arr32_one _ _) ?_; rw [alloc_setRow]))
  generalize hC : W1.heap.size = C at *
  have hCl : w.heap.size ≤ C := by rw [← hC]; exact hb1.size
  refine wp_world (fun W => Below w.heap.size w W ∧ C < W.heap.size ∧ W.rowIs C 118 64 (fun i => v32 (sched m i))) ?_ ?_
  · exact ⟨hb1.alloc hb1.size _, by simp [hC], rowIs_new _ _ _ _ _ _ hC.symm (by simp) (fun i hi => arr32_get 64 _ i hi)⟩
  rintro W ⟨hbl, hCs, hw⟩
  clear hb1 hC
  have cc : ∀ i, i < 8 → W.cell? ⟨hb, i, none⟩ = some (v32 (s i)) := fun i hi => by rw [World.cell?_of_block (hbl.block hb hlt)]; exact hm.s_ i hi
  have c0 := cc 0 (by omega)
  have c1 := cc 1 (by omega)
  have c2 := cc 2 (by omega)
  have c3 := cc 3 (by omega)
  have c4 := cc 4 (by omega)
  have c5 := cc 5 (by omega)
  have c6 := cc 6 (by omega)
  have c7 := cc 7 (by omega)
  clear cc
  go_quiet (fail)
  go_wp2_with fail
  clear c0 c1 c2 c3
  go_quiet (fail)
  clear c4 c5 c6 c7
  go_upto_region 3 with (fail)
  refine wp_world (fun W => Below w.heap.size w W ∧ C < W.heap.size ∧ W.rowIs C 118 64 (fun i => v32 (sched m i))) ?_ ?_
  · exact ⟨(hbl.trans (Below.drewNr _)).trans (Below.drewNr _), hCs, hw⟩
  clear hw hCs hbl W
  rintro W ⟨hbl, hCs, hw⟩
  go_wp2_with fail
  go_loopw [58, 3, 4, 5, 6, 7, 8, 9, 10] (fun i a b c d e f g h wr => ∃ k : Nat, k ≤ 64 ∧ i = .int .i64 k ∧ a = v32 (rds s (sched m) k 0) ∧ b = v32 (rds s (sched m) k 1) ∧ c = v32 (rds s (sched m) k 2) ∧ d = v32 (rds s (sched m) k 3) ∧ e = v32 (rds s (sched m) k 4) ∧ f = v32 (rds s (sched m) k 5) ∧ g = v32 (rds s (sched m) k 6) ∧ h = v32 (rds s (sched m) k 7) ∧ Below w.heap.size w wr ∧ C < wr.heap.size ∧ wr.rowIs C 118 64 (fun i => v32 (sched m i))) (fun i _ _ _ _ _ _ _ _ _ => 64 - (intOf i).toNat)
  case atStart => exact ⟨0, by omega, rfl, rfl, rfl, rfl, rfl, rfl, rfl, rfl, rfl, hbl, hCs, hw⟩
  clear hw hCs hbl W
  case round =>
    obtain ⟨k, hk1, rfl, rfl, rfl, rfl, rfl, rfl, rfl, rfl, rfl, hbl, hCs, hw⟩ := hrel
    by_cases hlt2 : k < 64
    · have E : rnd (rds s (sched m) k) (kR k) (sched m k) = rds s (sched m) (k + 1) := rfl
      have HE := Lib.hid E; clear E
      have gk : KAt wr := hk.of_block (hbl.block 19 hk.lt)
      have g1 := gk.cell (i := k) (by omega)
      have g2 := hw.cell (i := k) (by omega)
      generalize kR k = kk at *
      generalize sched m k = ww at *
      generalize rds s (sched m) k = R at *
      have hk0 : (k : Int) < 64 := by omega
      have nt := n32_not (R 4)
      have a0 := n32_and (R 4) (R 5)
      have a1 := n32_and (~~~ R 4) (R 6)
      have a2 := n32_xor (R 4 &&& R 5) (~~~ R 4 &&& R 6)
      have b0 := n32_add (R 7) (big_e (R 4))
      have b1 := n32_add (R 7 + big_e (R 4)) ((R 4 &&& R 5) ^^^ (~~~ R 4 &&& R 6))
      have b2 := n32_add (R 7 + big_e (R 4) + ((R 4 &&& R 5) ^^^ (~~~ R 4 &&& R 6))) kk
      have b3 := n32_add (R 7 + big_e (R 4) + ((R 4 &&& R 5) ^^^ (~~~ R 4 &&& R 6)) + kk) ww
      have b4 : (n32 (R 7 + big_e (R 4)) + n32 ((R 4 &&& R 5) ^^^ (~~~ R 4 &&& R 6)) + n32 kk + n32 ww) % 4294967296 = n32 (rnT R kk ww) := by
        rw [show rnT R kk ww = R 7 + big_e (R 4) + ((R 4 &&& R 5) ^^^ (~~~ R 4 &&& R 6)) + kk + ww from rfl, ← b3, ← b2, ← b1]
        omega
      clear b1 b2 b3
      go_wp2_with fail
      go_quiet (first | (go_at_call 100; refine Calls.quiet_of_same (turn_e _ _)))
      go_wp2_with fail
      clear nt a0 a1 a2 b0 b4 g1 g2
      refine (turn_a _ _).mono ?_; rintro e w1 ⟨rfl, rfl⟩
      have a0 := n32_and (R 0) (R 1)
      have a1 := n32_and (R 0) (R 2)
      have a2 := n32_and (R 1) (R 2)
      have b0 := n32_xor (R 0 &&& R 1) (R 0 &&& R 2)
      have b1 := n32_xor (R 0 &&& R 1 ^^^ R 0 &&& R 2) (R 1 &&& R 2)
      have b2 := n32_add (big_a (R 0)) ((R 0 &&& R 1) ^^^ (R 0 &&& R 2) ^^^ (R 1 &&& R 2))
      rw [show big_a (R 0) + ((R 0 &&& R 1) ^^^ (R 0 &&& R 2) ^^^ (R 1 &&& R 2)) = rnU R from rfl] at b2
      have d0 := n32_add (R 3) (rnT R kk ww)
      have d1 := n32_add (rnT R kk ww) (rnU R)
      go_wp2_with fail
      go_roundw
      case rel =>
        refine ⟨k + 1, by omega, by go_num, ?_⟩
        rw [← HE.out]
        exact ⟨rfl, rfl, rfl, rfl, rfl, rfl, rfl, rfl, hbl.trans (Below.drewNr _), hCs, hw⟩
      case measure => simp [intOf]; omega
    · have hdk : decide ((k : Int) < 64) = false := by simp; omega
      have hk64 : k = 64 := by omega
      subst hk64
      clear hw hCs
      have hh : HashR wr hb (addTo s (rds s (sched m) 64) 0) m us tt := (hm.of_block (hbl.block hb hlt)).congr fun j _ => by simp [addTo, hcell]
      have hon : Only hb w wr := Only.of_below hbl
      have hmx : addTo s (rds s (sched m) 64) 8 = mixed s m := rfl
      clear hbl hm
      generalize rds s (sched m) 64 = R at *
      have HMX := Lib.hid hmx; clear hmx
      have hR := fun k (h : k < 8) => arr32_get 8 R k h
      go_wp2_with fail
      go_loopw [118] (fun i wr => ∃ k : Nat, k ≤ 8 ∧ i = .int .i64 k ∧ HashR wr hb (addTo s R k) m us tt ∧ Only hb w wr) (fun i _ => 8 - (intOf i).toNat)
      case atStart => exact ⟨0, by omega, rfl, hh, hon⟩
      clear hh hon
      case round =>
        obtain ⟨k, hk1, rfl, hh, hon⟩ := hrel
        by_cases hlt2 : k < 8
        · have hix : ∀ w : World, (Instr.index 99 (.agg #[v32 (R 0), v32 (R 1), v32 (R 2), v32 (R 3), v32 (R 4), v32 (R 5), v32 (R 6), v32 (R 7)]) (.int .i64 k)).run Tryd.prog w = .ok (v32 (R k)) w :=
            fun w => index_arr Tryd.underlying99 Tryd.underlying24 (by kernel_rfl) (arr32 8 R) k hlt2 _ (hR k hlt2) w
          have hk0 : (k : Int) < 8 := by omega
          have c1 := hh.s_ k hlt2
          rw [show addTo s R k k = s k by simp [addTo]] at c1
          have fz := hh.frozen k
          have a1 := n32_add (s k) (R k)
          have hh1 : HashR _ hb (addTo s R (k + 1)) m us tt := (hh.setS k hlt2 (s k + R k)).congr fun j _ => by
            congr 1
            funext j
            unfold updw addTo
            split
            · subst_vars; simp
            · by_cases e : j < k
              · simp [e]; omega
              · simp [e]; omega
          have hon1 := hon.setCell k (v32 (s k + R k))
          clear hh hon
          go_wp2_with fail
          go_region
          go_wp2_with fail
          go_roundw
          case rel => exact ⟨k + 1, by omega, by go_num, hh1, hon1.trans (Only.drewN _)⟩
          case measure => simp [intOf]; omega
        · have hdk2 : decide ((k : Int) < 8) = false := by simp; omega
          have hk8 : k = 8 := by omega
          subst hk8
          rw [HMX.out] at hh
          go_wp2_with fail
          go_end0
          exact ⟨rfl, hh, hon⟩
theorem wpList_copy_cells {P : Program} {w : World} {ops : Array Oper} {rest : List Oper} {o : Oper} {a : Act} {Q : Exit → Act → World → Prop} (hgd : o.guard = none) (d s : Operand) (dT sT : TypeId)
    (ho : o.op = .call { callee := .builtin .copy, args := #[d, s], argTypes := #[dT, sT] }) (elem : TypeId) (hu : P.underlying dT = some (.slice elem)) (hsz : (P.info? elem).map (·.size) = some 1)
    (g off dLen dCap : Nat) (ad : Addr) (sLen sCap : Nat) (hd : a.eval d = .slice (some ⟨g, off, none⟩) dLen dCap) (hs : a.eval s = .slice (some ad) sLen sCap)
    (cs : List Value) (hn : cs.length = Nat.min sLen dLen)
    (hsrc : ∀ j v, cs[j]? = some v → w.cell? (ad.add j) = some v) (hc : ∀ j, j < cs.length → (w.cell? ⟨g, off + j, none⟩).isSome = true) (hf : ∀ j, j < cs.length → w.frozen? ⟨g, off + j, none⟩ = false) (h1 : ∀ v ∈ cs, v.oneCell' = true)
    (h : wpList P ops Q rest (a.put o.dst (goInt cs.length)) (w.setCells g off cs)) : wpList P ops Q (o :: rest) a w := by
  refine wpList_plain hgd fun K hK => ?_
  have hrun := run_copy_cells (P := P) w dT sT o.type elem g off dLen dCap ad sLen sCap cs hu hsz hn hsrc hc hf h1
  unfold Oper.wp
  simp [execOp, ho, resolve, invoke, builtin, hd, hs, hrun, Result.andThen]
  exact hK _ _ h

/-- a slice's address behind a cut -/
def cutA (A : Option Addr) (l cap : Nat) : Option Addr := if cap = l then A else A.map (·.add l)
theorem slice_sl_l {P : Program} {t e : TypeId} (hu : P.underlying t = some (.slice e)) (hs : (P.info? e).map (·.size) = some 1) (A : Option Addr) (n cap l : Nat) (z : Int) (hz : z = l) (h1 : l ≤ n) (w : World) :
    (Instr.slice t (.slice A n cap) (some (.int .i64 z)) none none).run P w = .ok (.slice (cutA A l cap) (n - l) (cap - l)) w := by
  subst hz
  have e2 : P.elem t = e := by simp [Program.elem, hu]
  rw [run_slice_l (P := P) w t A n cap (by rw [e2]; exact hu) .i64 (l : Int) (by omega) (by omega), e2]
  obtain ⟨i, hi, hz⟩ := Option.map_eq_some_iff.1 hs
  simp [sizeOf, typeInfo, hi, hz, Result.andThen, sliced, cutA]
theorem cutA_some {l cap n b o : Nat} (h : l < n) (hc : n ≤ cap) : cutA (some ⟨b, o, none⟩) l cap = some ⟨b, o + l, none⟩ := by
  unfold cutA
  rw [if_neg (by omega)]
  simp [add_eq]

section
variable {P : Program} {t e : TypeId} {n : Nat}
/-- a slice of an array that lies in the midst of a block, to its end -/
theorem slice_mid_l (hu : P.underlying t = some (.array n e)) (hs : (P.info? e).map (·.size) = some 1) (b o : Nat) (kl : IntKind) (l : Int) (h0 : 0 ≤ l) (h3 : l < n) (w : World) :
    (Instr.sliceAt t (.pointer (some ⟨b, o, none⟩)) (some (.int kl l)) none none).run P w = .ok (.slice (some ⟨b, o + l.toNat, none⟩) (n - l.toNat) (n - l.toNat)) w := by
  have e1 : P.arrayLen t = n := by simp [Program.arrayLen, hu]
  have e2 : P.elem t = e := by simp [Program.elem, hu]
  have := run_sliceAt_array_l (P := P) w t ⟨b, o, none⟩ (by rw [e1, e2]; exact hu) kl l h0 (by rw [e1]; omega)
  rw [this, e1, e2]
  obtain ⟨i, hi, hz⟩ := Option.map_eq_some_iff.1 hs
  have hne : n ≠ l.toNat := by omega
  simp [sizeOf, typeInfo, hi, hz, Result.andThen, slicedAt, hne, Addr.add]
end

/-- bytes as numbers -/
def bys (ys : List (BitVec 8)) : List Int := ys.map fun y => n8 y
@[simp] theorem bys_length (ys : List (BitVec 8)) : (bys ys).length = ys.length := by simp [bys]
theorem bys_drop (ys : List (BitVec 8)) (n : Nat) : (bys ys).drop n = bys (ys.drop n) := by simp [bys, List.map_drop]
theorem bys_ints (ys : List (BitVec 8)) : ints .u8 (bys ys) = ys.map fun y => v8 y := by simp [ints, bys]

/-- a digest in the making -/
structure HSt where
  s : Nat → BitVec 32
  m : Nat → BitVec 8
  u : Nat
def feed1 (h : HSt) (x : BitVec 8) : HSt := if h.u + 1 = 64 then ⟨mixed h.s (updb h.m h.u x), updb h.m h.u x, 0⟩ else ⟨h.s, updb h.m h.u x, h.u + 1⟩
def feeds (h : HSt) (xs : List (BitVec 8)) : HSt := xs.foldl feed1 h
def updbs (m : Nat → BitVec 8) (u : Nat) : List (BitVec 8) → Nat → BitVec 8
  | [] => m
  | x :: r => updbs (updb m u x) (u + 1) r
theorem feeds_cons (h : HSt) (x : BitVec 8) (r : List (BitVec 8)) : feeds h (x :: r) = feeds (feed1 h x) r := rfl
theorem feeds_append (h : HSt) (xs ys : List (BitVec 8)) : feeds h (xs ++ ys) = feeds (feeds h xs) ys := by simp [feeds]
theorem feeds_short (xs : List (BitVec 8)) : ∀ (h : HSt), h.u + xs.length < 64 → feeds h xs = ⟨h.s, updbs h.m h.u xs, h.u + xs.length⟩ := by
  induction xs with
  | nil => intro h _; rfl
  | cons x r ih =>
    intro h hl
    simp at hl
    have e : feed1 h x = ⟨h.s, updb h.m h.u x, h.u + 1⟩ := by unfold feed1; rw [if_neg (by omega)]
    rw [feeds_cons, e, ih _ (by simp only; omega)]
    simp only [updbs, List.length_cons, HSt.mk.injEq, true_and]
    omega
theorem feeds_full (xs : List (BitVec 8)) : ∀ (h : HSt), h.u + xs.length = 64 → xs ≠ [] → feeds h xs = ⟨mixed h.s (updbs h.m h.u xs), updbs h.m h.u xs, 0⟩ := by
  induction xs with
  | nil => intro h _ hn; exact absurd rfl hn
  | cons x r ih =>
    intro h hl _
    simp at hl
    by_cases hr : r = []
    · subst hr
      simp at hl
      have e : feed1 h x = ⟨mixed h.s (updb h.m h.u x), updb h.m h.u x, 0⟩ := by unfold feed1; rw [if_pos (by omega)]
      rw [feeds_cons, e]; rfl
    · have hpos : 0 < r.length := by cases r <;> simp_all
      have e : feed1 h x = ⟨h.s, updb h.m h.u x, h.u + 1⟩ := by unfold feed1; rw [if_neg (by omega)]
      rw [feeds_cons, e, ih _ (by simp only; omega) hr]
      rfl
theorem feeds_u (xs : List (BitVec 8)) : ∀ (h : HSt), h.u < 64 → (feeds h xs).u < 64 := by
  induction xs with
  | nil => intro h hu; exact hu
  | cons x r ih =>
    intro h hu
    rw [feeds_cons]
    refine ih _ ?_
    unfold feed1
    split <;> simp only <;> omega

theorem HashR.setCells {b : Nat} {s : Nat → BitVec 32} {us tt : Int} : ∀ (xs : List (BitVec 8)) {w : World} {m : Nat → BitVec 8} (u : Nat), HashR w b s m us tt → u + xs.length ≤ 64 → HashR (w.setCells b (8 + u) (xs.map fun y => v8 y)) b s (updbs m u xs) us tt
  | [], _, _, _, h, _ => h
  | x :: r, w, m, u, h, hl => by
    simp at hl
    exact HashR.setCells r (u + 1) (h.setM u (by omega) x) (by omega)
theorem Only.setCells {g : Nat} {w : World} : ∀ (vs : List Value) (o : Nat) {w' : World}, Only g w w' → Only g w (w'.setCells g o vs)
  | [], _, _, h => h
  | v :: r, o, _, h => Only.setCells r (o + 1) (h.setCell o v)
theorem Only.cell {g : Nat} {w w' : World} (h : Only g w w') {b o : Nat} (hb : b < w.heap.size) (hne : b ≠ g) : w'.cell? ⟨b, o, none⟩ = w.cell? ⟨b, o, none⟩ :=
  World.cell?_of_block (h.block b hb hne)

theorem SlRead.cut {w : World} {A : Option Addr} {xs : List Int} {k : IntKind} (h : SlRead w A (ints k xs)) (c : Nat) (A' : Option Addr) (hA : c < xs.length → ∀ b o, A = some ⟨b, o, none⟩ → A' = some ⟨b, o + c, none⟩) : SlRead w A' (ints k (xs.drop c)) := by
  intro hn
  have hc : c < xs.length := by simp at hn; omega
  obtain ⟨b, o, rfl, hlt, hcell⟩ := h (by simp; omega)
  refine ⟨b, o + c, hA hc b o rfl, hlt, fun j u hu => ?_⟩
  rw [Nat.add_assoc]
  refine hcell (c + j) u ?_
  rw [← hu]
  simp [ints, List.getElem?_drop]

/-- not in that block -/
def OffB (A : Option Addr) (hb : Nat) : Prop := ∀ b o, A = some ⟨b, o, none⟩ → b ≠ hb
theorem SlRead.only {g : Nat} {w w' : World} {A : Option Addr} {xs : List Value} (h : SlRead w A xs) (ho : OffB A g) (hb : Only g w w') : SlRead w' A xs := by
  intro hn
  obtain ⟨b, o, rfl, hlt, hc⟩ := h hn
  exact ⟨b, o, rfl, Nat.lt_of_lt_of_le hlt hb.size, fun j u hu => (hb.cell hlt (ho b o rfl)).trans (hc j u hu)⟩

set_option maxRecDepth 100000 in
set_option maxHeartbeats 1600000 in
theorem write_any (hb : Nat) (h : HSt) (tt : Int) (A : Option Addr) (ys : List (BitVec 8)) (cap : Nat) (w : World) (hh : HashR w hb h.s h.m h.u tt) (hu : h.u < 64)
    (hk : KAt w) (hne : hb ≠ 19) (hA : SlRead w A (ints .u8 (bys ys))) (hO : 0 < ys.length → OffB A hb) (hcap : ys.length ≤ cap) (hlen : ys.length ≤ 4611686018427387904) :
    Calls Tryd.prog 93 #[.pointer (some ⟨hb, 0, none⟩), .slice A ys.length cap] w fun e w' => e = .returned (.tuple #[]) ∧ HashR w' hb (feeds h ys).s (feeds h ys).m (feeds h ys).u ((tt + ys.length) % 18446744073709551616) ∧ Only hb w w' := by
  have hblw := hh.lt
  have c3 := hh.t_
  have fz := hh.frozen 73
  have ht1 := hh.setT ((tt + ys.length) % 18446744073709551616)
  go_enter Tryd.func93, Tryd.ntmps93
  go_wp2_with fail
  refine wp_world (fun W => HashR W hb h.s h.m h.u ((tt + ys.length) % 18446744073709551616) ∧ Only hb w W) ⟨ht1, (Only.refl hb w).setCell _ _⟩ ?_
  rintro W ⟨hW, hon⟩
  clear ht1 fz c3 hh
  generalize hT : (tt + (ys.length : Int)) % 18446744073709551616 = T at *
  have HT := Lib.hid hT; clear hT
  go_loopw [1] (fun b wr => ∃ (k : Nat) (A' : Option Addr) (c' : Nat), k ≤ ys.length ∧ b = .slice A' (ys.length - k) c' ∧ ys.length - k ≤ c' ∧ SlRead w A' (ints .u8 (bys (ys.drop k))) ∧ (0 < ys.length → OffB A' hb) ∧ HashR wr hb (feeds h (ys.take k)).s (feeds h (ys.take k)).m (feeds h (ys.take k)).u T ∧ Only hb w wr) (fun b _ => match b with | .slice _ n _ => n | _ => 0)
  case atStart => exact ⟨0, A, cap, by omega, rfl, by omega, by simpa using hA, hO, by simpa [feeds] using hW, hon⟩
  clear hW hon hA hO
  case round =>
    obtain ⟨k, A', c', hk1, rfl, hc', hA, hO, hW, hon⟩ := hrel
    by_cases hlt : k < ys.length
    · have hHu := feeds_u (ys.take k) h hu
      generalize hH : feeds h (ys.take k) = H at *
      obtain ⟨n, hn⟩ : ∃ n, n = Nat.min (ys.length - k) (64 - H.u) := ⟨_, rfl⟩
      have hn1 : 0 < n ∧ n ≤ ys.length - k ∧ n ≤ 64 - H.u := by
        rw [hn]
        refine ⟨Nat.lt_min.2 ⟨by omega, by omega⟩, Nat.min_le_left _ _, Nat.min_le_right _ _⟩
      obtain ⟨cs, hcs⟩ : ∃ cs, cs = (ys.drop k).take n := ⟨_, rfl⟩
      have hcl : cs.length = n := by rw [hcs]; simp; omega
      have hnext : feeds h (ys.take (k + n)) = feeds H cs := by
        rw [← hH, ← feeds_append, hcs, List.take_add]
      obtain ⟨b, o, rfl, hblt, hcell⟩ := hA (by simp; omega)
      have hbne := hO (by omega) b o rfl
      have hsrc : ∀ (W : World), Only hb w W → ∀ j v, (cs.map fun y => v8 y)[j]? = some v → W.cell? ((⟨b, o, none⟩ : Addr).add j) = some v := by
        intro W hW j v hv
        rw [add_eq, hW.cell hblt hbne]
        refine hcell j v ?_
        rw [bys_ints, ← hv, hcs]
        have hj : j < n := by
          have := (List.getElem?_eq_some_iff.1 hv).1
          rw [List.length_map, hcl] at this
          exact this
        simp only [List.getElem?_map, List.getElem?_take]
        rw [if_pos hj]
      generalize hL : ys.length - k = L at *
      have HCS := Lib.hid hcs; clear hcs
      have HN := Lib.hid hn; clear hn
      have hL0 : (0 : Int) < (L : Int) := by omega
      have cu := hW.u_
      have hsl := slice_mid_l (P := Tryd.prog) Tryd.underlying137 (show (Tryd.prog.info? 5).map (·.size) = some 1 by kernel_rfl) hb 8 .i64 (H.u : Int) (by omega) (by omega)
      rw [show (H.u : Int).toNat = H.u by omega] at hsl
      have hHu0 : (0 : Int) ≤ (H.u : Int) := by omega
      go_wp2_with fail
      refine wp_region_still_tail 9 (by kernel_rfl) (by kernel_rfl) ?_
      simp only [List.take_succ_cons, List.take_zero, List.drop_succ_cons, List.drop_zero]
      repeat still_step
      refine wpStill_nil ?_
      refine wpList_copy_cells rfl (.tmp 25) (.tmp 26) 25 25 rfl 5 Tryd.underlying25 (by kernel_rfl) hb (8 + H.u) (64 - H.u) (64 - H.u) ⟨b, o, none⟩ L c' rfl rfl (cs.map fun y => v8 y) (by rw [List.length_map, hcl, HN.out]) (hsrc _ (hon.trans (Only.drewN 1))) ?c1 ?c2 ?c3 ?_
      case c1 =>
        intro j hj
        rw [List.length_map, hcl] at hj
        have := hW.m_ (H.u + j) (by omega)
        rw [← Nat.add_assoc] at this
        exact Option.isSome_of_eq_some this
      case c2 => exact fun j _ => hW.frozen _
      case c3 =>
        intro v hv
        obtain ⟨x, _, rfl⟩ := List.mem_map.1 hv
        rfl
      have hset := HashR.setCells (w := wr.drew) cs H.u hW (by omega)
      have hon2 := Only.setCells (w' := wr.drew) (cs.map fun y => v8 y) (8 + H.u) (hon.trans (Only.drewN 1))
      rw [List.length_map, hcl]
      go_upto_region 3 with (fail)
      refine wp_world (fun W => HashR W hb H.s (updbs H.m H.u cs) H.u T ∧ Only hb w W) ⟨hset, hon2⟩ ?_
      rintro W2 ⟨hW2, hon3⟩
      clear hset hon2 hW hon cu
      have cu := hW2.u_
      have fz := hW2.frozen 72
      have hset := hW2.setU ((H.u + n : Nat) : Int)
      have hon2 := hon3.setCell 72 (.int .i64 ((H.u + n : Nat) : Int))
      have hun : (H.u : Int) + (n : Int) = ((H.u + n : Nat) : Int) := by omega
      generalize hq : H.u + n = q at *
      have hsl2 := slice_sl_l (P := Tryd.prog) Tryd.underlying25 (show (Tryd.prog.info? 5).map (·.size) = some 1 by kernel_rfl) (some ⟨b, o, none⟩) L c' n (n : Int) rfl (by omega)
      go_upto_region 5 with (fail)
      refine wp_world (fun W => HashR W hb H.s (updbs H.m H.u cs) (q : Nat) T ∧ Only hb w W) ⟨hset, hon2⟩ ?_
      clear hset hon2 fz cu hW2 hon3 W2 hcell
      rintro W ⟨hW, hon⟩
      have cu := hW.u_
      have hA2 : SlRead w (cutA (some ⟨b, o, none⟩) n c') (ints .u8 (bys (ys.drop (k + n)))) := by
        rw [← List.drop_drop, ← bys_drop]
        refine SlRead.cut hA n _ fun hc b' o' e => ?_
        obtain ⟨rfl, rfl⟩ : b = b' ∧ o = o' := by simpa using e
        exact cutA_some hc (by simp; omega)
      have hO2 : OffB (cutA (some ⟨b, o, none⟩) n c') hb := by
        intro b' o' e
        unfold cutA at e
        split at e
        · exact hO (by omega) b' o' e
        · simp [add_eq] at e
          rw [← e.1]; exact hbne
      by_cases h64 : q = 64
      · subst h64
        have hkW := hon.kat hk hne
        go_wp2_with fail
        refine (mix_any hb H.s (updbs H.m H.u cs) (64 : Nat) T W hW (Nat.lt_of_lt_of_le hblw hon.size) hkW).mono ?_
        rintro e W3 ⟨rfl, hW3, hon3⟩
        have fz := hW3.frozen 72
        have cu3 := hW3.u_
        have hset := hW3.setU 0
        have hon2 := (hon.trans hon3).setCell 72 (.int .i64 0)
        clear hW hW3 hon hon3 cu
        go_wp2_with fail
        go_roundw
        case rel =>
          refine ⟨k + n, _, _, by omega, by rw [show L - n = ys.length - (k + n) by omega], by omega, hA2, fun _ => hO2, ?_, hon2⟩
          rw [hnext, feeds_full cs H (by omega) (by intro e; rw [e] at hcl; simp at hcl; omega)]
          exact hset
        case measure => simp only; omega
      · have h64b : ((q : Int) == 64) = false := by simp; omega
        go_wp2_with fail
        go_roundw
        case rel =>
          refine ⟨k + n, _, _, by omega, by rw [show L - n = ys.length - (k + n) by omega], by omega, hA2, fun _ => hO2, ?_, hon⟩
          rw [hnext, feeds_short cs H (by omega), hcl, hq]
          exact hW
        case measure => simp only; omega
    · have hk2 : k = ys.length := by omega
      subst hk2
      rw [List.take_length] at hW
      have hL0 : ys.length - ys.length = 0 := by omega
      go_wp2_with fail
      go_end0
      rw [HT.out]
      exact ⟨rfl, hW, hon⟩
end Go.Proofs.YtocjmlncpjfnfaaDoor
