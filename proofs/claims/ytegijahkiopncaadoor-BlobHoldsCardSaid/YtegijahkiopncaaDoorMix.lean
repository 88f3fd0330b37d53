import Derived.Test.YtegijahkiopncaaDoorSch
namespace Go.Proofs.YtegijahkiopncaaDoor
open Go.RowKit

theorem n32_and (x y : BitVec 32) : bits .and .u32 (n32 x) (n32 y) = n32 (x &&& y) := by
  unfold n32; rw [u32_and_nat _ _ x.isLt y.isLt, BitVec.toNat_and]

theorem n32_not (x : BitVec 32) : bits .xor .u32 IntKind.u32.max (n32 x) = n32 (~~~ x) := by
  rw [show IntKind.u32.max = n32 (BitVec.allOnes 32) by decide, n32_xor, BitVec.allOnes_xor]

/-- the rounds' numbers, as the program lays them -/
def kList : List (BitVec 32) := [1116352408#32, 1899447441#32, 3049323471#32, 3921009573#32, 961987163#32, 1508970993#32, 2453635748#32, 2870763221#32, 3624381080#32, 310598401#32, 607225278#32, 1426881987#32, 1925078388#32, 2162078206#32, 2614888103#32, 3248222580#32, 3835390401#32, 4022224774#32, 264347078#32, 604807628#32, 770255983#32, 1249150122#32, 1555081692#32, 1996064986#32, 2554220882#32, 2821834349#32, 2952996808#32, 3210313671#32, 3336571891#32, 3584528711#32, 113926993#32, 338241895#32, 666307205#32, 773529912#32, 1294757372#32, 1396182291#32, 1695183700#32, 1986661051#32, 2177026350#32, 2456956037#32, 2730485921#32, 2820302411#32, 3259730800#32, 3345764771#32, 3516065817#32, 3600352804#32, 4094571909#32, 275423344#32, 430227734#32, 506948616#32, 659060556#32, 883997877#32, 958139571#32, 1322822218#32, 1537002063#32, 1747873779#32, 1955562222#32, 2024104815#32, 2227730452#32, 2361852424#32, 2428436474#32, 2756734187#32, 3204031479#32, 3329325298#32]
def kR (i : Nat) : BitVec 32 := kList.getD i 0#32

def rnT (s : Nat → BitVec 32) (k w : BitVec 32) : BitVec 32 := s 7 + big_e (s 4) + ((s 4 &&& s 5) ^^^ (~~~ s 4 &&& s 6)) + k + w
def rnU (s : Nat → BitVec 32) : BitVec 32 := big_a (s 0) + ((s 0 &&& s 1) ^^^ (s 0 &&& s 2) ^^^ (s 1 &&& s 2))
/-- one round -/
def rnd (s : Nat → BitVec 32) (k w : BitVec 32) : Nat → BitVec 32
  | 0 => rnT s k w + rnU s
  | 1 => s 0
  | 2 => s 1
  | 3 => s 2
  | 4 => s 3 + rnT s k w
  | 5 => s 4
  | 6 => s 5
  | _ => s 6
def rds (s W : Nat → BitVec 32) : Nat → Nat → BitVec 32
  | 0 => s
  | k + 1 => rnd (rds s W k) (kR k) (W k)
def addTo (s r : Nat → BitVec 32) (n : Nat) : Nat → BitVec 32 := fun i => if i < n then s i + r i else s i
/-- the state behind a block -/
def mixed (s : Nat → BitVec 32) (m : Nat → BitVec 8) : Nat → BitVec 32 := addTo s (rds s (sched m) 64) 8

/-- a digest's block: the state, the block's bytes, how many are filled, how many came in all -/
def hcell (s : Nat → BitVec 32) (m : Nat → BitVec 8) (us tt : Int) : Nat → Value := fun i =>
  if i < 8 then v32 (s i) else if i < 72 then v8 (m (i - 8)) else if i = 72 then .int .i64 us else .int .u64 tt
abbrev HashR (w : World) (b : Nat) (s : Nat → BitVec 32) (m : Nat → BitVec 8) (us tt : Int) : Prop := w.rowIs b 83 74 (hcell s m us tt)
def updb (m : Nat → BitVec 8) (i : Nat) (x : BitVec 8) : Nat → BitVec 8 := fun j => if j = i then x else m j

section
variable {w : World} {b : Nat} {s : Nat → BitVec 32} {m : Nat → BitVec 8} {us tt : Int}
theorem HashR.s_ (h : HashR w b s m us tt) (i : Nat) (hi : i < 8) : w.cell? ⟨b, i, none⟩ = some (v32 (s i)) := by
  have := h.cell (i := i) (by omega)
  simpa [hcell, hi] using this
theorem HashR.m_ (h : HashR w b s m us tt) (i : Nat) (hi : i < 64) : w.cell? ⟨b, 8 + i, none⟩ = some (v8 (m i)) := by
  have := h.cell (i := 8 + i) (by omega)
  rw [this]; unfold hcell
  rw [if_neg (by omega), if_pos (by omega), Nat.add_sub_cancel_left]
theorem HashR.u_ (h : HashR w b s m us tt) : w.cell? ⟨b, 72, none⟩ = some (.int .i64 us) := h.cell (i := 72) (by omega)
theorem HashR.t_ (h : HashR w b s m us tt) : w.cell? ⟨b, 73, none⟩ = some (.int .u64 tt) := h.cell (i := 73) (by omega)
theorem HashR.setS (h : HashR w b s m us tt) (i : Nat) (hi : i < 8) (x : BitVec 32) : HashR (w.setCell ⟨b, i, none⟩ (v32 x)) b (updw s i x) m us tt := by
  refine (h.set i _).congr fun j _ => ?_
  unfold hcell updw
  by_cases e : j = i
  · subst e; simp [hi]
  · simp [e]
theorem HashR.setM (h : HashR w b s m us tt) (i : Nat) (hi : i < 64) (x : BitVec 8) : HashR (w.setCell ⟨b, 8 + i, none⟩ (v8 x)) b s (updb m i x) us tt := by
  refine (h.set (8 + i) _).congr fun j _ => ?_
  unfold hcell updb
  by_cases e : j = 8 + i
  · subst e
    rw [if_pos rfl, if_neg (by omega), if_pos (by omega), if_pos (by omega)]
  · by_cases e8 : j < 8
    · simp [e, e8]
    · have e2 : ¬ j - 8 = i := by omega
      simp [e, e8, e2]
theorem HashR.setU (h : HashR w b s m us tt) (x : Int) : HashR (w.setCell ⟨b, 72, none⟩ (.int .i64 x)) b s m x tt := by
  refine (h.set 72 _).congr fun j _ => ?_
  unfold hcell
  by_cases e : j = 72
  · subst e; simp
  · simp [e]
theorem HashR.setT (h : HashR w b s m us tt) (x : Int) : HashR (w.setCell ⟨b, 73, none⟩ (.int .u64 x)) b s m us x := by
  refine (h.set 73 _).congr fun j _ => ?_
  unfold hcell
  by_cases e : j = 73
  · subst e; simp
  · by_cases e2 : j = 72
    · simp [e2]
    · by_cases e1 : j < 72
      · simp [e, e1]
      · by_cases e0 : j < 74
        · omega
        · simp [e, e1, e2]
          omega
end

/-- the rounds' numbers stand in the program's variable -/
def KAt (w : World) : Prop := ∀ i, i < 64 → w.cell? ⟨7, i, none⟩ = some (v32 (kR i))
namespace KAt
variable {w w' : World}
theorem cell (h : KAt w) {i : Nat} (hi : i < 64) : w.cell? ⟨7, i, none⟩ = some (v32 (kR i)) := h i hi
theorem lt (h : KAt w) : 7 < w.heap.size := World.block_lt_of_cell? w _ (h 0 (by omega))
theorem of_block (h : KAt w) (e : w'.heap[(7 : Nat)]? = w.heap[(7 : Nat)]?) : KAt w' := fun i hi => (World.cell?_of_block (a := ⟨7, i, none⟩) e).trans (h i hi)
theorem alloc (h : KAt w) (o : Obj) : KAt (w.alloc o) := h.of_block (heap_alloc_old _ _ h.lt)
end KAt
theorem Only.kat {g : Nat} {w w' : World} (h : Only g w w') (hk : KAt w) (hne : g ≠ 7) : KAt w' := hk.of_block (h.block _ hk.lt (fun e => hne e.symm))

set_option maxRecDepth 100000 in
set_option maxHeartbeats 1600000 in
theorem mix_any (hb : Nat) (s : Nat → BitVec 32) (m : Nat → BitVec 8) (us tt : Int) (w : World) (hm : HashR w hb s m us tt) (hlt : hb < w.heap.size) (hk : KAt w) :
    Calls Tryd.prog 49 #[.pointer (some ⟨hb, 0, none⟩)] w fun e w' => e = .returned (.tuple #[]) ∧ HashR w' hb (mixed s m) m us tt ∧ Only hb w w' := by
  go_enter Tryd.func49, Tryd.ntmps49
  go_upto_region 1 with (first | (go_at_call 53; refine (schedule_any hb m w hm.m_ hlt).mono ?_; rintro e W1 ⟨rfl, hb1⟩) | (refine wpList_store_row rfl 88 _ _ rfl _ _ rfl rfl _ _ (heap_alloc_new _ _) (by kernel_rfl) (by simp) (arr32_one _ _) ?_; rw [alloc_setRow]))
  generalize hC : W1.heap.size = C at *
  have hCl : w.heap.size ≤ C := by rw [← hC]; exact hb1.size
  refine wp_world (fun W => Below w.heap.size w W ∧ C < W.heap.size ∧ W.rowIs C 88 64 (fun i => v32 (sched m i))) ?_ ?_
  · exact ⟨hb1.alloc hb1.size _, by simp [hC], rowIs_new _ _ _ _ _ _ hC.symm (by simp) (fun i hi => arr32_get 64 _ i hi)⟩
  rintro W ⟨hbl, hCs, hw⟩
  clear hb1 hC
  have cc : ∀ i, i < 8 → W.cell? ⟨hb, i, none⟩ = some (v32 (s i)) := fun i hi => by rw [World.cell?_of_block (hbl.block hb hlt)]; exact hm.s_ i hi
  have c0 := cc 0 (by omega)
  have c1 := cc 1 (by omega)
  have c2 := cc 2 (by omega)
  have c3 := cc 3 (by omega)
  have c4 := cc 4 (by omega)
  have c5 := cc 5 (by omega)
  have c6 := cc 6 (by omega)
  have c7 := cc 7 (by omega)
  clear cc
  go_quiet (fail)
  go_wp2_with fail
  clear c0 c1 c2 c3
  go_quiet (fail)
  clear c4 c5 c6 c7
  go_upto_region 3 with (fail)
  refine wp_world (fun W => Below w.heap.size w W ∧ C < W.heap.size ∧ W.rowIs C 88 64 (fun i => v32 (sched m i))) ?_ ?_
  · exact ⟨(hbl.trans (Below.drewNr _)).trans (Below.drewNr _), hCs, hw⟩
  clear hw hCs hbl W
  rintro W ⟨hbl, hCs, hw⟩
  go_wp2_with fail
  go_loopw [58, 3, 4, 5, 6, 7, 8, 9, 10] (fun i a b c d e f g h wr => ∃ k : Nat, k ≤ 64 ∧ i = .int .i64 k ∧ a = v32 (rds s (sched m) k 0) ∧ b = v32 (rds s (sched m) k 1) ∧ c = v32 (rds s (sched m) k 2) ∧ d = v32 (rds s (sched m) k 3) ∧ e = v32 (rds s (sched m) k 4) ∧ f = v32 (rds s (sched m) k 5) ∧ g = v32 (rds s (sched m) k 6) ∧ h = v32 (rds s (sched m) k 7) ∧ Below w.heap.size w wr ∧ C < wr.heap.size ∧ wr.rowIs C 88 64 (fun i => v32 (sched m i))) (fun i _ _ _ _ _ _ _ _ _ => 64 - (intOf i).toNat)
  case atStart => exact ⟨0, by omega, rfl, rfl, rfl, rfl, rfl, rfl, rfl, rfl, rfl, hbl, hCs, hw⟩
  clear hw hCs hbl W
  case round =>
    obtain ⟨k, hk1, rfl, rfl, rfl, rfl, rfl, rfl, rfl, rfl, rfl, hbl, hCs, hw⟩ := hrel
    by_cases hlt2 : k < 64
    · have E : rnd (rds s (sched m) k) (kR k) (sched m k) = rds s (sched m) (k + 1) := rfl
      have HE := Lib.hid E; clear E
      have gk : KAt wr := hk.of_block (hbl.block 7 hk.lt)
      have g1 := gk.cell (i := k) (by omega)
      have g2 := hw.cell (i := k) (by omega)
      generalize kR k = kk at *
      generalize sched m k = ww at *
      generalize rds s (sched m) k = R at *
      have hk0 : (k : Int) < 64 := by omega
      have nt := n32_not (R 4)
      have a0 := n32_and (R 4) (R 5)
      have a1 := n32_and (~~~ R 4) (R 6)
      have a2 := n32_xor (R 4 &&& R 5) (~~~ R 4 &&& R 6)
      have b0 := n32_add (R 7) (big_e (R 4))
      have b1 := n32_add (R 7 + big_e (R 4)) ((R 4 &&& R 5) ^^^ (~~~ R 4 &&& R 6))
      have b2 := n32_add (R 7 + big_e (R 4) + ((R 4 &&& R 5) ^^^ (~~~ R 4 &&& R 6))) kk
      have b3 := n32_add (R 7 + big_e (R 4) + ((R 4 &&& R 5) ^^^ (~~~ R 4 &&& R 6)) + kk) ww
      have b4 : (n32 (R 7 + big_e (R 4)) + n32 ((R 4 &&& R 5) ^^^ (~~~ R 4 &&& R 6)) + n32 kk + n32 ww) % 4294967296 = n32 (rnT R kk ww) := by
        rw [show rnT R kk ww = R 7 + big_e (R 4) + ((R 4 &&& R 5) ^^^ (~~~ R 4 &&& R 6)) + kk + ww from rfl, ← b3, ← b2, ← b1]
        omega
      clear b1 b2 b3
      go_wp2_with fail
      go_quiet (first | (go_at_call 54; refine Calls.quiet_of_same (turn_e _ _)))
      go_wp2_with fail
      clear nt a0 a1 a2 b0 b4 g1 g2
      refine (turn_a _ _).mono ?_; rintro e w1 ⟨rfl, rfl⟩
      have a0 := n32_and (R 0) (R 1)
      have a1 := n32_and (R 0) (R 2)
      have a2 := n32_and (R 1) (R 2)
      have b0 := n32_xor (R 0 &&& R 1) (R 0 &&& R 2)
      have b1 := n32_xor (R 0 &&& R 1 ^^^ R 0 &&& R 2) (R 1 &&& R 2)
      have b2 := n32_add (big_a (R 0)) ((R 0 &&& R 1) ^^^ (R 0 &&& R 2) ^^^ (R 1 &&& R 2))
      rw [show big_a (R 0) + ((R 0 &&& R 1) ^^^ (R 0 &&& R 2) ^^^ (R 1 &&& R 2)) = rnU R from rfl] at b2
      have d0 := n32_add (R 3) (rnT R kk ww)
      have d1 := n32_add (rnT R kk ww) (rnU R)
      go_wp2_with fail
      go_roundw
      case rel =>
        refine ⟨k + 1, by omega, by go_num, ?_⟩
        rw [← HE.out]
        exact ⟨rfl, rfl, rfl, rfl, rfl, rfl, rfl, rfl, hbl.trans (Below.drewNr _), hCs, hw⟩
      case measure => simp [intOf]; omega
    · have hdk : decide ((k : Int) < 64) = false := by simp; omega
      have hk64 : k = 64 := by omega
      subst hk64
      clear hw hCs
      have hh : HashR wr hb (addTo s (rds s (sched m) 64) 0) m us tt := (hm.of_block (hbl.block hb hlt)).congr fun j _ => by simp [addTo, hcell]
      have hon : Only hb w wr := Only.of_below hbl
      have hmx : addTo s (rds s (sched m) 64) 8 = mixed s m := rfl
      clear hbl hm
      generalize rds s (sched m) 64 = R at *
      have HMX := Lib.hid hmx; clear hmx
      have hR := fun k (h : k < 8) => arr32_get 8 R k h
      go_wp2_with fail
      go_loopw [118] (fun i wr => ∃ k : Nat, k ≤ 8 ∧ i = .int .i64 k ∧ HashR wr hb (addTo s R k) m us tt ∧ Only hb w wr) (fun i _ => 8 - (intOf i).toNat)
      case atStart => exact ⟨0, by omega, rfl, hh, hon⟩
      clear hh hon
      case round =>
        obtain ⟨k, hk1, rfl, hh, hon⟩ := hrel
        by_cases hlt2 : k < 8
        · have hix : ∀ w : World, (Instr.index 75 (.agg #[v32 (R 0), v32 (R 1), v32 (R 2), v32 (R 3), v32 (R 4), v32 (R 5), v32 (R 6), v32 (R 7)]) (.int .i64 k)).run Tryd.prog w = .ok (v32 (R k)) w :=
            fun w => index_arr Tryd.underlying75 Tryd.underlying74 (by kernel_rfl) (arr32 8 R) k hlt2 _ (hR k hlt2) w
          have hk0 : (k : Int) < 8 := by omega
          have c1 := hh.s_ k hlt2
          rw [show addTo s R k k = s k by simp [addTo]] at c1
          have fz := hh.frozen k
          have a1 := n32_add (s k) (R k)
          have hh1 : HashR _ hb (addTo s R (k + 1)) m us tt := (hh.setS k hlt2 (s k + R k)).congr fun j _ => by
            congr 1
            funext j
            unfold updw addTo
            split
            · subst_vars; simp
            · by_cases e : j < k
              · simp [e]; omega
              · simp [e]; omega
          have hon1 := hon.setCell k (v32 (s k + R k))
          clear hh hon
          go_wp2_with fail
          go_region
          go_wp2_with fail
          go_roundw
          case rel => exact ⟨k + 1, by omega, by go_num, hh1, hon1.trans (Only.drewN _)⟩
          case measure => simp [intOf]; omega
        · have hdk2 : decide ((k : Int) < 8) = false := by simp; omega
          have hk8 : k = 8 := by omega
          subst hk8
          rw [HMX.out] at hh
          go_wp2_with fail
          go_end0
          exact ⟨rfl, hh, hon⟩
end Go.Proofs.YtegijahkiopncaaDoor
