import Derived.Test.YtklooieghlnblaaSkn
/-
  SkipPlays: the walk.
-/
namespace Go.Proofs.Ytklooieghlnblaa
open Go.RowKit

theorem num_B (x n : Int) (N : Nat) (w : World) (hn : 0 < n ∧ n ≤ 4611686018427387904) (hN : x % n = N) : Calls Try.prog 8 #[.int .i64 x, .int .i64 n] w fun e w' => e = .returned (.int .i64 (N : Int)) ∧ Below w.heap.size w w' :=
  (number_nat x n N w hn hN).mono fun _ _ ⟨he, m, hw⟩ => ⟨he, by rw [hw]; exact Below.drewNr m⟩
theorem below_dr {w w' : World} (h : Below w.drew.heap.size w.drew w') : Below w.heap.size w w' := ⟨h.os, h.tape, h.output, h.size, h.block⟩
theorem idx_do (b o n c i : Nat) (hi : i < n) (w : World) : (Instr.indexAt 22 (.slice (some ⟨b, o, none⟩) n c) (.int .i64 (i : Int))).run Try.prog w = .ok (.pointer (some ⟨b, o + i * 4, none⟩)) w := by
  have hu := Try.underlying22
  have e2 : Try.prog.elem 22 = 35 := by simp [Program.elem, hu]
  have hs : ∀ w, (sizeOf 35).run Try.prog w = .ok 4 w := fun _ => by kernel_rfl
  rw [run_indexAt_slice (h := by rw [e2]; exact hu), if_pos (by omega)]
  simp only [e2, hs, Result.andThen, Int.toNat_natCast, Addr.add_lit]
theorem field_do0 (b o : Nat) (w : World) : (Instr.fieldAt 35 (.pointer (some ⟨b, o, none⟩)) 0).run Try.prog w = .ok (.pointer (some ⟨b, o, none⟩)) w := by
  go_simp
theorem field_do1 (b o : Nat) (w : World) : (Instr.fieldAt 35 (.pointer (some ⟨b, o, none⟩)) 1).run Try.prog w = .ok (.pointer (some ⟨b, o + 1, none⟩)) w := by
  kernel_rfl
theorem field_do2 (b o : Nat) (w : World) : (Instr.fieldAt 35 (.pointer (some ⟨b, o, none⟩)) 2).run Try.prog w = .ok (.pointer (some ⟨b, o + 2, none⟩)) w := by
  kernel_rfl
theorem field_do3 (b o : Nat) (w : World) : (Instr.fieldAt 35 (.pointer (some ⟨b, o, none⟩)) 3).run Try.prog w = .ok (.pointer (some ⟨b, o + 3, none⟩)) w := by
  kernel_rfl
theorem load_i64 (b o : Nat) (v : Value) (w : World) (h : w.cell? ⟨b, o, none⟩ = some v) : (Instr.loadAt 3 (.pointer (some ⟨b, o, none⟩))).run Try.prog w = .ok v w := by
  have h2 := Try.underlying3
  go_simp
theorem cvt_u32 (x : Nat) (h : x < 4294967296) (w : World) : (convert 3 36 (.int .i64 x)).run Try.prog w = .ok (.int .u32 x) w := by
  have h1 := Try.underlying3
  have h2 := Try.underlying36
  have hw : IntKind.u32.wrap (x : Int) = (x : Int) := by rw [IntKind.wrap_u32]; omega
  simp [convert, run_underlying h1, run_underlying h2, Conv.intToInt, hw]
theorem nq_bool (x y : Operand) (b : Bool) (w : World) : (do eqGuard .neq 4 x y (.bool b) (.bool b); binOp .neq 4 (.bool b) (.bool b) : Sem Value).run Try.prog w = .ok (.bool false) w := by
  have h : ∀ w, (Op.equal 4 (.bool b) (.bool b)).run Try.prog w = .ok true w := fun _ => by cases b <;> kernel_rfl
  simp [eqGuard, binOp, h]
theorem fi_at {w : World} {b o len : Nat} {g : Nat → Nat → Int} (h : ∀ i j, i < len → j < 4 → w.cell? ⟨b, o + (i * 4 + j), none⟩ = some (.int .i64 (g i j))) {k : Nat} (hk : k < len) (j : Nat) (hj : j < 4) : w.cell? ⟨b, o + k * 4 + j, none⟩ = some (.int .i64 (g k j)) := by
  rw [Nat.add_assoc]
  exact h k j hk hj
set_option maxRecDepth 100000 in
set_option maxHeartbeats 3200000 in
theorem plays_walk (A0 : Option Addr) (len cap : Nat) (g : Nat → Nat → Int) (w : World) (hX : FiRead w A0 len 4 .i64 g) :
    Calls Try.prog 3 #[.slice A0 len cap] w fun e w' => e = .returned (.bool true) ∧ Below w.heap.size w w' := by
  go_enter Try.func3, Try.ntmps3
  go_wp2_with fail
  refine (first_any w).mono ?_
  rintro e w0 ⟨rfl, hb0⟩
  by_cases h1 : 120 < len
  · have d1 : decide ((120 : Int) < (len : Int)) = true := by simp; omega
    go_wp2_with fail
    go_ret
    exact ⟨rfl, hb0⟩
  have d1 : decide ((120 : Int) < (len : Int)) = false := by simp; omega
  have hll : len ≤ 120 := by omega
  clear h1
  have HX := Lib.hid hX
  clear hX
  have hsz0 := hb0.size
  have hT : Two w ((w0.alloc (.cells #[.slice none 0 0] 26)).alloc (.cells #[.slice none 0 0] 29)) w.heap.size w0.heap.size (.slice none 0 0) (w0.heap.size + 1) none 0 [] := by
    have hs := (sk_new w0 w.heap.size).below (below_alc _ (.cells #[.slice none 0 0] 29))
    refine ⟨hs, ⟨range_new (heap2_1 w0 _ _) 0 _ rfl, ?_, SlRead.nil_, by simp, by simp [maxLen], by simp⟩, hsz0, by omega, by omega, by simp [Value.ownBlock], by simp, by simp, List.Pairwise.nil, (hb0.alloc hsz0 _).alloc (by simp; omega) _, by simp; omega⟩
    show World.frozen? _ ⟨w0.heap.size + 1, 0, none⟩ = false
    unfold World.frozen?
    rw [heap2_1]
    rfl
  go_upto_region 8 with (fail)
  refine wp_world (fun W => Two w W w.heap.size w0.heap.size (.slice none 0 0) (w0.heap.size + 1) none 0 []) hT ?_
  clear hT
  rintro W hT
  clear hb0 d1
  go_wp2_with fail
  go_loopw [6] (fun i wr => ∃ (k : Nat) (vs : Value) (A : Option Addr) (c : Nat) (es : List Ent), i = .int .i64 k ∧ k ≤ len ∧ Two w wr w.heap.size w0.heap.size vs (w0.heap.size + 1) A c es) (fun i _ => len - (intOf i).toNat)
  case atStart => exact ⟨0, _, _, _, _, rfl, by omega, hT⟩
  case round =>
    clear hT
    obtain ⟨k, vs, A, c, es, rfl, hk, ht⟩ := hrel
    by_cases hlt : k < len
    · have hlt' : decide (k < len) = true := by simpa using hlt
      obtain ⟨gb, o, rfl, hgl, hc0⟩ := HX.out (by omega)
      have hcell : ∀ w', Two w w' w.heap.size w0.heap.size vs (w0.heap.size + 1) A c es → ∀ i j, i < len → j < 4 → w'.cell? ⟨gb, o + (i * 4 + j), none⟩ = some (.int .i64 (g i j)) := fun w' h i j hi hj => (h.low.cell (p := ⟨gb, _, none⟩) hgl).trans (hc0 i j hi hj)
      have HC := Lib.hid hcell
      have hc := hcell wr ht
      have HT := Lib.hid ht
      clear hcell hc0
      obtain ⟨K1, hK1, hK1l⟩ := exists_mod (g k 1) 4 (by omega)
      obtain ⟨K2, hK2, hK2l⟩ := exists_mod (g k 2) 30 (by omega)
      obtain ⟨K0, hK0, hK0l⟩ := exists_mod (g k 0) 5 (by omega)
      have HK1 := Lib.hid hK1
      have HK2 := Lib.hid hK2
      have HK0 := Lib.hid hK0
      clear hK1 hK2 hK0
      go_upto_region 11 with (fail)
      refine wp_region_lit ?_
      refine wpList_run (by kernel_rfl) (.slice (some ⟨gb, o, none⟩) len cap) (wr) (exec_move rfl (by kernel_rfl)) ?_
      refine wpList_run (by kernel_rfl) (.int .i64 (k : Int)) (wr) (exec_move rfl (by kernel_rfl)) ?_
      refine wpList_run (by kernel_rfl) (.pointer (some ⟨gb, o + k * 4, none⟩)) (wr) (exec_index (vx := .slice (some ⟨gb, o, none⟩) len cap) (vy := .int .i64 (k : Int)) rfl (by kernel_rfl) (idx_do gb o len cap k hlt _)) ?_
      refine wpList_run (by kernel_rfl) (.pointer (some ⟨gb, o + k * 4 + 1, none⟩)) (wr) (exec_field (vx := .pointer (some ⟨gb, o + k * 4, none⟩)) rfl (by kernel_rfl) (field_do1 gb _ _)) ?_
      simp only [put_list, List.set_cons_zero, List.set_cons_succ]
      refine wpList_run (by kernel_rfl) (.int .i64 (g k 1)) (wr) (exec_load (vx := .pointer (some ⟨gb, o + k * 4 + 1, none⟩)) rfl (by kernel_rfl) (load_i64 _ _ _ _ (fi_at hc hlt 1 (by omega)))) ?_
      refine wpList_call (by kernel_rfl) 8 #[Go.Operand.tmp 31, Go.Operand.const (Go.Value.int Go.IntKind.i64 4)] #[3, 3] #[.int .i64 (g k 1), Go.Value.int Go.IntKind.i64 4] _ rfl (by kernel_rfl) (by kernel_rfl) (num_B _ 4 K1 wr (by omega) HK1.out) ?_
      rintro e wa ⟨rfl, hbwa⟩
      refine ⟨_, rfl, ?_⟩
      refine wpList_call (by kernel_rfl) 7 #[Go.Operand.tmp 32] #[3] #[.int .i64 (K1 : Int)] _ rfl (by kernel_rfl) (by kernel_rfl) (keyis_any (K1 : Int) wa) ?_
      rintro e wb ⟨rfl, hbwb⟩
      refine ⟨_, rfl, ?_⟩
      simp only [put_list, List.set_cons_zero, List.set_cons_succ]
      refine wpList_allocV (by kernel_rfl) 31 (by kernel_rfl) ((zkey.map cellB).toArray) (fun _ => by kernel_rfl) ?_
      refine wpList_store_row (by kernel_rfl) 31 (Go.Operand.tmp 7) (Go.Operand.tmp 33) (by kernel_rfl) wb.heap.size (((keyOf (K1 : Int)).map cellB).toArray) (by kernel_rfl) (by kernel_rfl) _ _ (heap_alloc_new _ _) (by rw [key_size _ (keyOf_len _)]; exact info_key) (by rw [key_size _ (keyOf_len _), key_size zkey (by simp [zkey])]) (cellB_one _) ?_
      rw [alloc_setRow]
      refine wpList_nil ?_
      simp only [put_list, put_none, List.set_cons_zero, List.set_cons_succ]
      obtain ⟨w1, hw1⟩ : ∃ w1, w1 = wb.alloc (.cells ((keyOf (K1 : Int)).map cellB).toArray 31) := ⟨_, rfl⟩
      rw [← hw1]
      have hbr1 : Below wr.heap.size wr w1 := by rw [hw1]; exact below_tr (below_tr hbwa hbwb) (below_alc _ _)
      have rd1 : w1.rangeAt wb.heap.size 0 ((keyOf (K1 : Int)).map cellB) := by rw [hw1]; exact range_new (heap1_0 _ _)
      have hbdl1 : wb.heap.size < w1.heap.size := by rw [hw1]; simp
      have hrb : wr.heap.size ≤ wb.heap.size := Nat.le_trans hbwa.size hbwb.size
      obtain ⟨bd, hbd⟩ : ∃ bd, bd = wb.heap.size := ⟨_, rfl⟩
      rw [← hbd] at rd1 hbdl1 hrb ⊢
      have hbdS : bd ≠ w0.heap.size := by have := ht.sk.lt; omega
      have hbdX : bd ≠ w0.heap.size + 1 := by have := ht.dk.lt; omega
      have hbdo : some bd ≠ vs.ownBlock := fun e => by have := (ht.sk.own.lt bd e.symm).2; omega
      have ht1 := ht.below hbr1
      have hcw1 := HC.out w1 ht1
      clear hw1 hbwa hbwb hbr1 hbd hrb hc ht HT
      go_upto_region 12 with (fail)
      refine wp_region_lit ?_
      refine wpList_run (by kernel_rfl) (.slice (some ⟨gb, o, none⟩) len cap) (w1) (exec_move rfl (by kernel_rfl)) ?_
      refine wpList_run (by kernel_rfl) (.int .i64 (k : Int)) (w1) (exec_move rfl (by kernel_rfl)) ?_
      refine wpList_run (by kernel_rfl) (.pointer (some ⟨gb, o + k * 4, none⟩)) (w1) (exec_index (vx := .slice (some ⟨gb, o, none⟩) len cap) (vy := .int .i64 (k : Int)) rfl (by kernel_rfl) (idx_do gb o len cap k hlt _)) ?_
      refine wpList_run (by kernel_rfl) (.pointer (some ⟨gb, o + k * 4 + 2, none⟩)) (w1) (exec_field (vx := .pointer (some ⟨gb, o + k * 4, none⟩)) rfl (by kernel_rfl) (field_do2 gb _ _)) ?_
      simp only [put_list, List.set_cons_zero, List.set_cons_succ]
      refine wpList_run (by kernel_rfl) (.int .i64 (g k 2)) (w1) (exec_load (vx := .pointer (some ⟨gb, o + k * 4 + 2, none⟩)) rfl (by kernel_rfl) (load_i64 _ _ _ _ (fi_at hcw1 hlt 2 (by omega)))) ?_
      refine wpList_call (by kernel_rfl) 8 #[Go.Operand.tmp 38, Go.Operand.const (Go.Value.int Go.IntKind.i64 30)] #[3, 3] #[.int .i64 (g k 2), Go.Value.int Go.IntKind.i64 30] _ rfl (by kernel_rfl) (by kernel_rfl) (num_B _ 30 K2 w1 (by omega) HK2.out) ?_
      rintro e w2 ⟨rfl, hbw2⟩
      refine ⟨_, rfl, ?_⟩
      refine wpList_run (by kernel_rfl) (.int .u32 (K2 : Int)) (w2) (exec_cvt (vx := .int .i64 (K2 : Int)) rfl (by kernel_rfl) (cvt_u32 _ (by omega) _)) ?_
      refine wpList_run (by kernel_rfl) (.int .u32 (K2 : Int)) (w2) (exec_assign rfl (by kernel_rfl)) ?_
      refine wpList_nil ?_
      simp only [put_list, List.set_cons_zero, List.set_cons_succ]
      have ht2 := ht1.below hbw2
      have hcw2 := HC.out w2 ht2
      have rd2 := rangeAt_below rd1 hbw2 hbdl1
      have hbdl2 : bd < w2.heap.size := Nat.lt_of_lt_of_le hbdl1 hbw2.size
      clear rd1 hbdl1 ht1 hcw1 hbw2
      go_upto_region 13 with (fail)
      refine wp_region_lit ?_
      refine wpList_run (by kernel_rfl) (.slice (some ⟨gb, o, none⟩) len cap) (w2) (exec_move rfl (by kernel_rfl)) ?_
      refine wpList_run (by kernel_rfl) (.int .i64 (k : Int)) (w2) (exec_move rfl (by kernel_rfl)) ?_
      refine wpList_run (by kernel_rfl) (.pointer (some ⟨gb, o + k * 4, none⟩)) (w2) (exec_index (vx := .slice (some ⟨gb, o, none⟩) len cap) (vy := .int .i64 (k : Int)) rfl (by kernel_rfl) (idx_do gb o len cap k hlt _)) ?_
      refine wpList_run (by kernel_rfl) (.pointer (some ⟨gb, o + k * 4, none⟩)) (w2) (exec_field (vx := .pointer (some ⟨gb, o + k * 4, none⟩)) rfl (by kernel_rfl) (field_do0 gb _ _)) ?_
      simp only [put_list, List.set_cons_zero, List.set_cons_succ]
      refine wpList_run (by kernel_rfl) (.int .i64 (g k 0)) (w2) (exec_load (vx := .pointer (some ⟨gb, o + k * 4, none⟩)) rfl (by kernel_rfl) (load_i64 _ _ _ _ (fi_at hcw2 hlt 0 (by omega)))) ?_
      refine wpList_call (by kernel_rfl) 8 #[Go.Operand.tmp 45, Go.Operand.const (Go.Value.int Go.IntKind.i64 5)] #[3, 3] #[.int .i64 (g k 0), Go.Value.int Go.IntKind.i64 5] _ rfl (by kernel_rfl) (by kernel_rfl) (num_B _ 5 K0 w2 (by omega) HK0.out) ?_
      rintro e w3 ⟨rfl, hbw3⟩
      refine ⟨_, rfl, ?_⟩
      refine wpList_nil ?_
      simp only [put_list, List.set_cons_zero, List.set_cons_succ]
      have ht3 := ht2.below hbw3
      have hcw3 := HC.out w3 ht3
      have rd3 := rangeAt_below rd2 hbw3 hbdl2
      have hbdl3 : bd < w3.heap.size := Nat.lt_of_lt_of_le hbdl2 hbw3.size
      clear rd2 hbdl2 ht2 hcw2 hbw3
      have hB0 : w0.heap.size < w3.heap.size := ht3.sk.lt
      by_cases k3 : K0 = 3
      · have q3 : ((K0 : Int) == 3) = true := by simp; omega
        have ht3d := ht3.below ((Below.refl w3.heap.size w3).drew)
        clear k3 hcw3
        go_upto_region 18 with (fail)
        refine wp_region_noPanic ?_
        refine wp_region_held_drew (S := fun w' => w'.rangeAt bd 0 ((keyOf (K1 : Int)).map cellB)) (by kernel_rfl) (rd3) (fun hHeld => ?_)
        refine held_load 0 31 (Go.Operand.tmp 7) (some 63) (bd) (0) ((keyOf (K1 : Int)).map cellB) _ (by kernel_rfl) (by kernel_rfl) (fun w h => h) Try.underlying31 rfl (by rw [List.length_map, keyOf_len]; exact info_key) (by kernel_rfl) (by kernel_rfl) (by kernel_rfl) (fun _ _ _ _ _ h => h) hHeld ?_
        refine held_move 1 (Go.Operand.tmp 8) (some 64) (.int .u32 (K2 : Int)) (by kernel_rfl) (by kernel_rfl) (by kernel_rfl) (by kernel_rfl) (by kernel_rfl) (fun _ _ _ _ _ h => h) hHeld ?_
        refine held_load 3 31 (Go.Operand.tmp 7) (some 66) (bd) (0) ((keyOf (K1 : Int)).map cellB) _ (by kernel_rfl) (by kernel_rfl) (fun w h => h) Try.underlying31 rfl (by rw [List.length_map, keyOf_len]; exact info_key) (by kernel_rfl) (by kernel_rfl) (by kernel_rfl) (fun _ _ _ _ _ h => h) hHeld ?_
        refine held_move 4 (Go.Operand.tmp 8) (some 67) (.int .u32 (K2 : Int)) (by kernel_rfl) (by kernel_rfl) (by kernel_rfl) (by kernel_rfl) (by kernel_rfl) (fun _ _ _ _ _ h => h) hHeld ?_
        refine held_call 2 9 #[Go.Operand.tmp 4, Go.Operand.tmp 63, Go.Operand.tmp 64] #[26, 31, 36] (some 65) #[.pointer (some ⟨w0.heap.size, 0, none⟩), .agg ((keyOf (K1 : Int)).map cellB).toArray, .int .u32 (K2 : Int)] _ (by kernel_rfl) (by kernel_rfl) (by kernel_rfl) (by kernel_rfl) (take_any es (keyOf (K1 : Int)) (K2 : Int) (keyOf_len _) (by have := ht3d.len; omega) w.heap.size w0.heap.size 0 vs w3.drew ht3d.sk) ?_
        rintro e w5 ⟨rfl, vs5, hs5, hm5, hq5⟩
        refine ⟨_, rfl, hm5.range hHeld hbdl3 hbdS hbdo, fun hHeld => ?_⟩
        have hh5 := ht3d.half hs5 hm5 (.inl rfl) (fun q hq => .inl (by rw [← hq5]; exact hq))
        have hbdl5 : bd < w5.heap.size := Nat.lt_of_lt_of_le hbdl3 hm5.size
        refine held_call 5 10 #[Go.Operand.tmp 5, Go.Operand.tmp 66, Go.Operand.tmp 67] #[29, 31, 36] (some 68) #[.pointer (some ⟨w0.heap.size + 1, 0, none⟩), .agg ((keyOf (K1 : Int)).map cellB).toArray, .int .u32 (K2 : Int)] _ (by kernel_rfl) (by kernel_rfl) (by kernel_rfl) (by kernel_rfl) (dtake_any es (keyOf (K1 : Int)) (K2 : Int) (keyOf_len _) (by have := hh5.len; omega) (w0.heap.size + 1) A c w5 hh5.dk) ?_
        rintro e w6 ⟨rfl, A6, c6, hd6, hm6, hq6⟩
        refine ⟨_, rfl, hm6.range hHeld hbdl5 hbdX (by simp), fun hHeld => ?_⟩
        refine held_bin 6 Go.BinOp.neq 4 (Go.Operand.tmp 65) (Go.Operand.tmp 68) 4 (some 69) (.bool (es.any (Ent.is (keyOf (K1 : Int)) (K2 : Int)))) (.bool (es.any (Ent.is (keyOf (K1 : Int)) (K2 : Int)))) (.bool false) (by kernel_rfl) (by kernel_rfl) (fun w => nq_bool _ _ _ w) (by kernel_rfl) (by kernel_rfl) (by kernel_rfl) (fun _ _ _ _ _ h => h) hHeld ?_
        refine wpAnyH_done (by kernel_rfl) ?_ _
        refine NoPanic.normal ?_
        have ht6 := hh5.two hd6 hm6 hq6 (Nat.le_trans List.length_eraseP_le hh5.len) (hh5.nk.erase _)
        have rd7 := hHeld
        have hbdl7 : bd < w6.heap.size := Nat.lt_of_lt_of_le hbdl5 hm6.size
        obtain ⟨vs2, A2, c2, es2, ht7⟩ : ∃ vs2 A2 c2 es2, Two w w6 w.heap.size w0.heap.size vs2 (w0.heap.size + 1) A2 c2 es2 := ⟨_, _, _, _, ht6⟩
        clear hHeld hh5 hd6 hm6 hq6 hs5 hm5 hq5 ht6 ht3d ht3 rd3 hbdl3 hbdl5 hB0 HC
        simp only [put_list, List.set_cons_zero, List.set_cons_succ]
        have rdw6 := rd7
        go_upto_region 22 with (fail)
        refine wp_region_lit ?_
        refine wpList_run (by kernel_rfl) (.agg ((keyOf (K1 : Int)).map cellB).toArray) (w6) (exec_load (vx := .pointer (some ⟨bd, 0, none⟩)) rfl (by kernel_rfl) (load_row 31 bd 0 ((keyOf (K1 : Int)).map cellB) _ Try.underlying31 rfl (by rw [List.length_map, keyOf_len]; exact info_key) w6 rdw6)) ?_
        refine wpList_run (by kernel_rfl) (.int .u32 (K2 : Int)) (w6) (exec_move rfl (by kernel_rfl)) ?_
        refine wpList_call (by kernel_rfl) 15 #[Go.Operand.tmp 4, Go.Operand.tmp 75, Go.Operand.tmp 76] #[26, 31, 36] #[.pointer (some ⟨w0.heap.size, 0, none⟩), .agg ((keyOf (K1 : Int)).map cellB).toArray, .int .u32 (K2 : Int)] _ rfl (by kernel_rfl) (by kernel_rfl) (find_any es2 (keyOf (K1 : Int)) (K2 : Int) (keyOf_len _) (by have := ht7.len; omega) w.heap.size w0.heap.size 0 vs2 w6 ht7.sk) ?_
        rintro e w8 ⟨rfl, hbw8⟩
        refine ⟨_, rfl, ?_⟩
        refine wpList_run (by kernel_rfl) (.tuple #[.agg ((findK es2 (Ent.is (keyOf (K1 : Int)) (K2 : Int))).map cellB).toArray, .bool (es2.any (Ent.is (keyOf (K1 : Int)) (K2 : Int)))]) (w8) (exec_move rfl (by kernel_rfl)) ?_
        refine wpList_run (by kernel_rfl) (.agg ((findK es2 (Ent.is (keyOf (K1 : Int)) (K2 : Int))).map cellB).toArray) (w8) (exec_extract (vx := .tuple #[.agg ((findK es2 (Ent.is (keyOf (K1 : Int)) (K2 : Int))).map cellB).toArray, .bool (es2.any (Ent.is (keyOf (K1 : Int)) (K2 : Int)))]) rfl (by kernel_rfl) (by kernel_rfl)) ?_
        simp only [put_list, List.set_cons_zero, List.set_cons_succ]
        refine wpList_run (by kernel_rfl) (.bool (es2.any (Ent.is (keyOf (K1 : Int)) (K2 : Int)))) (w8) (exec_extract (vx := .tuple #[.agg ((findK es2 (Ent.is (keyOf (K1 : Int)) (K2 : Int))).map cellB).toArray, .bool (es2.any (Ent.is (keyOf (K1 : Int)) (K2 : Int)))]) rfl (by kernel_rfl) (by kernel_rfl)) ?_
        simp only [put_list, List.set_cons_zero, List.set_cons_succ]
        refine wpList_allocV (by kernel_rfl) 31 (by kernel_rfl) ((zkey.map cellB).toArray) (fun _ => by kernel_rfl) ?_
        refine wpList_store_row (by kernel_rfl) 31 (Go.Operand.tmp 10) (Go.Operand.tmp 78) (by kernel_rfl) w8.heap.size (((findK es2 (Ent.is (keyOf (K1 : Int)) (K2 : Int))).map cellB).toArray) (by kernel_rfl) (by kernel_rfl) _ _ (heap_alloc_new _ _) (by rw [key_size _ (findK_len _ _)]; exact info_key) (by rw [key_size _ (findK_len _ _), key_size zkey (by simp [zkey])]) (cellB_one _) ?_
        rw [alloc_setRow]
        refine wpList_run (by kernel_rfl) (.bool (es2.any (Ent.is (keyOf (K1 : Int)) (K2 : Int)))) ((w8.alloc (.cells (((findK es2 (Ent.is (keyOf (K1 : Int)) (K2 : Int))).map cellB).toArray) 31))) (exec_assign rfl (by kernel_rfl)) ?_
        refine wpList_nil ?_
        simp only [put_list, put_none, List.set_cons_zero, List.set_cons_succ]
        have htw9 := ht7.below (below_tr hbw8 (below_alc w8 (.cells ((findK es2 (Ent.is (keyOf (K1 : Int)) (K2 : Int))).map cellB).toArray 31)))
        obtain ⟨w9, hw9⟩ : ∃ w9, w9 = w8.alloc (.cells ((findK es2 (Ent.is (keyOf (K1 : Int)) (K2 : Int))).map cellB).toArray 31) := ⟨_, rfl⟩
        rw [← hw9] at htw9 ⊢
        have hb79 : Below w6.heap.size w6 w9 := by rw [hw9]; exact below_tr hbw8 (below_alc _ _)
        have r10 : w9.rangeAt w8.heap.size 0 ((findK es2 (Ent.is (keyOf (K1 : Int)) (K2 : Int))).map cellB) := by rw [hw9]; exact range_new (heap1_0 _ _)
        have r10l : w8.heap.size < w9.heap.size := by rw [hw9]; simp
        obtain ⟨b10, hb10⟩ : ∃ b10, b10 = w8.heap.size := ⟨_, rfl⟩
        rw [← hb10] at r10 r10l ⊢
        have ht9 := htw9
        have rdw9 := rangeAt_below rd7 hb79 hbdl7
        have hbdl9 : bd < w9.heap.size := Nat.lt_of_lt_of_le hbdl7 hb79.size
        clear hw9 htw9 hbw8 hb10 rd7 rdw6 ht7 hb79 hbdl7
        go_upto_region 23 with (fail)
        refine wp_region_lit ?_
        refine wpList_run (by kernel_rfl) (.agg ((keyOf (K1 : Int)).map cellB).toArray) (w9) (exec_load (vx := .pointer (some ⟨bd, 0, none⟩)) rfl (by kernel_rfl) (load_row 31 bd 0 ((keyOf (K1 : Int)).map cellB) _ Try.underlying31 rfl (by rw [List.length_map, keyOf_len]; exact info_key) w9 rdw9)) ?_
        refine wpList_run (by kernel_rfl) (.int .u32 (K2 : Int)) (w9) (exec_move rfl (by kernel_rfl)) ?_
        refine wpList_call (by kernel_rfl) 16 #[Go.Operand.tmp 5, Go.Operand.tmp 81, Go.Operand.tmp 82] #[29, 31, 36] #[.pointer (some ⟨w0.heap.size + 1, 0, none⟩), .agg ((keyOf (K1 : Int)).map cellB).toArray, .int .u32 (K2 : Int)] _ rfl (by kernel_rfl) (by kernel_rfl) (dfind_any es2 (keyOf (K1 : Int)) (K2 : Int) (keyOf_len _) (by have := ht9.len; omega) (w0.heap.size + 1) A2 c2 w9 ht9.dk) ?_
        rintro e wd ⟨rfl, hbwd⟩
        refine ⟨_, rfl, ?_⟩
        refine wpList_run (by kernel_rfl) (.tuple #[.agg ((findK es2 (Ent.is (keyOf (K1 : Int)) (K2 : Int))).map cellB).toArray, .bool (es2.any (Ent.is (keyOf (K1 : Int)) (K2 : Int)))]) (wd) (exec_move rfl (by kernel_rfl)) ?_
        refine wpList_run (by kernel_rfl) (.agg ((findK es2 (Ent.is (keyOf (K1 : Int)) (K2 : Int))).map cellB).toArray) (wd) (exec_extract (vx := .tuple #[.agg ((findK es2 (Ent.is (keyOf (K1 : Int)) (K2 : Int))).map cellB).toArray, .bool (es2.any (Ent.is (keyOf (K1 : Int)) (K2 : Int)))]) rfl (by kernel_rfl) (by kernel_rfl)) ?_
        simp only [put_list, List.set_cons_zero, List.set_cons_succ]
        refine wpList_run (by kernel_rfl) (.bool (es2.any (Ent.is (keyOf (K1 : Int)) (K2 : Int)))) (wd) (exec_extract (vx := .tuple #[.agg ((findK es2 (Ent.is (keyOf (K1 : Int)) (K2 : Int))).map cellB).toArray, .bool (es2.any (Ent.is (keyOf (K1 : Int)) (K2 : Int)))]) rfl (by kernel_rfl) (by kernel_rfl)) ?_
        simp only [put_list, List.set_cons_zero, List.set_cons_succ]
        refine wpList_allocV (by kernel_rfl) 31 (by kernel_rfl) ((zkey.map cellB).toArray) (fun _ => by kernel_rfl) ?_
        refine wpList_store_row (by kernel_rfl) 31 (Go.Operand.tmp 12) (Go.Operand.tmp 84) (by kernel_rfl) wd.heap.size (((findK es2 (Ent.is (keyOf (K1 : Int)) (K2 : Int))).map cellB).toArray) (by kernel_rfl) (by kernel_rfl) _ _ (heap_alloc_new _ _) (by rw [key_size _ (findK_len _ _)]; exact info_key) (by rw [key_size _ (findK_len _ _), key_size zkey (by simp [zkey])]) (cellB_one _) ?_
        rw [alloc_setRow]
        refine wpList_run (by kernel_rfl) (.bool (es2.any (Ent.is (keyOf (K1 : Int)) (K2 : Int)))) ((wd.alloc (.cells (((findK es2 (Ent.is (keyOf (K1 : Int)) (K2 : Int))).map cellB).toArray) 31))) (exec_assign rfl (by kernel_rfl)) ?_
        refine wpList_nil ?_
        simp only [put_list, put_none, List.set_cons_zero, List.set_cons_succ]
        obtain ⟨wf, hwf⟩ : ∃ wf, wf = wd.alloc (.cells ((findK es2 (Ent.is (keyOf (K1 : Int)) (K2 : Int))).map cellB).toArray 31) := ⟨_, rfl⟩
        rw [← hwf]
        have hb9f : Below w9.heap.size w9 wf := by rw [hwf]; exact below_tr hbwd (below_alc _ _)
        have htf := ht9.below hb9f
        have r12 : wf.rangeAt wd.heap.size 0 ((findK es2 (Ent.is (keyOf (K1 : Int)) (K2 : Int))).map cellB) := by rw [hwf]; exact range_new (heap1_0 _ _)
        have r12l : wd.heap.size < wf.heap.size := by rw [hwf]; simp
        replace r10 := rangeAt_below r10 hb9f r10l
        replace r10l : b10 < wf.heap.size := Nat.lt_of_lt_of_le r10l hb9f.size
        obtain ⟨b12, hb12⟩ : ∃ b12, b12 = wd.heap.size := ⟨_, rfl⟩
        rw [← hb12] at r12 r12l ⊢
        clear hwf hbwd hb12 rdw9 ht9 hb9f hbdl9
        go_upto_region 24 with (fail)
        refine wp_region_noPanic ?_
        refine wp_region_held_drew (S := fun w' => Below wf.drew.heap.size wf.drew w') (by kernel_rfl) (Below.refl _ _) (fun hHeld => ?_)
        refine held_load 0 31 (Go.Operand.tmp 10) (some 86) (b10) (0) ((findK es2 (Ent.is (keyOf (K1 : Int)) (K2 : Int))).map cellB) _ (by kernel_rfl) (by kernel_rfl) (fun w h => rangeAt_below r10 (below_dr h) r10l) Try.underlying31 rfl (by rw [List.length_map, findK_len]; exact info_key) (by kernel_rfl) (by kernel_rfl) (by kernel_rfl) (fun _ _ _ _ _ h => h) hHeld ?_
        refine held_load 1 31 (Go.Operand.tmp 12) (some 87) (b12) (0) ((findK es2 (Ent.is (keyOf (K1 : Int)) (K2 : Int))).map cellB) _ (by kernel_rfl) (by kernel_rfl) (fun w h => rangeAt_below r12 (below_dr h) r12l) Try.underlying31 rfl (by rw [List.length_map, findK_len]; exact info_key) (by kernel_rfl) (by kernel_rfl) (by kernel_rfl) (fun _ _ _ _ _ h => h) hHeld ?_
        refine held_neq 2 31 (Go.Operand.tmp 86) (Go.Operand.tmp 87) 31 (some 88) (((findK es2 (Ent.is (keyOf (K1 : Int)) (K2 : Int))).map cellB).toArray) (((findK es2 (Ent.is (keyOf (K1 : Int)) (K2 : Int))).map cellB).toArray) true (by kernel_rfl) (by kernel_rfl) (by kernel_rfl) (by kernel_rfl) (fun w => eq_key w _ _ (findK_len _ _) (findK_len _ _) true (by simp)) (by kernel_rfl) (by kernel_rfl) (by kernel_rfl) (fun _ _ _ _ _ h => h) hHeld ?_
        refine held_move 3 (Go.Operand.tmp 88) (some 89) (.bool false) (by kernel_rfl) (by kernel_rfl) (by kernel_rfl) (by kernel_rfl) (by kernel_rfl) (fun _ _ _ _ _ h => h) hHeld ?_
        refine held_move 4 (Go.Operand.tmp 11) (some 90) (.bool (es2.any (Ent.is (keyOf (K1 : Int)) (K2 : Int)))) (by kernel_rfl) (by kernel_rfl) (by kernel_rfl) (by kernel_rfl) (by kernel_rfl) (fun _ _ _ _ _ h => h) hHeld ?_
        refine held_move 5 (Go.Operand.tmp 13) (some 91) (.bool (es2.any (Ent.is (keyOf (K1 : Int)) (K2 : Int)))) (by kernel_rfl) (by kernel_rfl) (by kernel_rfl) (by kernel_rfl) (by kernel_rfl) (fun _ _ _ _ _ h => h) hHeld ?_
        refine held_bin 6 Go.BinOp.neq 4 (Go.Operand.tmp 90) (Go.Operand.tmp 91) 4 (some 92) (.bool (es2.any (Ent.is (keyOf (K1 : Int)) (K2 : Int)))) (.bool (es2.any (Ent.is (keyOf (K1 : Int)) (K2 : Int)))) (.bool false) (by kernel_rfl) (by kernel_rfl) (fun w => nq_bool _ _ _ w) (by kernel_rfl) (by kernel_rfl) (by kernel_rfl) (fun _ _ _ _ _ h => h) hHeld ?_
        refine held_pick 7 (Go.Operand.tmp 89) (Go.Operand.const (Go.Value.bool true)) (Go.Operand.tmp 92) (some 93) false (.bool false) (by kernel_rfl) (by kernel_rfl) (by kernel_rfl) (by kernel_rfl) (by kernel_rfl) (by kernel_rfl) (fun _ _ _ _ _ h => h) hHeld ?_
        refine held_move 8 (Go.Operand.tmp 93) (some 94) (.bool false) (by kernel_rfl) (by kernel_rfl) (by kernel_rfl) (by kernel_rfl) (by kernel_rfl) (fun _ _ _ _ _ h => h) hHeld ?_
        refine held_field 10 29 (Go.Operand.tmp 5) 0 (some 96) (.pointer (some ⟨w0.heap.size + 1, 0, none⟩)) (.pointer (some ⟨w0.heap.size + 1, 0, none⟩)) (by kernel_rfl) (by kernel_rfl) (fun w => field_D _ w) (by kernel_rfl) (by kernel_rfl) (by kernel_rfl) (fun _ _ _ _ _ h => h) hHeld ?_
        refine held_cell 11 27 (Go.Operand.tmp 96) (some 97) (.pointer (some ⟨w0.heap.size + 1, 0, none⟩)) (.slice A2 es2.length c2) (by kernel_rfl) (by kernel_rfl) (fun w h => load_dsl _ _ w (htf.below (below_dr h)).dk.cell) (by kernel_rfl) (by kernel_rfl) (by kernel_rfl) (fun _ _ _ _ _ h => h) hHeld ?_
        refine held_call 9 12 #[Go.Operand.tmp 4] #[26] (some 95) #[.pointer (some ⟨w0.heap.size, 0, none⟩)] _ (by kernel_rfl) (by kernel_rfl) (by kernel_rfl) (by kernel_rfl) (all_any es2 (by have := htf.len; omega) w.heap.size w0.heap.size 0 vs2 wf.drew (htf.below (below_dr hHeld)).sk) ?_
        rintro e wh ⟨vh, rfl, hoh, hbh⟩
        obtain ⟨Ah, ch, rfl, _, _, _⟩ := own_slice hoh
        have htf2 := htf.below (below_dr (below_tr hHeld hbh))
        refine ⟨_, rfl, below_tr hHeld hbh, fun hHeld => ?_⟩
        refine held_call 12 17 #[Go.Operand.tmp 95, Go.Operand.tmp 97] #[24, 27] (some 98) #[.slice Ah es2.length ch, .slice A2 es2.length c2] _ (by kernel_rfl) (by kernel_rfl) (by kernel_rfl) (by kernel_rfl) (same_any es2 (by have := htf.len; omega) Ah A2 ch c2 wh (own_read hoh) htf2.dk.row) ?_
        rintro e wj ⟨rfl, hbj⟩
        refine ⟨_, rfl, below_tr hHeld hbj, fun hHeld => ?_⟩
        refine held_any 13 (Go.Op.unOp Go.UnOp.not 4 (Go.Operand.tmp 98)) (some 99) (.bool false) (by kernel_rfl) (by kernel_rfl) (by kernel_rfl) (by kernel_rfl) (fun _ _ _ _ _ h => h) hHeld (fun o ho w _ => exec_un (vx := .bool true) ho (by kernel_rfl) (by kernel_rfl)) ?_
        refine held_pick 14 (Go.Operand.tmp 94) (Go.Operand.const (Go.Value.bool true)) (Go.Operand.tmp 99) (some 100) false (.bool false) (by kernel_rfl) (by kernel_rfl) (by kernel_rfl) (by kernel_rfl) (by kernel_rfl) (by kernel_rfl) (fun _ _ _ _ _ h => h) hHeld ?_
        refine wpAnyH_done (by kernel_rfl) ?_ _
        refine NoPanic.normal ?_
        have hte := htf.below (below_dr hHeld)
        clear htf htf2 hoh hHeld hbj hbh r10 r10l r12 r12l
        simp only [put_list, List.set_cons_zero, List.set_cons_succ]
        go_wp2_with fail
        go_roundw
        case rel => exact ⟨k + 1, vs2, A2, c2, es2, by go_num, by omega, hte⟩
        case measure => simp [intOf]; omega
      by_cases k4 : K0 = 4
      · have q3 : ((K0 : Int) == 3) = false := by simp; omega
        have q4 : ((K0 : Int) == 4) = true := by simp; omega
        clear k3 k4 hcw3
        go_upto_region 21 with (fail)
        refine wp_region_lit ?_
        refine wpList_call (by kernel_rfl) 12 #[Go.Operand.tmp 4] #[26] #[.pointer (some ⟨w0.heap.size, 0, none⟩)] _ rfl (by kernel_rfl) (by kernel_rfl) (all_any es (by have := ht3.len; omega) w.heap.size w0.heap.size 0 vs w3 ht3.sk) ?_
        rintro e w5 ⟨v5, rfl, ho5, hb5⟩
        obtain ⟨A5, c5, rfl, _, _, hblk5⟩ := own_slice ho5
        have ht5 := ht3.below hb5
        refine ⟨_, rfl, ?_⟩
        refine wpList_call (by kernel_rfl) 11 #[Go.Operand.tmp 4, Go.Operand.tmp 72] #[26, 24] #[.pointer (some ⟨w0.heap.size, 0, none⟩), .slice A5 es.length c5] _ rfl (by kernel_rfl) (by kernel_rfl) (load_any es es (by have := ht5.len; omega) w.heap.size w0.heap.size vs A5 c5 w5 ht5.nw ht5.sk (own_read ho5) (fun a ha => by have h1 := (hblk5 a ha).1; have h2 := ht3.sk.lt; omega)) ?_
        rintro e w6 ⟨rfl, vs6, hs6, hm6, hq6⟩
        refine ⟨_, rfl, ?_⟩
        refine wpList_nil ?_
        simp only [put_list, List.set_cons_zero, List.set_cons_succ]
        rw [acc_self ht5.nk ht5.len] at hs6
        have ht6 := (ht5.half hs6 hm6 (.inr rfl) (fun q hq => .inr (hq6 q hq))).same
        have rd7 := hm6.range (rangeAt_below rd3 hb5 hbdl3) (Nat.lt_of_lt_of_le hbdl3 hb5.size) hbdS (by simp)
        have hbdl7 : bd < w6.heap.size := Nat.lt_of_lt_of_le (Nat.lt_of_lt_of_le hbdl3 hb5.size) hm6.size
        obtain ⟨vs2, A2, c2, es2, ht7⟩ : ∃ vs2 A2 c2 es2, Two w w6 w.heap.size w0.heap.size vs2 (w0.heap.size + 1) A2 c2 es2 := ⟨_, _, _, _, ht6⟩
        clear hs6 hm6 hq6 ht6 ht5 ht3 rd3 hbdl3 hb5 ho5 hblk5 hB0 HC
        have rdw6 := rd7
        go_upto_region 22 with (fail)
        refine wp_region_lit ?_
        refine wpList_run (by kernel_rfl) (.agg ((keyOf (K1 : Int)).map cellB).toArray) (w6) (exec_load (vx := .pointer (some ⟨bd, 0, none⟩)) rfl (by kernel_rfl) (load_row 31 bd 0 ((keyOf (K1 : Int)).map cellB) _ Try.underlying31 rfl (by rw [List.length_map, keyOf_len]; exact info_key) w6 rdw6)) ?_
        refine wpList_run (by kernel_rfl) (.int .u32 (K2 : Int)) (w6) (exec_move rfl (by kernel_rfl)) ?_
        refine wpList_call (by kernel_rfl) 15 #[Go.Operand.tmp 4, Go.Operand.tmp 75, Go.Operand.tmp 76] #[26, 31, 36] #[.pointer (some ⟨w0.heap.size, 0, none⟩), .agg ((keyOf (K1 : Int)).map cellB).toArray, .int .u32 (K2 : Int)] _ rfl (by kernel_rfl) (by kernel_rfl) (find_any es2 (keyOf (K1 : Int)) (K2 : Int) (keyOf_len _) (by have := ht7.len; omega) w.heap.size w0.heap.size 0 vs2 w6 ht7.sk) ?_
        rintro e w8 ⟨rfl, hbw8⟩
        refine ⟨_, rfl, ?_⟩
        refine wpList_run (by kernel_rfl) (.tuple #[.agg ((findK es2 (Ent.is (keyOf (K1 : Int)) (K2 : Int))).map cellB).toArray, .bool (es2.any (Ent.is (keyOf (K1 : Int)) (K2 : Int)))]) (w8) (exec_move rfl (by kernel_rfl)) ?_
        refine wpList_run (by kernel_rfl) (.agg ((findK es2 (Ent.is (keyOf (K1 : Int)) (K2 : Int))).map cellB).toArray) (w8) (exec_extract (vx := .tuple #[.agg ((findK es2 (Ent.is (keyOf (K1 : Int)) (K2 : Int))).map cellB).toArray, .bool (es2.any (Ent.is (keyOf (K1 : Int)) (K2 : Int)))]) rfl (by kernel_rfl) (by kernel_rfl)) ?_
        simp only [put_list, List.set_cons_zero, List.set_cons_succ]
        refine wpList_run (by kernel_rfl) (.bool (es2.any (Ent.is (keyOf (K1 : Int)) (K2 : Int)))) (w8) (exec_extract (vx := .tuple #[.agg ((findK es2 (Ent.is (keyOf (K1 : Int)) (K2 : Int))).map cellB).toArray, .bool (es2.any (Ent.is (keyOf (K1 : Int)) (K2 : Int)))]) rfl (by kernel_rfl) (by kernel_rfl)) ?_
        simp only [put_list, List.set_cons_zero, List.set_cons_succ]
        refine wpList_allocV (by kernel_rfl) 31 (by kernel_rfl) ((zkey.map cellB).toArray) (fun _ => by kernel_rfl) ?_
        refine wpList_store_row (by kernel_rfl) 31 (Go.Operand.tmp 10) (Go.Operand.tmp 78) (by kernel_rfl) w8.heap.size (((findK es2 (Ent.is (keyOf (K1 : Int)) (K2 : Int))).map cellB).toArray) (by kernel_rfl) (by kernel_rfl) _ _ (heap_alloc_new _ _) (by rw [key_size _ (findK_len _ _)]; exact info_key) (by rw [key_size _ (findK_len _ _), key_size zkey (by simp [zkey])]) (cellB_one _) ?_
        rw [alloc_setRow]
        refine wpList_run (by kernel_rfl) (.bool (es2.any (Ent.is (keyOf (K1 : Int)) (K2 : Int)))) ((w8.alloc (.cells (((findK es2 (Ent.is (keyOf (K1 : Int)) (K2 : Int))).map cellB).toArray) 31))) (exec_assign rfl (by kernel_rfl)) ?_
        refine wpList_nil ?_
        simp only [put_list, put_none, List.set_cons_zero, List.set_cons_succ]
        have htw9 := ht7.below (below_tr hbw8 (below_alc w8 (.cells ((findK es2 (Ent.is (keyOf (K1 : Int)) (K2 : Int))).map cellB).toArray 31)))
        obtain ⟨w9, hw9⟩ : ∃ w9, w9 = w8.alloc (.cells ((findK es2 (Ent.is (keyOf (K1 : Int)) (K2 : Int))).map cellB).toArray 31) := ⟨_, rfl⟩
        rw [← hw9] at htw9 ⊢
        have hb79 : Below w6.heap.size w6 w9 := by rw [hw9]; exact below_tr hbw8 (below_alc _ _)
        have r10 : w9.rangeAt w8.heap.size 0 ((findK es2 (Ent.is (keyOf (K1 : Int)) (K2 : Int))).map cellB) := by rw [hw9]; exact range_new (heap1_0 _ _)
        have r10l : w8.heap.size < w9.heap.size := by rw [hw9]; simp
        obtain ⟨b10, hb10⟩ : ∃ b10, b10 = w8.heap.size := ⟨_, rfl⟩
        rw [← hb10] at r10 r10l ⊢
        have ht9 := htw9
        have rdw9 := rangeAt_below rd7 hb79 hbdl7
        have hbdl9 : bd < w9.heap.size := Nat.lt_of_lt_of_le hbdl7 hb79.size
        clear hw9 htw9 hbw8 hb10 rd7 rdw6 ht7 hb79 hbdl7
        go_upto_region 23 with (fail)
        refine wp_region_lit ?_
        refine wpList_run (by kernel_rfl) (.agg ((keyOf (K1 : Int)).map cellB).toArray) (w9) (exec_load (vx := .pointer (some ⟨bd, 0, none⟩)) rfl (by kernel_rfl) (load_row 31 bd 0 ((keyOf (K1 : Int)).map cellB) _ Try.underlying31 rfl (by rw [List.length_map, keyOf_len]; exact info_key) w9 rdw9)) ?_
        refine wpList_run (by kernel_rfl) (.int .u32 (K2 : Int)) (w9) (exec_move rfl (by kernel_rfl)) ?_
        refine wpList_call (by kernel_rfl) 16 #[Go.Operand.tmp 5, Go.Operand.tmp 81, Go.Operand.tmp 82] #[29, 31, 36] #[.pointer (some ⟨w0.heap.size + 1, 0, none⟩), .agg ((keyOf (K1 : Int)).map cellB).toArray, .int .u32 (K2 : Int)] _ rfl (by kernel_rfl) (by kernel_rfl) (dfind_any es2 (keyOf (K1 : Int)) (K2 : Int) (keyOf_len _) (by have := ht9.len; omega) (w0.heap.size + 1) A2 c2 w9 ht9.dk) ?_
        rintro e wd ⟨rfl, hbwd⟩
        refine ⟨_, rfl, ?_⟩
        refine wpList_run (by kernel_rfl) (.tuple #[.agg ((findK es2 (Ent.is (keyOf (K1 : Int)) (K2 : Int))).map cellB).toArray, .bool (es2.any (Ent.is (keyOf (K1 : Int)) (K2 : Int)))]) (wd) (exec_move rfl (by kernel_rfl)) ?_
        refine wpList_run (by kernel_rfl) (.agg ((findK es2 (Ent.is (keyOf (K1 : Int)) (K2 : Int))).map cellB).toArray) (wd) (exec_extract (vx := .tuple #[.agg ((findK es2 (Ent.is (keyOf (K1 : Int)) (K2 : Int))).map cellB).toArray, .bool (es2.any (Ent.is (keyOf (K1 : Int)) (K2 : Int)))]) rfl (by kernel_rfl) (by kernel_rfl)) ?_
        simp only [put_list, List.set_cons_zero, List.set_cons_succ]
        refine wpList_run (by kernel_rfl) (.bool (es2.any (Ent.is (keyOf (K1 : Int)) (K2 : Int)))) (wd) (exec_extract (vx := .tuple #[.agg ((findK es2 (Ent.is (keyOf (K1 : Int)) (K2 : Int))).map cellB).toArray, .bool (es2.any (Ent.is (keyOf (K1 : Int)) (K2 : Int)))]) rfl (by kernel_rfl) (by kernel_rfl)) ?_
        simp only [put_list, List.set_cons_zero, List.set_cons_succ]
        refine wpList_allocV (by kernel_rfl) 31 (by kernel_rfl) ((zkey.map cellB).toArray) (fun _ => by kernel_rfl) ?_
        refine wpList_store_row (by kernel_rfl) 31 (Go.Operand.tmp 12) (Go.Operand.tmp 84) (by kernel_rfl) wd.heap.size (((findK es2 (Ent.is (keyOf (K1 : Int)) (K2 : Int))).map cellB).toArray) (by kernel_rfl) (by kernel_rfl) _ _ (heap_alloc_new _ _) (by rw [key_size _ (findK_len _ _)]; exact info_key) (by rw [key_size _ (findK_len _ _), key_size zkey (by simp [zkey])]) (cellB_one _) ?_
        rw [alloc_setRow]
        refine wpList_run (by kernel_rfl) (.bool (es2.any (Ent.is (keyOf (K1 : Int)) (K2 : Int)))) ((wd.alloc (.cells (((findK es2 (Ent.is (keyOf (K1 : Int)) (K2 : Int))).map cellB).toArray) 31))) (exec_assign rfl (by kernel_rfl)) ?_
        refine wpList_nil ?_
        simp only [put_list, put_none, List.set_cons_zero, List.set_cons_succ]
        obtain ⟨wf, hwf⟩ : ∃ wf, wf = wd.alloc (.cells ((findK es2 (Ent.is (keyOf (K1 : Int)) (K2 : Int))).map cellB).toArray 31) := ⟨_, rfl⟩
        rw [← hwf]
        have hb9f : Below w9.heap.size w9 wf := by rw [hwf]; exact below_tr hbwd (below_alc _ _)
        have htf := ht9.below hb9f
        have r12 : wf.rangeAt wd.heap.size 0 ((findK es2 (Ent.is (keyOf (K1 : Int)) (K2 : Int))).map cellB) := by rw [hwf]; exact range_new (heap1_0 _ _)
        have r12l : wd.heap.size < wf.heap.size := by rw [hwf]; simp
        replace r10 := rangeAt_below r10 hb9f r10l
        replace r10l : b10 < wf.heap.size := Nat.lt_of_lt_of_le r10l hb9f.size
        obtain ⟨b12, hb12⟩ : ∃ b12, b12 = wd.heap.size := ⟨_, rfl⟩
        rw [← hb12] at r12 r12l ⊢
        clear hwf hbwd hb12 rdw9 ht9 hb9f hbdl9
        go_upto_region 24 with (fail)
        refine wp_region_noPanic ?_
        refine wp_region_held_drew (S := fun w' => Below wf.drew.heap.size wf.drew w') (by kernel_rfl) (Below.refl _ _) (fun hHeld => ?_)
        refine held_load 0 31 (Go.Operand.tmp 10) (some 86) (b10) (0) ((findK es2 (Ent.is (keyOf (K1 : Int)) (K2 : Int))).map cellB) _ (by kernel_rfl) (by kernel_rfl) (fun w h => rangeAt_below r10 (below_dr h) r10l) Try.underlying31 rfl (by rw [List.length_map, findK_len]; exact info_key) (by kernel_rfl) (by kernel_rfl) (by kernel_rfl) (fun _ _ _ _ _ h => h) hHeld ?_
        refine held_load 1 31 (Go.Operand.tmp 12) (some 87) (b12) (0) ((findK es2 (Ent.is (keyOf (K1 : Int)) (K2 : Int))).map cellB) _ (by kernel_rfl) (by kernel_rfl) (fun w h => rangeAt_below r12 (below_dr h) r12l) Try.underlying31 rfl (by rw [List.length_map, findK_len]; exact info_key) (by kernel_rfl) (by kernel_rfl) (by kernel_rfl) (fun _ _ _ _ _ h => h) hHeld ?_
        refine held_neq 2 31 (Go.Operand.tmp 86) (Go.Operand.tmp 87) 31 (some 88) (((findK es2 (Ent.is (keyOf (K1 : Int)) (K2 : Int))).map cellB).toArray) (((findK es2 (Ent.is (keyOf (K1 : Int)) (K2 : Int))).map cellB).toArray) true (by kernel_rfl) (by kernel_rfl) (by kernel_rfl) (by kernel_rfl) (fun w => eq_key w _ _ (findK_len _ _) (findK_len _ _) true (by simp)) (by kernel_rfl) (by kernel_rfl) (by kernel_rfl) (fun _ _ _ _ _ h => h) hHeld ?_
        refine held_move 3 (Go.Operand.tmp 88) (some 89) (.bool false) (by kernel_rfl) (by kernel_rfl) (by kernel_rfl) (by kernel_rfl) (by kernel_rfl) (fun _ _ _ _ _ h => h) hHeld ?_
        refine held_move 4 (Go.Operand.tmp 11) (some 90) (.bool (es2.any (Ent.is (keyOf (K1 : Int)) (K2 : Int)))) (by kernel_rfl) (by kernel_rfl) (by kernel_rfl) (by kernel_rfl) (by kernel_rfl) (fun _ _ _ _ _ h => h) hHeld ?_
        refine held_move 5 (Go.Operand.tmp 13) (some 91) (.bool (es2.any (Ent.is (keyOf (K1 : Int)) (K2 : Int)))) (by kernel_rfl) (by kernel_rfl) (by kernel_rfl) (by kernel_rfl) (by kernel_rfl) (fun _ _ _ _ _ h => h) hHeld ?_
        refine held_bin 6 Go.BinOp.neq 4 (Go.Operand.tmp 90) (Go.Operand.tmp 91) 4 (some 92) (.bool (es2.any (Ent.is (keyOf (K1 : Int)) (K2 : Int)))) (.bool (es2.any (Ent.is (keyOf (K1 : Int)) (K2 : Int)))) (.bool false) (by kernel_rfl) (by kernel_rfl) (fun w => nq_bool _ _ _ w) (by kernel_rfl) (by kernel_rfl) (by kernel_rfl) (fun _ _ _ _ _ h => h) hHeld ?_
        refine held_pick 7 (Go.Operand.tmp 89) (Go.Operand.const (Go.Value.bool true)) (Go.Operand.tmp 92) (some 93) false (.bool false) (by kernel_rfl) (by kernel_rfl) (by kernel_rfl) (by kernel_rfl) (by kernel_rfl) (by kernel_rfl) (fun _ _ _ _ _ h => h) hHeld ?_
        refine held_move 8 (Go.Operand.tmp 93) (some 94) (.bool false) (by kernel_rfl) (by kernel_rfl) (by kernel_rfl) (by kernel_rfl) (by kernel_rfl) (fun _ _ _ _ _ h => h) hHeld ?_
        refine held_field 10 29 (Go.Operand.tmp 5) 0 (some 96) (.pointer (some ⟨w0.heap.size + 1, 0, none⟩)) (.pointer (some ⟨w0.heap.size + 1, 0, none⟩)) (by kernel_rfl) (by kernel_rfl) (fun w => field_D _ w) (by kernel_rfl) (by kernel_rfl) (by kernel_rfl) (fun _ _ _ _ _ h => h) hHeld ?_
        refine held_cell 11 27 (Go.Operand.tmp 96) (some 97) (.pointer (some ⟨w0.heap.size + 1, 0, none⟩)) (.slice A2 es2.length c2) (by kernel_rfl) (by kernel_rfl) (fun w h => load_dsl _ _ w (htf.below (below_dr h)).dk.cell) (by kernel_rfl) (by kernel_rfl) (by kernel_rfl) (fun _ _ _ _ _ h => h) hHeld ?_
        refine held_call 9 12 #[Go.Operand.tmp 4] #[26] (some 95) #[.pointer (some ⟨w0.heap.size, 0, none⟩)] _ (by kernel_rfl) (by kernel_rfl) (by kernel_rfl) (by kernel_rfl) (all_any es2 (by have := htf.len; omega) w.heap.size w0.heap.size 0 vs2 wf.drew (htf.below (below_dr hHeld)).sk) ?_
        rintro e wh ⟨vh, rfl, hoh, hbh⟩
        obtain ⟨Ah, ch, rfl, _, _, _⟩ := own_slice hoh
        have htf2 := htf.below (below_dr (below_tr hHeld hbh))
        refine ⟨_, rfl, below_tr hHeld hbh, fun hHeld => ?_⟩
        refine held_call 12 17 #[Go.Operand.tmp 95, Go.Operand.tmp 97] #[24, 27] (some 98) #[.slice Ah es2.length ch, .slice A2 es2.length c2] _ (by kernel_rfl) (by kernel_rfl) (by kernel_rfl) (by kernel_rfl) (same_any es2 (by have := htf.len; omega) Ah A2 ch c2 wh (own_read hoh) htf2.dk.row) ?_
        rintro e wj ⟨rfl, hbj⟩
        refine ⟨_, rfl, below_tr hHeld hbj, fun hHeld => ?_⟩
        refine held_any 13 (Go.Op.unOp Go.UnOp.not 4 (Go.Operand.tmp 98)) (some 99) (.bool false) (by kernel_rfl) (by kernel_rfl) (by kernel_rfl) (by kernel_rfl) (fun _ _ _ _ _ h => h) hHeld (fun o ho w _ => exec_un (vx := .bool true) ho (by kernel_rfl) (by kernel_rfl)) ?_
        refine held_pick 14 (Go.Operand.tmp 94) (Go.Operand.const (Go.Value.bool true)) (Go.Operand.tmp 99) (some 100) false (.bool false) (by kernel_rfl) (by kernel_rfl) (by kernel_rfl) (by kernel_rfl) (by kernel_rfl) (by kernel_rfl) (fun _ _ _ _ _ h => h) hHeld ?_
        refine wpAnyH_done (by kernel_rfl) ?_ _
        refine NoPanic.normal ?_
        have hte := htf.below (below_dr hHeld)
        clear htf htf2 hoh hHeld hbj hbh r10 r10l r12 r12l
        simp only [put_list, List.set_cons_zero, List.set_cons_succ]
        go_wp2_with fail
        go_roundw
        case rel => exact ⟨k + 1, vs2, A2, c2, es2, by go_num, by omega, hte⟩
        case measure => simp [intOf]; omega
      have q3 : ((K0 : Int) == 3) = false := by simp; omega
      have q4 : ((K0 : Int) == 4) = false := by simp; omega
      clear k3 k4
      go_upto_region 14 with (fail)
      refine wp_region_lit ?_
      refine wpList_run (by kernel_rfl) (.slice (some ⟨gb, o, none⟩) len cap) (w3) (exec_move rfl (by kernel_rfl)) ?_
      refine wpList_run (by kernel_rfl) (.int .i64 (k : Int)) (w3) (exec_move rfl (by kernel_rfl)) ?_
      refine wpList_run (by kernel_rfl) (.pointer (some ⟨gb, o + k * 4, none⟩)) (w3) (exec_index (vx := .slice (some ⟨gb, o, none⟩) len cap) (vy := .int .i64 (k : Int)) rfl (by kernel_rfl) (idx_do gb o len cap k hlt _)) ?_
      refine wpList_run (by kernel_rfl) (.pointer (some ⟨gb, o + k * 4 + 3, none⟩)) (w3) (exec_field (vx := .pointer (some ⟨gb, o + k * 4, none⟩)) rfl (by kernel_rfl) (field_do3 gb _ _)) ?_
      simp only [put_list, List.set_cons_zero, List.set_cons_succ]
      refine wpList_run (by kernel_rfl) (.int .i64 (g k 3)) (w3) (exec_load (vx := .pointer (some ⟨gb, o + k * 4 + 3, none⟩)) rfl (by kernel_rfl) (load_i64 _ _ _ _ (fi_at hcw3 hlt 3 (by omega)))) ?_
      refine wpList_call (by kernel_rfl) 7 #[Go.Operand.tmp 51] #[3] #[.int .i64 (g k 3)] _ rfl (by kernel_rfl) (by kernel_rfl) (keyis_any (g k 3) w3) ?_
      rintro e wc ⟨rfl, hbwc⟩
      refine ⟨_, rfl, ?_⟩
      simp only [put_list, List.set_cons_zero, List.set_cons_succ]
      refine wpList_allocV (by kernel_rfl) 31 (by kernel_rfl) ((zkey.map cellB).toArray) (fun _ => by kernel_rfl) ?_
      refine wpList_store_row (by kernel_rfl) 31 (Go.Operand.tmp 9) (Go.Operand.tmp 52) (by kernel_rfl) wc.heap.size (((keyOf (g k 3)).map cellB).toArray) (by kernel_rfl) (by kernel_rfl) _ _ (heap_alloc_new _ _) (by rw [key_size _ (keyOf_len _)]; exact info_key) (by rw [key_size _ (keyOf_len _), key_size zkey (by simp [zkey])]) (cellB_one _) ?_
      rw [alloc_setRow]
      refine wpList_nil ?_
      simp only [put_list, put_none, List.set_cons_zero, List.set_cons_succ]
      obtain ⟨w4, hw4⟩ : ∃ w4, w4 = wc.alloc (.cells ((keyOf (g k 3)).map cellB).toArray 31) := ⟨_, rfl⟩
      rw [← hw4]
      have hb34 : Below w3.heap.size w3 w4 := by rw [hw4]; exact below_tr hbwc (below_alc _ _)
      have rk4 : w4.rangeAt wc.heap.size 0 ((keyOf (g k 3)).map cellB) := by rw [hw4]; exact range_new (heap1_0 _ _)
      have hbkl4 : wc.heap.size < w4.heap.size := by rw [hw4]; simp
      have h3c := hbwc.size
      have hbkS : wc.heap.size ≠ w0.heap.size := by omega
      have hbkX : wc.heap.size ≠ w0.heap.size + 1 := by have := ht3.dk.lt; omega
      have hbko : some wc.heap.size ≠ vs.ownBlock := fun e => by have := (ht3.sk.own.lt _ e.symm).2; omega
      obtain ⟨bk, hbk⟩ : ∃ bk, bk = wc.heap.size := ⟨_, rfl⟩
      rw [← hbk] at rk4 hbkl4 hbkS hbkX hbko ⊢
      have ht4 := ht3.below hb34
      have rd4 := rangeAt_below rd3 hb34 hbdl3
      have hbdl4 : bd < w4.heap.size := Nat.lt_of_lt_of_le hbdl3 hb34.size
      clear hw4 hbwc hb34 hbk h3c ht3 rd3 hbdl3 hcw3 hB0
      go_upto_region 15 with (fail)
      refine wp_region_lit ?_
      refine wpList_run (by kernel_rfl) (.agg ((keyOf (K1 : Int)).map cellB).toArray) (w4) (exec_load (vx := .pointer (some ⟨bd, 0, none⟩)) rfl (by kernel_rfl) (load_row 31 bd 0 ((keyOf (K1 : Int)).map cellB) _ Try.underlying31 rfl (by rw [List.length_map, keyOf_len]; exact info_key) w4 rd4)) ?_
      refine wpList_run (by kernel_rfl) (.int .u32 (K2 : Int)) (w4) (exec_move rfl (by kernel_rfl)) ?_
      refine wpList_run (by kernel_rfl) (.agg ((keyOf (g k 3)).map cellB).toArray) (w4) (exec_load (vx := .pointer (some ⟨bk, 0, none⟩)) rfl (by kernel_rfl) (load_row 31 bk 0 ((keyOf (g k 3)).map cellB) _ Try.underlying31 rfl (by rw [List.length_map, keyOf_len]; exact info_key) w4 rk4)) ?_
      refine wpList_call (by kernel_rfl) 13 #[Go.Operand.tmp 4, Go.Operand.tmp 53, Go.Operand.tmp 54, Go.Operand.tmp 55] #[26, 31, 36, 31] #[.pointer (some ⟨w0.heap.size, 0, none⟩), .agg ((keyOf (K1 : Int)).map cellB).toArray, .int .u32 (K2 : Int), .agg ((keyOf (g k 3)).map cellB).toArray] _ rfl (by kernel_rfl) (by kernel_rfl) (put_any es (keyOf (K1 : Int)) (keyOf (g k 3)) (K2 : Int) (keyOf_len _) (keyOf_len _) (by have := ht4.len; omega) w.heap.size w0.heap.size 0 vs w4 ht4.nw ht4.sk) ?_
      rintro e w5 ⟨rfl, vs5, hs5, hm5, hq5⟩
      refine ⟨_, rfl, ?_⟩
      refine wpList_nil ?_
      simp only [put_list, List.set_cons_zero, List.set_cons_succ]
      have hh5 := ht4.half hs5 hm5 (.inl rfl) hq5
      have rd5 := hm5.range rd4 hbdl4 hbdS hbdo
      have rk5 := hm5.range rk4 hbkl4 hbkS hbko
      have hbdl5 : bd < w5.heap.size := Nat.lt_of_lt_of_le hbdl4 hm5.size
      clear hs5 hm5 hq5 rd4 rk4 hbdl4 hbkl4 ht4
      go_upto_region 16 with (fail)
      refine wp_region_lit ?_
      refine wpList_run (by kernel_rfl) (.agg ((keyOf (K1 : Int)).map cellB).toArray) (w5) (exec_load (vx := .pointer (some ⟨bd, 0, none⟩)) rfl (by kernel_rfl) (load_row 31 bd 0 ((keyOf (K1 : Int)).map cellB) _ Try.underlying31 rfl (by rw [List.length_map, keyOf_len]; exact info_key) w5 rd5)) ?_
      refine wpList_run (by kernel_rfl) (.int .u32 (K2 : Int)) (w5) (exec_move rfl (by kernel_rfl)) ?_
      refine wpList_run (by kernel_rfl) (.agg ((keyOf (g k 3)).map cellB).toArray) (w5) (exec_load (vx := .pointer (some ⟨bk, 0, none⟩)) rfl (by kernel_rfl) (load_row 31 bk 0 ((keyOf (g k 3)).map cellB) _ Try.underlying31 rfl (by rw [List.length_map, keyOf_len]; exact info_key) w5 rk5)) ?_
      refine wpList_call (by kernel_rfl) 14 #[Go.Operand.tmp 5, Go.Operand.tmp 57, Go.Operand.tmp 58, Go.Operand.tmp 59] #[29, 31, 36, 31] #[.pointer (some ⟨w0.heap.size + 1, 0, none⟩), .agg ((keyOf (K1 : Int)).map cellB).toArray, .int .u32 (K2 : Int), .agg ((keyOf (g k 3)).map cellB).toArray] _ rfl (by kernel_rfl) (by kernel_rfl) (dput_any es (keyOf (K1 : Int)) (keyOf (g k 3)) (K2 : Int) (keyOf_len _) (keyOf_len _) hh5.len (w0.heap.size + 1) A c w5 hh5.dk) ?_
      rintro e w6 ⟨rfl, A6, c6, hd6, hm6, hq6⟩
      refine ⟨_, rfl, ?_⟩
      refine wpList_nil ?_
      simp only [put_list, List.set_cons_zero, List.set_cons_succ]
      have ht6 := hh5.two hd6 hm6 hq6 (putL_40 _ hh5.len) (hh5.nk.put _)
      have rd7 := hm6.range rd5 hbdl5 hbdX (by simp)
      have hbdl7 : bd < w6.heap.size := Nat.lt_of_lt_of_le hbdl5 hm6.size
      obtain ⟨vs2, A2, c2, es2, ht7⟩ : ∃ vs2 A2 c2 es2, Two w w6 w.heap.size w0.heap.size vs2 (w0.heap.size + 1) A2 c2 es2 := ⟨_, _, _, _, ht6⟩
      clear hd6 hm6 hq6 ht6 hh5 rd5 rk5 hbdl5 HC
      have rdw6 := rd7
      go_upto_region 22 with (fail)
      refine wp_region_lit ?_
      refine wpList_run (by kernel_rfl) (.agg ((keyOf (K1 : Int)).map cellB).toArray) (w6) (exec_load (vx := .pointer (some ⟨bd, 0, none⟩)) rfl (by kernel_rfl) (load_row 31 bd 0 ((keyOf (K1 : Int)).map cellB) _ Try.underlying31 rfl (by rw [List.length_map, keyOf_len]; exact info_key) w6 rdw6)) ?_
      refine wpList_run (by kernel_rfl) (.int .u32 (K2 : Int)) (w6) (exec_move rfl (by kernel_rfl)) ?_
      refine wpList_call (by kernel_rfl) 15 #[Go.Operand.tmp 4, Go.Operand.tmp 75, Go.Operand.tmp 76] #[26, 31, 36] #[.pointer (some ⟨w0.heap.size, 0, none⟩), .agg ((keyOf (K1 : Int)).map cellB).toArray, .int .u32 (K2 : Int)] _ rfl (by kernel_rfl) (by kernel_rfl) (find_any es2 (keyOf (K1 : Int)) (K2 : Int) (keyOf_len _) (by have := ht7.len; omega) w.heap.size w0.heap.size 0 vs2 w6 ht7.sk) ?_
      rintro e w8 ⟨rfl, hbw8⟩
      refine ⟨_, rfl, ?_⟩
      refine wpList_run (by kernel_rfl) (.tuple #[.agg ((findK es2 (Ent.is (keyOf (K1 : Int)) (K2 : Int))).map cellB).toArray, .bool (es2.any (Ent.is (keyOf (K1 : Int)) (K2 : Int)))]) (w8) (exec_move rfl (by kernel_rfl)) ?_
      refine wpList_run (by kernel_rfl) (.agg ((findK es2 (Ent.is (keyOf (K1 : Int)) (K2 : Int))).map cellB).toArray) (w8) (exec_extract (vx := .tuple #[.agg ((findK es2 (Ent.is (keyOf (K1 : Int)) (K2 : Int))).map cellB).toArray, .bool (es2.any (Ent.is (keyOf (K1 : Int)) (K2 : Int)))]) rfl (by kernel_rfl) (by kernel_rfl)) ?_
      simp only [put_list, List.set_cons_zero, List.set_cons_succ]
      refine wpList_run (by kernel_rfl) (.bool (es2.any (Ent.is (keyOf (K1 : Int)) (K2 : Int)))) (w8) (exec_extract (vx := .tuple #[.agg ((findK es2 (Ent.is (keyOf (K1 : Int)) (K2 : Int))).map cellB).toArray, .bool (es2.any (Ent.is (keyOf (K1 : Int)) (K2 : Int)))]) rfl (by kernel_rfl) (by kernel_rfl)) ?_
      simp only [put_list, List.set_cons_zero, List.set_cons_succ]
      refine wpList_allocV (by kernel_rfl) 31 (by kernel_rfl) ((zkey.map cellB).toArray) (fun _ => by kernel_rfl) ?_
      refine wpList_store_row (by kernel_rfl) 31 (Go.Operand.tmp 10) (Go.Operand.tmp 78) (by kernel_rfl) w8.heap.size (((findK es2 (Ent.is (keyOf (K1 : Int)) (K2 : Int))).map cellB).toArray) (by kernel_rfl) (by kernel_rfl) _ _ (heap_alloc_new _ _) (by rw [key_size _ (findK_len _ _)]; exact info_key) (by rw [key_size _ (findK_len _ _), key_size zkey (by simp [zkey])]) (cellB_one _) ?_
      rw [alloc_setRow]
      refine wpList_run (by kernel_rfl) (.bool (es2.any (Ent.is (keyOf (K1 : Int)) (K2 : Int)))) ((w8.alloc (.cells (((findK es2 (Ent.is (keyOf (K1 : Int)) (K2 : Int))).map cellB).toArray) 31))) (exec_assign rfl (by kernel_rfl)) ?_
      refine wpList_nil ?_
      simp only [put_list, put_none, List.set_cons_zero, List.set_cons_succ]
      have htw9 := ht7.below (below_tr hbw8 (below_alc w8 (.cells ((findK es2 (Ent.is (keyOf (K1 : Int)) (K2 : Int))).map cellB).toArray 31)))
      obtain ⟨w9, hw9⟩ : ∃ w9, w9 = w8.alloc (.cells ((findK es2 (Ent.is (keyOf (K1 : Int)) (K2 : Int))).map cellB).toArray 31) := ⟨_, rfl⟩
      rw [← hw9] at htw9 ⊢
      have hb79 : Below w6.heap.size w6 w9 := by rw [hw9]; exact below_tr hbw8 (below_alc _ _)
      have r10 : w9.rangeAt w8.heap.size 0 ((findK es2 (Ent.is (keyOf (K1 : Int)) (K2 : Int))).map cellB) := by rw [hw9]; exact range_new (heap1_0 _ _)
      have r10l : w8.heap.size < w9.heap.size := by rw [hw9]; simp
      obtain ⟨b10, hb10⟩ : ∃ b10, b10 = w8.heap.size := ⟨_, rfl⟩
      rw [← hb10] at r10 r10l ⊢
      have ht9 := htw9
      have rdw9 := rangeAt_below rd7 hb79 hbdl7
      have hbdl9 : bd < w9.heap.size := Nat.lt_of_lt_of_le hbdl7 hb79.size
      clear hw9 htw9 hbw8 hb10 rd7 rdw6 ht7 hb79 hbdl7
      go_upto_region 23 with (fail)
      refine wp_region_lit ?_
      refine wpList_run (by kernel_rfl) (.agg ((keyOf (K1 : Int)).map cellB).toArray) (w9) (exec_load (vx := .pointer (some ⟨bd, 0, none⟩)) rfl (by kernel_rfl) (load_row 31 bd 0 ((keyOf (K1 : Int)).map cellB) _ Try.underlying31 rfl (by rw [List.length_map, keyOf_len]; exact info_key) w9 rdw9)) ?_
      refine wpList_run (by kernel_rfl) (.int .u32 (K2 : Int)) (w9) (exec_move rfl (by kernel_rfl)) ?_
      refine wpList_call (by kernel_rfl) 16 #[Go.Operand.tmp 5, Go.Operand.tmp 81, Go.Operand.tmp 82] #[29, 31, 36] #[.pointer (some ⟨w0.heap.size + 1, 0, none⟩), .agg ((keyOf (K1 : Int)).map cellB).toArray, .int .u32 (K2 : Int)] _ rfl (by kernel_rfl) (by kernel_rfl) (dfind_any es2 (keyOf (K1 : Int)) (K2 : Int) (keyOf_len _) (by have := ht9.len; omega) (w0.heap.size + 1) A2 c2 w9 ht9.dk) ?_
      rintro e wd ⟨rfl, hbwd⟩
      refine ⟨_, rfl, ?_⟩
      refine wpList_run (by kernel_rfl) (.tuple #[.agg ((findK es2 (Ent.is (keyOf (K1 : Int)) (K2 : Int))).map cellB).toArray, .bool (es2.any (Ent.is (keyOf (K1 : Int)) (K2 : Int)))]) (wd) (exec_move rfl (by kernel_rfl)) ?_
      refine wpList_run (by kernel_rfl) (.agg ((findK es2 (Ent.is (keyOf (K1 : Int)) (K2 : Int))).map cellB).toArray) (wd) (exec_extract (vx := .tuple #[.agg ((findK es2 (Ent.is (keyOf (K1 : Int)) (K2 : Int))).map cellB).toArray, .bool (es2.any (Ent.is (keyOf (K1 : Int)) (K2 : Int)))]) rfl (by kernel_rfl) (by kernel_rfl)) ?_
      simp only [put_list, List.set_cons_zero, List.set_cons_succ]
      refine wpList_run (by kernel_rfl) (.bool (es2.any (Ent.is (keyOf (K1 : Int)) (K2 : Int)))) (wd) (exec_extract (vx := .tuple #[.agg ((findK es2 (Ent.is (keyOf (K1 : Int)) (K2 : Int))).map cellB).toArray, .bool (es2.any (Ent.is (keyOf (K1 : Int)) (K2 : Int)))]) rfl (by kernel_rfl) (by kernel_rfl)) ?_
      simp only [put_list, List.set_cons_zero, List.set_cons_succ]
      refine wpList_allocV (by kernel_rfl) 31 (by kernel_rfl) ((zkey.map cellB).toArray) (fun _ => by kernel_rfl) ?_
      refine wpList_store_row (by kernel_rfl) 31 (Go.Operand.tmp 12) (Go.Operand.tmp 84) (by kernel_rfl) wd.heap.size (((findK es2 (Ent.is (keyOf (K1 : Int)) (K2 : Int))).map cellB).toArray) (by kernel_rfl) (by kernel_rfl) _ _ (heap_alloc_new _ _) (by rw [key_size _ (findK_len _ _)]; exact info_key) (by rw [key_size _ (findK_len _ _), key_size zkey (by simp [zkey])]) (cellB_one _) ?_
      rw [alloc_setRow]
      refine wpList_run (by kernel_rfl) (.bool (es2.any (Ent.is (keyOf (K1 : Int)) (K2 : Int)))) ((wd.alloc (.cells (((findK es2 (Ent.is (keyOf (K1 : Int)) (K2 : Int))).map cellB).toArray) 31))) (exec_assign rfl (by kernel_rfl)) ?_
      refine wpList_nil ?_
      simp only [put_list, put_none, List.set_cons_zero, List.set_cons_succ]
      obtain ⟨wf, hwf⟩ : ∃ wf, wf = wd.alloc (.cells ((findK es2 (Ent.is (keyOf (K1 : Int)) (K2 : Int))).map cellB).toArray 31) := ⟨_, rfl⟩
      rw [← hwf]
      have hb9f : Below w9.heap.size w9 wf := by rw [hwf]; exact below_tr hbwd (below_alc _ _)
      have htf := ht9.below hb9f
      have r12 : wf.rangeAt wd.heap.size 0 ((findK es2 (Ent.is (keyOf (K1 : Int)) (K2 : Int))).map cellB) := by rw [hwf]; exact range_new (heap1_0 _ _)
      have r12l : wd.heap.size < wf.heap.size := by rw [hwf]; simp
      replace r10 := rangeAt_below r10 hb9f r10l
      replace r10l : b10 < wf.heap.size := Nat.lt_of_lt_of_le r10l hb9f.size
      obtain ⟨b12, hb12⟩ : ∃ b12, b12 = wd.heap.size := ⟨_, rfl⟩
      rw [← hb12] at r12 r12l ⊢
      clear hwf hbwd hb12 rdw9 ht9 hb9f hbdl9
      go_upto_region 24 with (fail)
      refine wp_region_noPanic ?_
      refine wp_region_held_drew (S := fun w' => Below wf.drew.heap.size wf.drew w') (by kernel_rfl) (Below.refl _ _) (fun hHeld => ?_)
      refine held_load 0 31 (Go.Operand.tmp 10) (some 86) (b10) (0) ((findK es2 (Ent.is (keyOf (K1 : Int)) (K2 : Int))).map cellB) _ (by kernel_rfl) (by kernel_rfl) (fun w h => rangeAt_below r10 (below_dr h) r10l) Try.underlying31 rfl (by rw [List.length_map, findK_len]; exact info_key) (by kernel_rfl) (by kernel_rfl) (by kernel_rfl) (fun _ _ _ _ _ h => h) hHeld ?_
      refine held_load 1 31 (Go.Operand.tmp 12) (some 87) (b12) (0) ((findK es2 (Ent.is (keyOf (K1 : Int)) (K2 : Int))).map cellB) _ (by kernel_rfl) (by kernel_rfl) (fun w h => rangeAt_below r12 (below_dr h) r12l) Try.underlying31 rfl (by rw [List.length_map, findK_len]; exact info_key) (by kernel_rfl) (by kernel_rfl) (by kernel_rfl) (fun _ _ _ _ _ h => h) hHeld ?_
      refine held_neq 2 31 (Go.Operand.tmp 86) (Go.Operand.tmp 87) 31 (some 88) (((findK es2 (Ent.is (keyOf (K1 : Int)) (K2 : Int))).map cellB).toArray) (((findK es2 (Ent.is (keyOf (K1 : Int)) (K2 : Int))).map cellB).toArray) true (by kernel_rfl) (by kernel_rfl) (by kernel_rfl) (by kernel_rfl) (fun w => eq_key w _ _ (findK_len _ _) (findK_len _ _) true (by simp)) (by kernel_rfl) (by kernel_rfl) (by kernel_rfl) (fun _ _ _ _ _ h => h) hHeld ?_
      refine held_move 3 (Go.Operand.tmp 88) (some 89) (.bool false) (by kernel_rfl) (by kernel_rfl) (by kernel_rfl) (by kernel_rfl) (by kernel_rfl) (fun _ _ _ _ _ h => h) hHeld ?_
      refine held_move 4 (Go.Operand.tmp 11) (some 90) (.bool (es2.any (Ent.is (keyOf (K1 : Int)) (K2 : Int)))) (by kernel_rfl) (by kernel_rfl) (by kernel_rfl) (by kernel_rfl) (by kernel_rfl) (fun _ _ _ _ _ h => h) hHeld ?_
      refine held_move 5 (Go.Operand.tmp 13) (some 91) (.bool (es2.any (Ent.is (keyOf (K1 : Int)) (K2 : Int)))) (by kernel_rfl) (by kernel_rfl) (by kernel_rfl) (by kernel_rfl) (by kernel_rfl) (fun _ _ _ _ _ h => h) hHeld ?_
      refine held_bin 6 Go.BinOp.neq 4 (Go.Operand.tmp 90) (Go.Operand.tmp 91) 4 (some 92) (.bool (es2.any (Ent.is (keyOf (K1 : Int)) (K2 : Int)))) (.bool (es2.any (Ent.is (keyOf (K1 : Int)) (K2 : Int)))) (.bool false) (by kernel_rfl) (by kernel_rfl) (fun w => nq_bool _ _ _ w) (by kernel_rfl) (by kernel_rfl) (by kernel_rfl) (fun _ _ _ _ _ h => h) hHeld ?_
      refine held_pick 7 (Go.Operand.tmp 89) (Go.Operand.const (Go.Value.bool true)) (Go.Operand.tmp 92) (some 93) false (.bool false) (by kernel_rfl) (by kernel_rfl) (by kernel_rfl) (by kernel_rfl) (by kernel_rfl) (by kernel_rfl) (fun _ _ _ _ _ h => h) hHeld ?_
      refine held_move 8 (Go.Operand.tmp 93) (some 94) (.bool false) (by kernel_rfl) (by kernel_rfl) (by kernel_rfl) (by kernel_rfl) (by kernel_rfl) (fun _ _ _ _ _ h => h) hHeld ?_
      refine held_field 10 29 (Go.Operand.tmp 5) 0 (some 96) (.pointer (some ⟨w0.heap.size + 1, 0, none⟩)) (.pointer (some ⟨w0.heap.size + 1, 0, none⟩)) (by kernel_rfl) (by kernel_rfl) (fun w => field_D _ w) (by kernel_rfl) (by kernel_rfl) (by kernel_rfl) (fun _ _ _ _ _ h => h) hHeld ?_
      refine held_cell 11 27 (Go.Operand.tmp 96) (some 97) (.pointer (some ⟨w0.heap.size + 1, 0, none⟩)) (.slice A2 es2.length c2) (by kernel_rfl) (by kernel_rfl) (fun w h => load_dsl _ _ w (htf.below (below_dr h)).dk.cell) (by kernel_rfl) (by kernel_rfl) (by kernel_rfl) (fun _ _ _ _ _ h => h) hHeld ?_
      refine held_call 9 12 #[Go.Operand.tmp 4] #[26] (some 95) #[.pointer (some ⟨w0.heap.size, 0, none⟩)] _ (by kernel_rfl) (by kernel_rfl) (by kernel_rfl) (by kernel_rfl) (all_any es2 (by have := htf.len; omega) w.heap.size w0.heap.size 0 vs2 wf.drew (htf.below (below_dr hHeld)).sk) ?_
      rintro e wh ⟨vh, rfl, hoh, hbh⟩
      obtain ⟨Ah, ch, rfl, _, _, _⟩ := own_slice hoh
      have htf2 := htf.below (below_dr (below_tr hHeld hbh))
      refine ⟨_, rfl, below_tr hHeld hbh, fun hHeld => ?_⟩
      refine held_call 12 17 #[Go.Operand.tmp 95, Go.Operand.tmp 97] #[24, 27] (some 98) #[.slice Ah es2.length ch, .slice A2 es2.length c2] _ (by kernel_rfl) (by kernel_rfl) (by kernel_rfl) (by kernel_rfl) (same_any es2 (by have := htf.len; omega) Ah A2 ch c2 wh (own_read hoh) htf2.dk.row) ?_
      rintro e wj ⟨rfl, hbj⟩
      refine ⟨_, rfl, below_tr hHeld hbj, fun hHeld => ?_⟩
      refine held_any 13 (Go.Op.unOp Go.UnOp.not 4 (Go.Operand.tmp 98)) (some 99) (.bool false) (by kernel_rfl) (by kernel_rfl) (by kernel_rfl) (by kernel_rfl) (fun _ _ _ _ _ h => h) hHeld (fun o ho w _ => exec_un (vx := .bool true) ho (by kernel_rfl) (by kernel_rfl)) ?_
      refine held_pick 14 (Go.Operand.tmp 94) (Go.Operand.const (Go.Value.bool true)) (Go.Operand.tmp 99) (some 100) false (.bool false) (by kernel_rfl) (by kernel_rfl) (by kernel_rfl) (by kernel_rfl) (by kernel_rfl) (by kernel_rfl) (fun _ _ _ _ _ h => h) hHeld ?_
      refine wpAnyH_done (by kernel_rfl) ?_ _
      refine NoPanic.normal ?_
      have hte := htf.below (below_dr hHeld)
      clear htf htf2 hoh hHeld hbj hbh r10 r10l r12 r12l
      simp only [put_list, List.set_cons_zero, List.set_cons_succ]
      go_wp2_with fail
      go_roundw
      case rel => exact ⟨k + 1, vs2, A2, c2, es2, by go_num, by omega, hte⟩
      case measure => simp [intOf]; omega
    · have hlt' : decide (k < len) = false := by simpa using hlt
      go_wp2_with fail
      go_ret
      exact ⟨rfl, ht.low⟩
end Go.Proofs.Ytklooieghlnblaa
