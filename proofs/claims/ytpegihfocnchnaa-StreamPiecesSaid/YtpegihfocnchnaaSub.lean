import Derived.Test.YtpegihfocnchnaaSua
/-
  stream.All; courierlaw16's first.
-/
namespace Go.Proofs.Ytpegihfocnchnaa
open Go.RowKit

/-- bytes that are there, in memory from B on -/
def SlFr (B : Nat) (xs : List (BitVec 8)) (v : Value) (w : World) : Prop := ∃ A c, v = .slice A xs.length c ∧ xs.length ≤ c ∧ SlRead w A (ints .u8 (bys xs)) ∧ ∀ b o, A = some ⟨b, o, none⟩ → B ≤ b
theorem SlFr.mono {B : Nat} {xs : List (BitVec 8)} : ∀ y w1 w2, SlFr B xs y w1 → Cells w1 w2 → SlFr B xs y w2 := by
  rintro y w1 w2 ⟨A, c, h1, h2, h3, h4⟩ hb
  exact ⟨A, c, h1, h2, h3.cells hb, h4⟩
theorem OwnB.fr {w : World} {B : Nat} {zs : List (BitVec 8)} {v : Value} {W : World} {B' : Nat} (h : OwnB w B zs v W) (hB : B' ≤ B) : SlFr B' zs v W := by
  obtain ⟨A, c, rfl, h1, h2⟩ := h.is
  refine ⟨A, c, rfl, h1, h2, fun b o e => ?_⟩
  subst e
  have := (h.own.lt b rfl).1
  omega
theorem cvt_u32 (k : Nat) (w : World) : (convert 3 34 (.int .i64 ((k : Nat) : Int))).run Try.prog w = .ok (v32 (BitVec.ofNat 32 k)) w := by
  have h1 := Try.underlying3
  have h2 := Try.underlying34
  have e : (k : Int) % 4294967296 = n32 (BitVec.ofNat 32 k) := by unfold n32; rw [BitVec.toNat_ofNat]; omega
  have e2 : IntKind.u32.wrap (k : Int) = n32 (BitVec.ofNat 32 k) := by rw [← e]; simp [IntKind.wrap, IntKind.signed, IntKind.bits]
  simp [convert, run_underlying h1, run_underlying h2, Conv.intToInt, e2]
theorem infoSl : (Try.prog.info? 22).map (fun i => (i.zero, i.size, i.bytes)) = some (some (.slice none 0 0), 1, 24) := by kernel_rfl

/-- the sealed chunks of a file -/
def sealC (key : Nat → BitVec 8) (file : List (BitVec 8)) (ch : Int) (i : Nat) : List (BitVec 8) := sealB key (nonB (BitVec.ofNat 32 i) ((i : Int) == ((countN file.length ch : Int) - 1))) [] (pieceL file ch (i : Int))
/-- some of n slices of bytes are laid -/
structure PkAt (G n k : Nat) (L : Nat → List (BitVec 8)) (As : Nat → Option Addr) (cs : Nat → Nat) (W : World) : Prop where
  row : W.rowIs G 22 n (fun i => if i < k then .slice (As i) (L i).length (cs i) else .slice none 0 0)
  rd : ∀ i, i < k → SlRead W (As i) (ints .u8 (bys (L i))) ∧ (L i).length ≤ cs i ∧ ∀ b o, As i = some ⟨b, o, none⟩ → G < b
theorem PkAt.below {G n k : Nat} {L : Nat → List (BitVec 8)} {As : Nat → Option Addr} {cs : Nat → Nat} {W W' : World} (h : PkAt G n k L As cs W) (hb : Below W.heap.size W W') : PkAt G n k L As cs W' :=
  ⟨h.row.of_block (hb.block _ h.row.lt), fun i hi => ⟨(h.rd i hi).1.below hb, (h.rd i hi).2⟩⟩
theorem PkAt.put {G n k : Nat} {L : Nat → List (BitVec 8)} {As : Nat → Option Addr} {cs : Nat → Nat} {W : World} (h : PkAt G n k L As cs W) (A : Option Addr) (c : Nat) (hA : SlRead W A (ints .u8 (bys (L k)))) (hc : (L k).length ≤ c) (hf : ∀ b o, A = some ⟨b, o, none⟩ → G < b) :
    PkAt G n (k + 1) L (fun i => if i = k then A else As i) (fun i => if i = k then c else cs i) (W.setCell ⟨G, k, none⟩ (.slice A (L k).length c)) := by
  have hon := (Only.refl G W).setCell k (.slice A (L k).length c)
  refine ⟨(h.row.set k _).congr fun i hi => ?_, fun i hi => ?_⟩
  · by_cases e : i = k
    · subst e; simp
    · rw [if_neg e]
      by_cases e2 : i < k
      · rw [if_pos e2, if_pos (by omega), if_neg e, if_neg e]
      · rw [if_neg e2, if_neg (by omega)]
  · by_cases e : i = k
    · subst e
      simp only [if_pos]
      exact ⟨hA.only (fun b o e => by have := hf b o e; omega) hon, hc, hf⟩
    · simp only [if_neg e]
      obtain ⟨h1, h2, h3⟩ := h.rd i (by omega)
      exact ⟨h1.only (fun b o e => by have := h3 b o e; omega) hon, h2, h3⟩

set_option maxRecDepth 100000 in
set_option maxHeartbeats 3200000 in
theorem all_any (key : Nat → BitVec 8) (A : Option Addr) (file : List (BitVec 8)) (ca : Nat) (ch : Int) (w : World) (hA : SlRead w A (ints .u8 (bys file))) (hca : file.length ≤ ca) (hl : file.length ≤ 1000) :
    Calls Try.prog 9 #[.agg (arr8 32 key), .slice A file.length ca, .int .i64 ch] w fun e w' => ∃ G As cs, e = .returned (.slice (some ⟨G, 0, none⟩) (countN file.length ch) (countN file.length ch)) ∧ PkAt G (countN file.length ch) (countN file.length ch) (sealC key file ch) As cs w' ∧ w.heap.size ≤ G ∧ Below w.heap.size w w' := by
  obtain ⟨i0, hi, hz0, hz1, hz2⟩ := info_parts infoSl
  have hcN := count_any (file.length : Int) ch
  have hcb : countN file.length ch ≤ 1001 := by
    unfold countN
    split
    · omega
    · have := Nat.div_le_self (((file.length : Nat) : Int).toNat - 1) (oneN ch)
      simp at this ⊢
      omega
  have hcp := countN_pos file.length ch
  go_enter Try.func9, Try.ntmps9
  have hsC : ∀ k, sealC key file ch k = sealB key (nonB (BitVec.ofNat 32 k) ((k : Int) == ((countN file.length ch : Int) - 1))) [] (pieceL file ch (k : Int)) := fun k => rfl
  have HSC := Lib.hid hsC
  obtain ⟨N, hN⟩ : ∃ N, N = countN file.length ch := ⟨_, rfl⟩
  rw [← hN] at hcN hcb hcp HSC ⊢
  clear hsC hN
  generalize sealC key file ch = L at HSC ⊢
  have HCN := Lib.hid hcN
  clear hcN
  go_upto_region 1 with (fail)
  refine wp_world (fun W => W.rowIs w.heap.size 31 32 (fun i => v8 (key i)) ∧ Below w.heap.size w W) ⟨rowIs_new _ _ _ _ _ _ rfl (by simp) (fun i hi => arr8_get 32 key i hi), by go_grown⟩ ?_
  rintro W0 ⟨hk, h2⟩
  generalize hB : w.heap.size = B at hk h2 ⊢
  have HB := Lib.hid hB; clear hB
  go_wp2_with fail
  refine (HCN.out W0 (by omega)).mono ?_
  rintro e W1 ⟨rfl, hb1⟩
  have hk1 := hk.of_block (hb1.block _ hk.lt)
  have hbw := h2.trans (hb1.mono (Nat.le_of_lt hk.lt))
  clear hk h2 hb1 HCN
  obtain ⟨G, hG⟩ : ∃ G, G = W1.heap.size := ⟨_, rfl⟩
  have HG := Lib.hid hG
  have hBG : B < G := by rw [hG]; exact hk1.lt
  clear hG
  go_upto_region 3 with (at_make; refine wpList_make_row _ rfl _ _ 28 rfl 22 i0 (.slice none 0 0) Try.underlying28 hi hz0 hz1 rfl .i64 .i64 N rfl rfl (by rw [hz2]; omega) (by omega) ?_)
  rw [← HG.out]
  refine wp_world (fun W => W.rowIs B 31 32 (fun i => v8 (key i)) ∧ PkAt G N 0 L (fun _ => none) (fun _ => 0) W ∧ Below B w W) ?_ ?_
  · refine ⟨hk1.alloc _, ⟨?_, fun i hi => by omega⟩, hbw.alloc (by rw [← HG.out]; omega) _⟩
    have := (World.rowIs_made W1 (.slice none 0 0) N 22).congr (g := fun i => if i < 0 then .slice none 0 0 else .slice none 0 0) (fun i hi => by simp)
    rw [← HG.out] at this
    exact this.congr fun i hi => by rw [if_neg (by omega), if_neg (by omega)]
  clear hk1 hbw HG W1
  rintro W2 ⟨hk2, hp2, hb2⟩
  go_wp2_with fail
  go_loopw [18] (fun i wr => ∃ k : Nat, k ≤ N ∧ i = .int .i64 k ∧ ∃ As cs, wr.rowIs B 31 32 (fun i => v8 (key i)) ∧ PkAt G N k L As cs wr ∧ Below B w wr) (fun i _ => N - (intOf i).toNat)
  case atStart => exact ⟨0, by omega, rfl, _, _, hk2, hp2, hb2⟩
  clear hk2 hp2 hb2
  case round =>
    obtain ⟨k, hkN, rfl, As, cs, hk, hp, hb⟩ := hrel
    by_cases hlt : k < N
    · obtain ⟨S, hS⟩ : ∃ S, S = L k := ⟨_, rfl⟩
      obtain ⟨P, hP⟩ : ∃ P, P = pieceL file ch (k : Int) := ⟨_, rfl⟩
      have hPl : P.length ≤ 1000 := by rw [hP]; exact Nat.le_trans (pieceL_len _ _ _) hl
      have hSP : S = sealB key (nonB (BitVec.ofNat 32 k) ((k : Int) == ((N : Int) - 1))) [] P := by rw [hS, HSC.out, hP]
      have hAr : SlRead wr A (ints .u8 (bys file)) := hA.below (by rw [HB.out]; exact hb)
      have hGr : G < wr.heap.size := hp.row.lt
      have HP : ∀ w', Below wr.heap.size wr w' → Calls Try.prog 7 #[.slice A file.length ca, .int .i64 ch, .int .i64 ((k : Nat) : Int)] w' fun e w'' => ∃ r, e = .returned r ∧ Below w'.heap.size w' w'' ∧ SlIsA P r w'' := fun w' hb' => by
        rw [hP]
        exact piece_any A file ca ch (k : Int) w' (hAr.below hb') hca hl
      have HS : ∀ w', Below wr.heap.size wr w' → ∀ X cx, SlRead w' X (ints .u8 (bys P)) → Calls Try.prog 11 #[.agg (arr8 32 key), v32 (BitVec.ofNat 32 k), .bool ((k : Int) == ((N : Int) - 1)), .slice X P.length cx] w' fun e w'' => ∃ r, e = .returned r ∧ Below w'.heap.size w' w'' ∧ SlFr (G + 1) S r w'' := fun w' hb' X cx hX => by
        refine (sseal_any key (BitVec.ofNat 32 k) ((k : Int) == ((N : Int) - 1)) X P cx w' hX hPl).mono ?_
        rintro e w'' ⟨v, rfl, h⟩
        rw [← hSP] at h
        exact ⟨v, rfl, h.b, h.fr (Nat.le_trans hGr hb'.size)⟩
      obtain ⟨n, hn⟩ : ∃ n, n = file.length := ⟨_, rfl⟩
      rw [← hn] at HP ⊢
      have HSS := Lib.hid hS
      have HNN := Lib.hid hn
      clear hS hP hSP hAr hn
      go_upto_region 6 with (fail)
      refine wp_region_spec_tail 15 [Sp.k 0 (some 21) [] (.slice (some ⟨G, 0, none⟩) N N),
        Sp.k 1 (some 22) [] (.int .i64 ((k : Nat) : Int)),
        Sp.k 2 (some 23) [] (.agg (arr8 32 key)),
        Sp.k 3 (some 24) [] (.int .i64 ((k : Nat) : Int)),
        Sp.k 4 (some 25) [3] (v32 (BitVec.ofNat 32 k)),
        Sp.k 5 (some 26) [] (.int .i64 ((k : Nat) : Int)),
        Sp.k 6 (some 27) [] (.int .i64 (N : Int)),
        Sp.k 7 (some 28) [6] (.int .i64 ((N : Int) - 1)),
        Sp.k 8 (some 29) [5, 7] (.bool ((k : Int) == ((N : Int) - 1))),
        Sp.k 9 (some 30) [] (.slice A n ca),
        Sp.k 10 (some 31) [] (.int .i64 ch),
        Sp.k 11 (some 32) [] (.int .i64 ((k : Nat) : Int)),
        Sp.o 12 (some 33) [9, 10, 11] (SlIsA (P)),
        Sp.o 13 (some 34) [2, 4, 8, 12] (SlFr (G + 1) (S)),
        Sp.k 14 (some 35) [0, 1] (.pointer (some ⟨G, 0 + k, none⟩))] (by kernel_rfl) (by kernel_rfl)
        ⟨owes_move 0 (some 21) [] (.slice (some ⟨G, 0, none⟩) N N) (Go.Operand.tmp 8) (fun v => by kernel_rfl) (fun v => by kernel_rfl),
        owes_move 1 (some 22) [] (.int .i64 ((k : Nat) : Int)) (Go.Operand.tmp 9) (fun v => by kernel_rfl) (fun v => by kernel_rfl),
        owes_load 2 (some 23) [] (.agg (arr8 32 key)) 31 (Go.Operand.tmp 3) (.pointer (some ⟨B, 0, none⟩)) (fun v => by kernel_rfl) (fun v => by kernel_rfl) (fun w' hb => key_load (hk.of_block ((drB hb).block _ hk.lt))),
        owes_move 3 (some 24) [] (.int .i64 ((k : Nat) : Int)) (Go.Operand.tmp 9) (fun v => by kernel_rfl) (fun v => by kernel_rfl),
        owes_cvt 4 (some 25) [3] (v32 (BitVec.ofNat 32 k)) 3 34 (Go.Operand.tmp 24) (.int .i64 ((k : Nat) : Int)) (fun v => by kernel_rfl) (fun v => by kernel_rfl) (cvt_u32 k),
        owes_move 5 (some 26) [] (.int .i64 ((k : Nat) : Int)) (Go.Operand.tmp 9) (fun v => by kernel_rfl) (fun v => by kernel_rfl),
        owes_move 6 (some 27) [] (.int .i64 (N : Int)) (Go.Operand.tmp 7) (fun v => by kernel_rfl) (fun v => by kernel_rfl),
        owes_bin 7 (some 28) [6] (.int .i64 ((N : Int) - 1)) Go.BinOp.sub 3 (Go.Operand.tmp 27) (Go.Operand.const (Go.Value.int Go.IntKind.i64 1)) 3 (.int .i64 (N : Int)) (Go.Value.int Go.IntKind.i64 1) (fun v => by kernel_rfl) (fun v => by kernel_rfl) (sub_i64A _ _ _ _ _ _ rfl (by omega) (by omega)),
        owes_bin 8 (some 29) [5, 7] (.bool ((k : Int) == ((N : Int) - 1))) Go.BinOp.eql 3 (Go.Operand.tmp 26) (Go.Operand.tmp 28) 3 (.int .i64 ((k : Nat) : Int)) (.int .i64 ((N : Int) - 1)) (fun v => by kernel_rfl) (fun v => by kernel_rfl) (eq_i64 _ _ _ _ _),
        owes_move 9 (some 30) [] (.slice A n ca) (Go.Operand.tmp 1) (fun v => by kernel_rfl) (fun v => by kernel_rfl),
        owes_move 10 (some 31) [] (.int .i64 ch) (Go.Operand.tmp 2) (fun v => by kernel_rfl) (fun v => by kernel_rfl),
        owes_move 11 (some 32) [] (.int .i64 ((k : Nat) : Int)) (Go.Operand.tmp 9) (fun v => by kernel_rfl) (fun v => by kernel_rfl),
        owes_call_o 12 (some 33) [9, 10, 11] (SlIsA (P)) 7 #[Go.Operand.tmp 30, Go.Operand.tmp 31, Go.Operand.tmp 32] #[22, 3, 3] (fun v => by kernel_rfl) (fun _ _ => by kernel_rfl) SlIsA.mono (fun v w' hb ho => by
            exact ⟨#[.slice A n ca, .int .i64 ch, .int .i64 ((k : Nat) : Int)], by kernel_rfl, (HP w' (drB hb)).mono (fun _ _ h => h)⟩),
        owes_call_o 13 (some 34) [2, 4, 8, 12] (SlFr (G + 1) (S)) 11 #[Go.Operand.tmp 23, Go.Operand.tmp 25, Go.Operand.tmp 29, Go.Operand.tmp 33] #[31, 34, 4, 22] (fun v => by kernel_rfl) (fun _ _ => by kernel_rfl) SlFr.mono (fun v w' hb ho => by
            obtain ⟨A12, c12, e12, l12, r12⟩ := ho.get 12 _ _ (SlIsA (P)) rfl rfl
            exact ⟨#[.agg (arr8 32 key), v32 (BitVec.ofNat 32 k), .bool ((k : Int) == ((N : Int) - 1)), .slice A12 (P).length c12], Eq.trans (b := #[.agg (arr8 32 key), v32 (BitVec.ofNat 32 k), .bool ((k : Int) == ((N : Int) - 1)), v 12]) (by kernel_rfl) (by rw [e12]), (HS w' (drB hb) A12 c12 r12).mono (fun _ _ h => h)⟩),
        owes_index 14 (some 35) [0, 1] (.pointer (some ⟨G, 0 + k, none⟩)) 28 (Go.Operand.tmp 21) (Go.Operand.tmp 22) (.slice (some ⟨G, 0, none⟩) N N) (.int .i64 ((k : Nat) : Int)) (fun v => by kernel_rfl) (fun v => by kernel_rfl) (idx_sl (P := Try.prog) Try.underlying28 (show (Try.prog.info? 22).map (·.size) = some 1 by kernel_rfl) G 0 N N k hlt), trivial⟩ ?_
      intro v w' hb' hall
      obtain ⟨A13, c13, e13, l13, q13, f13⟩ := hall.open_ 13 _ _ (SlFr (G + 1) (S)) rfl
      clear hall HP HS
      replace hb' := drB hb'
      have hk' := hk.of_block (hb'.block _ hk.lt)
      have hp' := hp.below hb'
      have hbb := hb.trans (hb'.mono (Nat.le_of_lt hk.lt))
      clear hk hp hb hb'
      simp only [putsL_k, putsL_o, putsL_nil, List.set_cons_zero, List.set_cons_succ, List.drop_succ_cons, List.drop_zero]
      rw [e13]
      clear e13
      rw [Nat.zero_add]
      have cg := hp'.row.cell hlt
      have fg := hp'.row.frozen k
      rw [HSS.out] at q13 l13 ⊢
      have HT : Hid (World.rowIs (w'.setCell ⟨G, k, none⟩ (.slice A13 (L k).length c13)) B 31 32 (fun i => v8 (key i)) ∧ PkAt G N (k + 1) L (fun i => if i = k then A13 else As i) (fun i => if i = k then c13 else cs i) (w'.setCell ⟨G, k, none⟩ (.slice A13 (L k).length c13)) ∧ Below B w (w'.setCell ⟨G, k, none⟩ (.slice A13 (L k).length c13))) :=
        Lib.hid ⟨hk'.setOther (a := ⟨G, k, none⟩) (by simp only; omega) _, hp'.put A13 c13 q13 l13 (fun b o e => by have := f13 b o e; omega), hbb.setCell (by simp only; omega) _⟩
      clear hk' hp' hbb
      rw [← HNN.out] at *
      go_wp2_with fail
      go_roundw
      case rel => exact ⟨k + 1, by omega, by go_num, _, _, HT.out.1, HT.out.2.1, HT.out.2.2⟩
      case measure => simp [intOf]; omega
    · obtain rfl : k = N := by omega
      clear hlt hkN
      go_wp2_with fail
      go_ret
      rw [HB.out]
      exact ⟨G, As, cs, rfl, hp, by omega, hb⟩

set_option maxRecDepth 100000 in
theorem first_any (w : World) :
    Calls Try.prog 4 #[] w fun e w' => e = .returned (.bool true) ∧ Below w.heap.size w w' := by
  have h1 := fun W => count_any 0 5 W (by omega)
  have h2 := fun W => count_any 11 5 W (by omega)
  rw [show countN 0 5 = 1 from rfl] at h1
  rw [show countN 11 5 = 3 from rfl] at h2
  have h3 := fun W => all_any (fun _ => 0#8) none [] 0 5 W SlRead.nil_ (by simp) (by simp)
  simp only [show countN ([] : List (BitVec 8)).length 5 = 1 from rfl] at h3
  have H1 := Lib.hid h1
  have H2 := Lib.hid h2
  have H3 := Lib.hid h3
  clear h1 h2 h3
  go_enter Try.func4, Try.ntmps4
  go_wp2_with fail
  refine (H1.out _).mono ?_
  rintro e W1 ⟨rfl, hb1⟩
  go_wp2_with fail
  refine (H2.out _).mono ?_
  rintro e W2 ⟨rfl, hb2⟩
  have hb := hb1.trans (hb2.mono hb1.size)
  clear hb1 hb2
  go_wp2_with fail
  refine (H3.out _).mono ?_
  rintro e W3 ⟨G, As, cs, rfl, _, _, hb3⟩
  have hfin := hb.trans (hb3.mono hb.size)
  clear hb hb3
  go_wp2_with fail
  go_ret
  exact ⟨rfl, hfin⟩
end Go.Proofs.Ytpegihfocnchnaa
