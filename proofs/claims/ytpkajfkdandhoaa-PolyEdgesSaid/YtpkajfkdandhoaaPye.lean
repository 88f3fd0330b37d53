import Derived.Test.YtpkajfkdandhoaaPyd
/-
  The document's product, in memory.
-/
namespace Go.Proofs.Ytpkajfkdandhoaa
open Go.RowKit

/-- two boxes, the result's cell, the sums, and the rest -/
structure D4 (w : World) (B : Nat) (f g o : Nat → Nat) (W : World) : Prop where
  x : L17 W B f
  y : L17 W (B + 1) g
  r : W.rowIs (B + 1 + 1) 46 17 (fun _ => .int .u32 0)
  o : L17 W (B + 1 + 1 + 1) o
  b : Below B w W
theorem D4.put {w : World} {B : Nat} {f g o : Nat → Nat} {W : World} (h : D4 w B f g o W) (i x : Nat) : D4 w B f g (updN o i x) (W.setCell ⟨B + 1 + 1 + 1, i, none⟩ (.int .u32 (n64 x))) :=
  ⟨h.x.setOther (a := ⟨B + 1 + 1 + 1, i, none⟩) (by simp only; omega) _, h.y.setOther (a := ⟨B + 1 + 1 + 1, i, none⟩) (by simp only; omega) _, h.r.setOther (a := ⟨B + 1 + 1 + 1, i, none⟩) (by simp only; omega) _, L17.put h.o i x, h.b.setCell (by simp only; omega) _⟩
theorem D4.drew {w : World} {B : Nat} {f g o : Nat → Nat} {W : World} (h : D4 w B f g o W) : D4 w B f g o W.drew := ⟨h.x, h.y, h.r, h.o, h.b.drew⟩
theorem D4.congr {w : World} {B : Nat} {f g o o' : Nat → Nat} {W : World} (h : D4 w B f g o W) (e : ∀ i, i < 17 → o i = o' i) : D4 w B f g o' W := ⟨h.x, h.y, h.r, h.o.congr fun i hi => by rw [e i hi], h.b⟩
def xTo (h r : Nat → Nat) (i j t : Nat) : Nat := if t < i then prd h r t 17 else if t = i then prd h r i j else 0
theorem xTo_here (h r : Nat → Nat) (i j : Nat) : xTo h r i j i = prd h r i j := by unfold xTo; rw [if_neg (by omega), if_pos rfl]
theorem xTo_put (h r : Nat → Nat) (i j x t : Nat) (hx : x = prd h r i (j + 1)) : updN (xTo h r i j) i x t = xTo h r i (j + 1) t := by
  unfold updN xTo
  by_cases e : t = i
  · rw [if_pos e, if_neg (by omega), if_pos e, hx]
  · rw [if_neg e]
    by_cases e2 : t < i
    · rw [if_pos e2, if_pos e2]
    · rw [if_neg e2, if_neg e2, if_neg e, if_neg e]
theorem xTo_next (h r : Nat → Nat) (i t : Nat) : xTo h r i 17 t = xTo h r (i + 1) 0 t := by
  unfold xTo
  by_cases e : t < i
  · rw [if_pos e, if_pos (by omega)]
  · by_cases e2 : t = i
    · rw [if_neg e, if_pos e2, if_pos (by omega), e2]
    · rw [if_neg e, if_neg e2, if_neg (by omega)]
      split
      · simp [prd, sm]
      · rfl
/-- digits behind k places, the carry that came in -/
def inTo (c0 : Nat) (f : Nat → Nat) (k t : Nat) : Nat := if t < k then dg (c0 + num f 16) t else f t
theorem in_le (c0 : Nat) (f : Nat → Nat) (M : Nat) : ∀ n, (∀ i, i < n → f i ≤ M) → (c0 + num f n) / 256 ^ n ≤ c0 + M / 255
  | 0, _ => by simp [num, sm]
  | n + 1, h => by
    have ih := in_le c0 f M n (fun i hi => h i (by omega))
    have := h n (by omega)
    rw [← (carry_in c0 f n).1]
    omega
theorem inTo_put (c0 : Nat) (f : Nat → Nat) (k x t : Nat) (hx : x = dg (c0 + num f 16) k) : updN (inTo c0 f k) k x t = inTo c0 f (k + 1) t := by
  unfold updN inTo
  by_cases e : t = k
  · rw [if_pos e, if_pos (by omega), hx, e]
  · rw [if_neg e]
    by_cases e2 : t < k
    · rw [if_pos e2, if_pos (by omega)]
    · rw [if_neg e2, if_neg (by omega)]
theorem redu_rep (X t : Nat) : rep (redu X) t = if t < 16 then dg (5 * (X / 256 ^ 16 / 4) + num (dg X) 16) t else X / 256 ^ 16 % 4 + (5 * (X / 256 ^ 16 / 4) + num (dg X) 16) / 256 ^ 16 := by
  have e : redu X = (5 * (X / 256 ^ 16 / 4) + num (dg X) 16) + (X / 256 ^ 16 % 4) * 256 ^ 16 := by
    rw [num_dg]
    unfold redu
    simp only [Nat.reducePow]
    omega
  unfold rep
  by_cases h : t < 16
  · rw [if_pos h, if_pos h, e, dg_add _ _ _ _ h]
  · rw [if_neg h, if_neg h, e, show 340282366920938463463374607431768211456 = 256 ^ 16 from by decide, div_add]
    omega
theorem D4.pass {w : World} {B : Nat} {f g : Nat → Nat} {W : World} (c0 : Nat) (F : Nat → Nat) (k : Nat) (h : D4 w B f g (inTo c0 F k) W) (x : Nat) (hx : x = dg (c0 + num F 16) k) : D4 w B f g (inTo c0 F (k + 1)) (W.setCell ⟨B + 1 + 1 + 1, k, none⟩ (.int .u32 (n64 x))) :=
  (h.put k x).congr fun i _ => inTo_put c0 F k x i hx

set_option maxRecDepth 100000 in
set_option maxHeartbeats 3200000 in
theorem dtimes_any (h r : Nat → Nat) (w : World) (hh : ∀ i, i < 17 → h i < 256) (hr : ∀ i, i < 17 → r i < 256) :
    Calls Try.prog 20 #[.agg (arrN .u32 17 h), .agg (arrN .u32 17 r)] w fun e w' => e = .returned (.agg (arrN .u32 17 (rep (redu (prdN h r))))) ∧ Below w.heap.size w w' := by
  have HP := Lib.hid (fun i (hi : i < 17) j (hj : j ≤ 17) => prd_le h r hh hr i hi j hj)
  have HH := Lib.hid hh; have HR := Lib.hid hr; clear hh hr
  go_enter Try.func20, Try.ntmps20
  go_wp2_with fail
  go_loopw [6] (fun i wr => ∃ k : Nat, k ≤ 17 ∧ i = .int .i64 k ∧ D4 w w.heap.size h r (xTo h r k 0) wr) (fun i _ => 17 - (intOf i).toNat)
  case atStart =>
    refine ⟨0, by omega, rfl, ?_, ?_, ?_, ?_, ?_⟩
    · exact (((rowIs_new _ _ _ _ _ _ (by simp) (by simp) (fun i hi => arrN_get .u32 17 h i hi)).alloc _).alloc _).alloc _
    · exact ((rowIs_new _ _ _ _ _ _ (by simp) (by simp) (fun i hi => arrN_get .u32 17 r i hi)).alloc _).alloc _
    · exact (rowIs_new _ _ _ _ _ _ (by simp) (by rfl) zero17u).alloc _
    · exact (rowIs_new _ _ _ _ _ _ (by simp) (by rfl) zero17u).congr fun i _ => by
        unfold xTo; rw [if_neg (by omega)]; split <;> simp [prd, sm] <;> rfl
    · go_grown
  case round =>
    obtain ⟨i, hi, rfl, hs⟩ := hrel
    generalize hB : w.heap.size = B at hs ⊢
    have HB := Lib.hid hB; clear hB
    by_cases hlt : i < 17
    · go_wp2_with fail
      go_loopw [7] (fun j wr => ∃ q : Nat, q ≤ 17 ∧ j = .int .i64 q ∧ D4 w B h r (xTo h r i q) wr) (fun j _ => 17 - (intOf j).toNat)
      case atStart => exact ⟨0, by omega, rfl, hs⟩
      clear hs
      case round =>
        obtain ⟨q, hq, rfl, hs⟩ := hrel
        by_cases hlt2 : q < 17
        · have cx := hs.x.cell (i := q) hlt2
          have co := hs.o.cell (i := i) hlt
          have fo := hs.o.frozen i
          rw [xTo_here] at co
          have b0 := HP.out i hlt q hq
          have b1 := HH.out q hlt2
          have bb : q * 20808000 ≤ 16 * 20808000 := Nat.mul_le_mul_right _ (by omega)
          by_cases hle : q ≤ i
          · have cy := hs.y.cell (i := i - q) (by omega)
            have b2 := HR.out (i - q) (by omega)
            have hst : prd h r i (q + 1) = prd h r i q + h q * r (i - q) := by
              show prd h r i q + _ = _
              dsimp only
              rw [if_pos hle]
            have hm : h q * r (i - q) ≤ 255 * 255 := Nat.mul_le_mul (by omega) (by omega)
            obtain ⟨d, hd⟩ : ∃ d, d = i - q := ⟨_, rfl⟩
            rw [← hd] at cy hst hm
            have hdI : (i : Int) - (q : Int) = (d : Int) := by omega
            have hd17 : d < 17 := by omega
            obtain ⟨x, hx⟩ : ∃ x, x = prd h r i q := ⟨_, rfl⟩
            rw [← hx] at co b0 hst
            have a1 := w32_mul (h q) (r d) (by omega)
            have a2 := w32_add x (h q * r d) (by omega)
            have HS := Lib.hid ((hs.drew.put i (x + h q * r d)).congr fun t _ => xTo_put h r i q _ t hst.symm)
            have dl : decide ((q : Int) ≤ (i : Int)) = true := by simp; omega
            clear hs hst hx hm hd b0 b1 b2 bb hle
            go_wp2_with fail
            go_region
            go_wp2_with fail
            go_roundw
            case rel => exact ⟨q + 1, by omega, by go_num, HS.out⟩
            case measure => simp [intOf]; omega
          · have cy := hs.y.cell (i := i + 17 - q) (by omega)
            have b2 := HR.out (i + 17 - q) (by omega)
            have hst : prd h r i (q + 1) = prd h r i q + h q * 320 * r (i + 17 - q) := by
              show prd h r i q + _ = _
              dsimp only
              rw [if_neg hle]
            have hm : h q * 320 * r (i + 17 - q) ≤ 255 * 320 * 255 := Nat.mul_le_mul (by omega) (by omega)
            obtain ⟨d, hd⟩ : ∃ d, d = i + 17 - q := ⟨_, rfl⟩
            rw [← hd] at cy hst hm
            have hdI : (i : Int) + 17 - (q : Int) = (d : Int) := by omega
            have hd17 : d < 17 := by omega
            obtain ⟨x, hx⟩ : ∃ x, x = prd h r i q := ⟨_, rfl⟩
            rw [← hx] at co b0 hst
            have a0 : IntKind.u32.wrap (n64 (h q) * 320) = n64 (h q * 320) := w32_mul (h q) 320 (by omega)
            have a1 := w32_mul (h q * 320) (r d) (by omega)
            have a2 := w32_add x (h q * 320 * r d) (by omega)
            have HS := Lib.hid ((hs.drew.put i (x + h q * 320 * r d)).congr fun t _ => xTo_put h r i q _ t hst.symm)
            have dl : decide ((q : Int) ≤ (i : Int)) = false := by simp; omega
            clear hs hst hx hm hd b0 b1 b2 bb hle
            go_wp2_with fail
            go_region
            go_wp2_with fail
            go_roundw
            case rel => exact ⟨q + 1, by omega, by go_num, HS.out⟩
            case measure => simp [intOf]; omega
        · have hk8 : q = 17 := by omega
          rw [hk8] at hs ⊢
          clear hk8
          have hs2 := hs.congr fun t _ => xTo_next h r i t
          clear hs
          go_wp2_with fail
          go_roundw
          case rel => exact ⟨i + 1, by omega, by go_num, hs2⟩
          case measure => simp [intOf]; omega
    · have hk8 : i = 17 := by omega
      rw [hk8] at hs ⊢
      clear hk8
      obtain ⟨F, hF⟩ : ∃ F : Nat → Nat, F = fun t => prd h r t 17 := ⟨_, rfl⟩
      have hs1 : D4 w B h r (inTo 0 F 0) wr := hs.congr fun t ht => by unfold xTo inTo; rw [if_pos ht, hF]; simp
      have HB1 : Hid (∀ t, t < 17 → F t ≤ 353736000) := Lib.hid fun t ht => by rw [hF]; exact HP.out t ht 17 (by omega)
      have hXF : prdN h r = num F 17 := by rw [hF]; rfl
      have HXF := Lib.hid hXF
      clear hs hF hXF
      go_wp2_with fail
      go_loopw [8, 9] (fun u j wr => ∃ k : Nat, k ≤ 16 ∧ j = .int .i64 k ∧ u = .int .u32 (n64 ((0 + num F k) / 256 ^ k)) ∧ D4 w B h r (inTo 0 F k) wr) (fun _ j _ => 16 - (intOf j).toNat)
      case atStart => exact ⟨0, by omega, rfl, by simp [num, sm]; rfl, hs1⟩
      clear hs1
      case round =>
        obtain ⟨k, hk, rfl, rfl, hs⟩ := hrel
        by_cases hlt2 : k < 16
        · have co := hs.o.cell (i := k) (by omega)
          have fo := hs.o.frozen k
          have e1 : inTo 0 F k k = F k := by unfold inTo; rw [if_neg (by omega)]
          rw [e1] at co
          have b1 := HB1.out k (by omega)
          obtain ⟨c1, c2⟩ := carry_in 0 F k
          have c3 := in_le 0 F 353736000 k (fun i hi => HB1.out i (by omega))
          obtain ⟨u, hu⟩ : ∃ u, u = (0 + num F k) / 256 ^ k := ⟨_, rfl⟩
          rw [← hu] at c1 c2 c3 ⊢
          have a1 := w32_add u (F k) (by omega)
          have a3 := m32_255 (u + F k) (by omega)
          have a4 := n64_shr8 (u + F k)
          have HC1 := Lib.hid c1
          have hdig : (u + F k) % 256 = dg (0 + num F 16) k := by rw [in_later 0 F k 16 (by omega), ← c2]
          have HS := Lib.hid (D4.pass 0 F k hs _ hdig)
          clear hs hu c1 c2 c3 e1 hdig b1
          go_wp2_with fail
          go_roundw
          case rel => exact ⟨k + 1, by omega, by go_num, by rw [← HC1.out], HS.out⟩
          case measure => simp [intOf]; omega
        · have hk8 : k = 16 := by omega
          rw [hk8] at hs ⊢
          clear hk8 hlt2 hk
          have co := hs.o.cell (i := 16) (by omega)
          have fo := hs.o.frozen 16
          have e1 : inTo 0 F 16 16 = F 16 := by unfold inTo; rw [if_neg (by omega)]
          rw [e1] at co
          have b1 := HB1.out 16 (by omega)
          have c3 := in_le 0 F 353736000 16 (fun i hi => HB1.out i (by omega))
          obtain ⟨U, hU⟩ : ∃ U, U = (0 + num F 16) / 256 ^ 16 + F 16 := ⟨_, rfl⟩
          have hU2 : U = num F 17 / 256 ^ 16 := by rw [num_succ, div_add, hU, Nat.zero_add]
          obtain ⟨u, hu⟩ : ∃ u, u = (0 + num F 16) / 256 ^ 16 := ⟨_, rfl⟩
          rw [← hu] at c3 hU ⊢
          have a1 := w32_add u (F 16) (by omega)
          rw [← hU] at a1
          have a3 := m32_3 U (by omega)
          have a4 := n64_shr2 U
          have a5 : IntKind.u32.wrap (5 * n64 (U / 4)) = n64 (5 * (U / 4)) := w32_mul 5 (U / 4) (by omega)
          have hX : ∀ t, t < 16 → dg (num F 17) t = dg (0 + num F 16) t := fun t ht => by rw [num_succ, dg_add _ _ _ _ ht, Nat.zero_add]
          have hU3 : U ≤ 355123200 := by omega
          have HX : Hid (prdN h r = num F 17) := HXF
          obtain ⟨X, hXe⟩ : ∃ X, X = num F 17 := ⟨_, rfl⟩
          rw [← hXe] at HX hX hU2
          have HFIN : Hid (∀ t, t < 17 → rep (redu X) t = if t < 16 then dg (5 * (U / 4) + num (dg X) 16) t else U % 4 + (5 * (U / 4) + num (dg X) 16) / 256 ^ 16) := Lib.hid fun t _ => by rw [redu_rep X t, hU2]
          have hs2 := (hs.put 16 (U % 4)).congr (o' := inTo (5 * (U / 4)) (fun t => if t < 16 then dg X t else U % 4) 0) fun t ht => by
            unfold updN inTo
            dsimp only
            by_cases e : t = 16
            · rw [if_pos e, if_neg (by omega), if_neg (by omega)]
            · rw [if_neg e, if_pos (by omega), if_neg (by omega), if_pos (by omega), hX t (by omega)]
          clear hs hU hu hU2 hX hXe e1 b1 c3
          obtain ⟨G, hG⟩ : ∃ G : Nat → Nat, G = fun t => if t < 16 then dg X t else U % 4 := ⟨_, rfl⟩
          rw [← hG] at hs2
          have hGn : num G 16 = num (dg X) 16 := num_congr 16 fun i hi => by rw [hG]; simp [hi]
          have HG1 : Hid (∀ t, t < 17 → G t ≤ 255) := Lib.hid fun t ht => by
            rw [hG]
            dsimp only
            split
            · have := dg_lt X t; omega
            · omega
          have hG16 : G 16 = U % 4 := by rw [hG]; simp
          rw [← hGn] at HFIN
          rw [← hG16] at HFIN a3
          have HS2 : Hid (D4 w B h r (inTo (5 * (U / 4)) G 0) (wr.setCell ⟨B + 1 + 1 + 1, 16, none⟩ (.int .u32 (n64 (G 16))))) := Lib.hid (by rw [hG16]; exact hs2)
          have hc0 : 5 * (U / 4) ≤ 443904000 := by omega
          obtain ⟨c0, hc⟩ : ∃ c0, c0 = 5 * (U / 4) := ⟨_, rfl⟩
          rw [← hc] at HFIN a5 HS2 hc0
          clear hc hG hGn hG16 hs2 hU3
          go_wp2_with fail
          go_loopw [8, 10] (fun u j wr => ∃ k : Nat, k ≤ 16 ∧ j = .int .i64 k ∧ u = .int .u32 (n64 ((c0 + num G k) / 256 ^ k)) ∧ D4 w B h r (inTo c0 G k) wr) (fun _ j _ => 16 - (intOf j).toNat)
          case atStart => exact ⟨0, by omega, rfl, by simp [num, sm], HS2.out⟩
          clear HS2 a1 a3 a4 a5 co fo
          case round =>
            obtain ⟨k, hk, rfl, rfl, hs⟩ := hrel
            by_cases hlt2 : k < 16
            · have co := hs.o.cell (i := k) (by omega)
              have fo := hs.o.frozen k
              have e1 : inTo c0 G k k = G k := by unfold inTo; rw [if_neg (by omega)]
              rw [e1] at co
              have b1 := HG1.out k (by omega)
              obtain ⟨c1, c2⟩ := carry_in c0 G k
              have c3 := in_le c0 G 255 k (fun i hi => HG1.out i (by omega))
              obtain ⟨u, hu⟩ : ∃ u, u = (c0 + num G k) / 256 ^ k := ⟨_, rfl⟩
              rw [← hu] at c1 c2 c3 ⊢
              have a1 := w32_add u (G k) (by omega)
              have a3 := m32_255 (u + G k) (by omega)
              have a4 := n64_shr8 (u + G k)
              have HC1 := Lib.hid c1
              have hdig : (u + G k) % 256 = dg (c0 + num G 16) k := by rw [in_later c0 G k 16 (by omega), ← c2]
              have HS := Lib.hid (D4.pass c0 G k hs _ hdig)
              clear hs hu c1 c2 c3 e1 hdig b1
              go_wp2_with fail
              go_roundw
              case rel => exact ⟨k + 1, by omega, by go_num, by rw [← HC1.out], HS.out⟩
              case measure => simp [intOf]; omega
            · have hk8 : k = 16 := by omega
              rw [hk8] at hs ⊢
              clear hk8 hlt2 hk
              have co := hs.o.cell (i := 16) (by omega)
              have fo := hs.o.frozen 16
              have e1 : inTo c0 G 16 16 = G 16 := by unfold inTo; rw [if_neg (by omega)]
              rw [e1] at co
              have b1 := HG1.out 16 (by omega)
              have c3 := in_le c0 G 255 16 (fun i hi => HG1.out i (by omega))
              obtain ⟨u, hu⟩ : ∃ u, u = (c0 + num G 16) / 256 ^ 16 := ⟨_, rfl⟩
              rw [← hu] at c3 HFIN ⊢
              have a1 := w32_add (G 16) u (by omega)
              have hs2 := (hs.put 16 (G 16 + u)).congr (o' := rep (redu X)) fun t ht => by
                rw [HFIN.out t ht]
                unfold updN inTo
                by_cases e : t = 16
                · rw [if_pos e, if_neg (by omega)]
                · rw [if_neg e, if_pos (by omega), if_pos (by omega)]
              have HS2 := Lib.hid hs2
              clear hs hs2 e1 hu b1 c3
              go_upto_region 28 with (fail)
              have hs2 := HS2.out
              generalize (wr.setCell ⟨B + 1 + 1 + 1, 16, none⟩ (.int .u32 (n64 (G 16 + u)))) = wr2 at *
              obtain ⟨Z, hZ⟩ : ∃ Z, Z = rep (redu X) := ⟨_, rfl⟩
              rw [← hZ] at hs2
              have HZ := Lib.hid hZ
              have hh := rowIs_heapN hs2.o
              obtain ⟨old, hr1, hr2, _⟩ := hs2.r
              have hb := below_setRow (g := B + 1 + 1) hs2.b (by omega) (arrN .u32 17 Z)
              have hres : (wr2.setRow (B + 1 + 1) (arrN .u32 17 Z)).heap[B + 1 + 1]? = some (.cells (arrN .u32 17 Z) 46 (0, 0)) := setRow_heap _ _ _ _ _ _ hr1
              clear hs2 HS2 hZ co fo a1
              go_wp2_with (first | (refine wpList_load_row rfl 46 _ rfl _ rfl _ _ _ _ hh Try.underlying46 rfl (by kernel_rfl) ?_) | (refine wpList_store_row rfl 46 _ _ rfl _ _ rfl rfl _ _ hr1 (by kernel_rfl) (by simpa using hr2) (arrN_one _ _ _) ?_))
              refine bodyPost_ret (results_cell_row rfl _ _ _ _ _ _ _ rfl hres Try.underlying46 rfl (by kernel_rfl)) rfl ?_
              rw [HB.out, HX.out, ← HZ.out]
              exact ⟨rfl, hb⟩
end Go.Proofs.Ytpkajfkdandhoaa
