/- DictWholes: a real number of digits alone is that whole one, with a minus ahead its negative; the table of the texts of half bytes is tied to the text; no condition but what the card prints. -/
import Derived.Test.YthoocoaalbeopaaDoorCards
import Derived.Test.YthoocoaalbeopaaDoorTie
import Derived.SevenTiedAt
import Derived.Test.YthoocoaalbeopaaDoorM0DictWholes

namespace Go.Proofs.YthoocoaalbeopaaDoor.dictWholes
open Go.ChangeShapes Go.WideShapes Go.ChangeAt Go.RowKit Go.Shelf
set_option linter.unusedVariables false
set_option linter.unusedSimpArgs false

variable {W : World}
theorem own_oneI (w : World) (x : Int) : (w.alloc (.cells #[.int .i64 x] 3)).ownsRow w.heap.size 3 1 (.slice (some ⟨w.heap.size, 0, none⟩) 1 1) 1 [.int .i64 x] := ⟨rfl, .inr ⟨w.heap.size, 1, #[.int .i64 x], rfl, Nat.le_refl _, heap_alloc_new w _, Nat.le_refl _, by decide, rfl, rfl⟩⟩
theorem intsN_one (L : List Nat) : ∀ u ∈ (L.map fun h => Value.int .i64 (h : Nat)), u.oneCell' = true := fun u hu => by
  obtain ⟨x, _, rfl⟩ := List.mem_map.1 hu
  rfl
set_option maxRecDepth 100000 in
theorem walk_out (hG : GD W) (n : Int) (h : n < 0 ∨ 2147483648 < n) : Calls Tryd.prog 7 #[.int .i64 n] W fun e w' => e = .returned (.bool true) ∧ Below W.heap.size W w' := by
  have HG := Lib.hid hG
  have B0 := Below.refl W.heap.size W
  clear hG
  by_cases h0 : n < 0
  · have d1 : decide (n < 0) = true := by simpa using h0
    clear h
    go_enter Tryd.func7, Tryd.ntmps7
    go_wp2_with (first | (go_at_call 8; ((with_reducible refine (lives15 _ HG.out).mono ?_); rintro e w2 ⟨rfl, b2⟩; have B2 := B0.trans (b2.mono B0.size))))
    exact bodyPost_ret (results_tmp rfl _ _ _) rfl ⟨rfl, B2⟩
  · have h1 : 2147483648 < n := by omega
    have d1 : decide (n < 0) = false := by simpa using h0
    have d2 : decide (n > 2147483648) = true := by simpa using h1
    clear h
    go_enter Tryd.func7, Tryd.ntmps7
    go_wp2_with (first | (go_at_call 8; ((with_reducible refine (lives15 _ HG.out).mono ?_); rintro e w2 ⟨rfl, b2⟩; have B2 := B0.trans (b2.mono B0.size))))
    exact bodyPost_ret (results_tmp rfl _ _ _) rfl ⟨rfl, B2⟩
set_option maxRecDepth 100000 in
set_option maxHeartbeats 4000000 in
theorem walk_mid (hG : GD W) (n : Nat) (h : n ≤ 2147483648) : Calls Tryd.prog 7 #[.int .i64 (n : Nat)] W fun e w' => e = .returned (.bool true) ∧ Below W.heap.size W w' := by
  have HG := Lib.hid hG
  have d0 : decide ((n : Int) < 0) = false := decide_eq_false (by omega)
  have d1 : decide ((n : Int) > 2147483648) = false := decide_eq_false (by omega)
  obtain ⟨j0, hj, hy0, hy1, hy2⟩ := info_partsX intInfo
  obtain ⟨i0, hi, hz0, hz1, hz2⟩ := info_partsD u8Info
  have B0 := Below.refl W.heap.size W
  have L0 : Lists W W.heap.size none ((digK n 0).map fun h => Value.int .i64 (h : Nat)) := Lists.empty _ _ _
  clear hG
  go_enter Tryd.func7, Tryd.ntmps7
  go_wp2
  go_loopw [3, 4] (fun v x wr => ∃ (k : Nat) (A : Option Addr) (c : Nat), k ≤ 10 ∧ v = .slice A k c ∧ x = .int .i64 (n / 10 ^ k : Nat) ∧ Lists wr wr.heap.size A ((digK n k).map fun h => Value.int .i64 (h : Nat)) ∧ Below W.heap.size W wr) (fun v _ _ => 10 - sLenD v)
  case atStart => exact ⟨0, none, 0, by omega, rfl, by simp, L0, B0⟩
  case round =>
    clear L0 B0
    obtain ⟨k, A, c, hk, rfl, rfl, hl, hb⟩ := hrel
    obtain ⟨x, hx⟩ : ∃ x, x = n / 10 ^ k := ⟨_, rfl⟩
    have HX := Lib.hid hx
    have hx10 : k = 10 → x = 0 := fun e => by rw [hx, e]; exact Nat.div_eq_of_lt (by omega)
    rw [← hx]
    clear hx
    have HL := Lib.hid hl
    clear hl
    by_cases hmore : 0 < x ∨ k = 0
    · have hk9 : k ≤ 9 := by rcases hmore with h | h <;> omega
      have HD := Lib.hid (show (digK n (k + 1)) = x % 10 :: digK n k by rw [HX.out]; rfl)
      have HX2 := Lib.hid (show n / 10 ^ (k + 1) = x / 10 by rw [HX.out, Nat.div_div_eq_div_mul, Nat.pow_succ])
      have hxm : x ≤ 2147483648 := by rw [HX.out]; exact Nat.le_trans (Nat.div_le_self _ _) h
      have t1 : ((x : Nat) : Int).tmod 10 = ((x % 10 : Nat) : Int) := by rw [Int.tmod_eq_emod_of_nonneg (by omega)]; omega
      have t2 : wrap64 (((x : Nat) : Int).tdiv 10) = ((x / 10 : Nat) : Int) := by rw [Int.tdiv_eq_ediv_of_nonneg (by omega)]; unfold wrap64; omega
      obtain ⟨y, hy⟩ : ∃ y, y = x % 10 := ⟨_, rfl⟩
      obtain ⟨z, hz⟩ : ∃ z, z = x / 10 := ⟨_, rfl⟩
      rw [← hy] at t1 HD
      rw [← hz] at t2 HX2
      have HT3 := Lib.hid (show wrap64 ((x : Int) / 10) = ((z : Nat) : Int) by rw [hz]; unfold wrap64; omega)
      clear hx10 hxm
      obtain ⟨DK, hDK⟩ : ∃ DK, DK = (digK n k).map fun h => Value.int .i64 (h : Nat) := ⟨_, rfl⟩
      have HDK := Lib.hid hDK
      have hDL : DK.length = k * 1 := by rw [hDK]; simp [digK_len]
      have hD1 : ∀ u ∈ DK, u.oneCell' = true := by rw [hDK]; exact intsN_one _
      rw [← hDK] at HL
      clear hDK
      have g1 : 0 < x ∨ (x = 0 ∧ y = 0 ∧ z = 0 ∧ k = 0) := by
        by_cases h0 : 0 < x
        · left; exact h0
        · right; rcases hmore with h | h
          · omega
          · have e0 : x = 0 := by omega
            rw [e0] at hy hz
            exact ⟨e0, by omega, by omega, h⟩
      clear hmore hy hz
      have HN6 : Hid (∀ (v6 : Value) (w6 : World), w6.ownsRow wr.heap.size 3 1 v6 (1 + k) ([.int .i64 (y : Nat)] ++ DK) → (wr.alloc (.cells #[.int .i64 (y : Nat)] 3)).grownBy w6 (Value.slice (some ⟨wr.heap.size, 0, none⟩) 1 1).ownBlock → ∃ A c, v6 = .slice A (k + 1) c ∧ Lists w6 w6.heap.size A ((digK n (k + 1)).map fun h => Value.int .i64 (h : Nat)) ∧ Below W.heap.size W w6) := Lib.hid fun v6 w6 ho hg => by
        obtain ⟨A6, c6, rfl, l6, _⟩ := own_lists ho
        refine ⟨A6, c6, by rw [Nat.add_comm], ?_, ?_⟩
        · rw [HD.out, List.map_cons, ← HDK.out]; exact l6
        · exact hb.trans (((below_a1 wr (.cells #[.int .i64 (y : Nat)] 3)).grown hg (by simp) (fun b hb => by simp [Value.ownBlock] at hb; omega)).mono hb.size)
      rcases g1 with g1 | ⟨rfl, rfl, rfl, rfl⟩
      · go_wp2_with (at_builtin; refine wpList_append_src _ rfl (.tmp 28) (.tmp 29) 37 rfl wr.heap.size 3 j0 (.int .i64 0) 1 8 Tryd.underlying37 hj hy0 hy1 hy2 rfl (by decide) (.slice (some ⟨wr.heap.size, 0, none⟩) 1 1) 1 [.int .i64 (y : Nat)] rfl (own_oneI wr (y : Nat)) wr.heap.size A _ c DK rfl (HL.out.below (below_a1 wr (.cells #[.int .i64 (y : Nat)] 3))) hDL hD1 (by simp only [maxLen]; omega) (by omega) (by simp) ?_; intro v6 w6 own6 hg6 _)
        obtain ⟨A6, c6, rfl, l6, B6⟩ := HN6.out v6 w6 own6 hg6
        go_roundw
        case rel => exact ⟨_, A6, c6, by omega, rfl, by rw [HX2.out]; first | rfl | exact congrArg _ HT3.out, l6, B6⟩
        case measure => first | (simp [sLenD]; done) | (simp [sLenD]; omega)
      · go_wp2_with (at_builtin; refine wpList_append_src _ rfl (.tmp 28) (.tmp 29) 37 rfl wr.heap.size 3 j0 (.int .i64 0) 1 8 Tryd.underlying37 hj hy0 hy1 hy2 rfl (by decide) (.slice (some ⟨wr.heap.size, 0, none⟩) 1 1) 1 [.int .i64 0] rfl (own_oneI wr 0) wr.heap.size A _ c DK rfl (HL.out.below (below_a1 wr (.cells #[.int .i64 0] 3))) hDL hD1 (by simp only [maxLen]; omega) (by omega) (by simp) ?_; intro v6 w6 own6 hg6 _)
        obtain ⟨A6, c6, rfl, l6, B6⟩ := HN6.out v6 w6 own6 hg6
        go_roundw
        case rel => exact ⟨_, A6, c6, by omega, rfl, by rw [HX2.out]; first | rfl | exact congrArg _ HT3.out, l6, B6⟩
        case measure => first | (simp [sLenD]; done) | (simp [sLenD]; omega)
    · have hx0 : x = 0 := by omega
      have hk1 : 1 ≤ k := by omega
      have HV := Lib.hid (show digV (digK n k) = n by
        rw [digV_digK]
        have h1 := HX.out
        rw [hx0] at h1
        exact Nat.mod_eq_of_lt (by
          rcases Nat.lt_or_ge n (10 ^ k) with h | h
          · exact h
          · have := Nat.div_pos h (Nat.pow_pos (by decide)); omega))
      subst hx0
      have n1 : ¬ k = 0 := by omega
      have n2 : ((k : Int) == 0) = false := by simp; omega
      have HW := Lib.hid (opd_whole (digK n k) (digK_le n k) (by rw [digK_len]; exact hk1) (by rw [digK_len]; omega) (by rw [HV.out]; exact h))
      have HM := Lib.hid (opd_minus (digK n k) (digK_le n k) (by rw [digK_len]; exact hk1) (by rw [digK_len]; omega) (by rw [HV.out]; exact h))
      rw [HV.out] at HW HM
      have hle := digK_le n k
      have hlen := digK_len n k
      obtain ⟨DL, hDL⟩ : ∃ DL, DL = digK n k := ⟨_, rfl⟩
      rw [← hDL] at HL HW HM hle hlen
      clear HV HX hx10 hmore hDL
      have HLE := Lib.hid hle
      have HLN := Lib.hid hlen
      have r1 : (realB DL).length ≤ 10 := by rw [realB_len, hlen]; omega
      have r2 : (realB (14 :: DL)).length ≤ 10 := by rw [realB_len, List.length_cons, hlen]; omega
      have C1 : ∀ (A : Option Addr) (c : Nat) (V : World), Lists V V.heap.size A (DL.map fun h => Value.int .i64 (h : Nat)) → Calls Tryd.prog 18 #[.slice A k c] V fun e w' => ∃ v, e = .returned v ∧ w'.ownsRow V.heap.size 5 1 v (1 + (realB DL).length) (.int .u8 30 :: realB DL) ∧ Below V.heap.size V w' := fun A c V hl => halves_any A c k DL V hl HLN.out (by omega) (fun d hd => by have := HLE.out d hd; omega)
      have C2 : ∀ (A : Option Addr) (c : Nat) (V : World), Lists V V.heap.size A (.int .i64 14 :: DL.map fun h => Value.int .i64 (h : Nat)) → Calls Tryd.prog 18 #[.slice A (1 + k) c] V fun e w' => ∃ v, e = .returned v ∧ w'.ownsRow V.heap.size 5 1 v (1 + (realB (14 :: DL)).length) (.int .u8 30 :: realB (14 :: DL)) ∧ Below V.heap.size V w' := fun A c V hl => halves_any A c (1 + k) (14 :: DL) V hl (by rw [List.length_cons, HLN.out]; omega) (by omega) (fun d hd => by
        simp only [List.mem_cons] at hd
        rcases hd with rfl | hd
        · decide
        · have := HLE.out d hd; omega)
      have P1 : ∀ (A : Option Addr) (c : Nat) (V : World), Lists V V.heap.size A (.int .u8 30 :: realB DL ++ [.int .u8 5]) → Below W.heap.size W V → Calls Tryd.prog 9 #[.slice A (1 + (realB DL).length + 1) c] V fun e w' => ∃ A c, e = .returned (.tuple #[.slice A 1 c, .int .i64 0]) ∧ Hid (EntAt w' w'.heap.size A [(5, [(n : Int) * 65536])]) ∧ Below V.heap.size V w' := fun A c V hl hb => parse_real DL _ HW.out (realB_bytes DL (fun d hd => by have := HLE.out d hd; omega)) (by omega) A c _ V hl rfl (HG.out.below hb)
      have P2 : ∀ (A : Option Addr) (c : Nat) (V : World), Lists V V.heap.size A (.int .u8 30 :: realB (14 :: DL) ++ [.int .u8 5]) → Below W.heap.size W V → Calls Tryd.prog 9 #[.slice A (1 + (realB (14 :: DL)).length + 1) c] V fun e w' => ∃ A c, e = .returned (.tuple #[.slice A 1 c, .int .i64 0]) ∧ Hid (EntAt w' w'.heap.size A [(5, [-((n : Int) * 65536)])]) ∧ Below V.heap.size V w' := fun A c V hl hb => parse_real (14 :: DL) _ HM.out (realB_bytes (14 :: DL) (fun d hd => by
        simp only [List.mem_cons] at hd
        rcases hd with rfl | hd
        · decide
        · have := HLE.out d hd; omega)) (by omega) A c _ V hl rfl (HG.out.below hb)
      have hDm : (DL.map fun h => Value.int .i64 (h : Nat)).length = k * 1 := by simp [hlen]
      have hD1 := intsN_one DL
      clear HW HM hle hlen
      generalize (DL.map fun h => Value.int .i64 (h : Nat)) = DK at *
      generalize hX1 : realB DL = X1 at *
      generalize hX2 : realB (14 :: DL) = X2 at *
      clear hX1 hX2
      obtain ⟨m1, hm1⟩ : ∃ m1, m1 = X1.length := ⟨_, rfl⟩
      obtain ⟨m2, hm2⟩ : ∃ m2, m2 = X2.length := ⟨_, rfl⟩
      rw [← hm1] at C1 P1 r1
      rw [← hm2] at C2 P2 r2
      clear hm1 hm2
      obtain ⟨P, hP⟩ : ∃ P, P = (n : Int) * 65536 := ⟨_, rfl⟩
      obtain ⟨Q, hQ⟩ : ∃ Q, Q = -((n : Int) * 65536) := ⟨_, rfl⟩
      have e1 : wrap64 (65536 * (n : Int)) = P := by rw [hP]; unfold wrap64; omega
      have e2 : wrap64 (-65536 * (n : Int)) = Q := by rw [hQ]; unfold wrap64; omega
      have e3 : wrap64 (-(65536 * (n : Int))) = Q := by rw [hQ]; unfold wrap64; omega
      have e4 : (Q == -65536 * (n : Int)) = true := by rw [hQ, beq_iff_eq]; omega
      have e5 : (P == 65536 * (n : Int)) = true := by rw [hP, beq_iff_eq]; omega
      rw [← hP] at P1
      rw [← hQ] at P2
      clear hP hQ
      go_wp2_with (first
        | (go_at_call 18; ((with_reducible refine (C1 A c _ HL.out).mono ?_); rintro e w1 ⟨v1, rfl, own1, b1⟩))
        | (at_builtin; refine wpList_append_src _ rfl (.tmp 33) (.tmp 34) 22 rfl wr.heap.size 5 i0 (.int .u8 0) 1 1 Tryd.underlying22 hi hz0 hz1 hz2 rfl (by decide) v1 (1 + m1) (.int .u8 30 :: X1) rfl (ownE_stay own1 (below_a1 _ _)) (w1.heap.size + 1) (some ⟨w1.heap.size, 0, none⟩) 1 1 [.int .u8 5] (by rfl) (lists_row w1 [.int .u8 5] 5) rfl (by simp [Value.oneCell']) (by simp only [maxLen]; omega) (by omega) (by have := b1.size; simp; omega) ?_; intro v7 w7 own7 hg7 _; have C7 := (b1.trans ((below_a1 w1 (.cells #[.int .u8 5] 5)).mono b1.size)).grown hg7 (by have := b1.size; simp; omega) (fun b hb' => ownE_low2 own1 b (by have h9 : v1.ownBlock = some b := hb'; unfold blk; rw [h9]; simp)); obtain ⟨A7, c7, rfl, l7, _⟩ := own_lists own7; have l7 := Lib.hid l7)
        | (go_at_call 9; ((with_reducible refine (P1 A7 c7 _ l7.out (hb.trans (C7.mono hb.size))).mono ?_); rintro e w2 ⟨A2, c2, rfl, l2, b2⟩; have D2 := C7.trans (b2.mono C7.size)))
        | (at_builtin; refine wpList_append_src _ rfl (.tmp 40) (.tmp 41) 37 rfl w2.heap.size 3 j0 (.int .i64 0) 1 8 Tryd.underlying37 hj hy0 hy1 hy2 rfl (by decide) (.slice (some ⟨w2.heap.size, 0, none⟩) 1 1) 1 [.int .i64 14] rfl (own_oneI w2 14) wr.heap.size A k c DK rfl ((HL.out.below D2).below ((below_a1 w2 (.cells #[.int .i64 14] 3)).mono D2.size)) hDm hD1 (by simp only [maxLen]; omega) (by omega) (by simp) ?_; intro v8 w8 own8 hg8 _; have f8 : Below w2.heap.size w2 w8 := (below_a1 w2 (.cells #[.int .i64 14] 3)).grown hg8 (by simp) (fun b hb' => by have h9 : (Value.slice (some ⟨w2.heap.size, 0, none⟩) 1 1).ownBlock = some b := hb'; simp [Value.ownBlock] at h9; omega); have D8 := D2.trans (f8.mono D2.size); have l2b := hent_up l2 f8; obtain ⟨A8, c8, rfl, l8, _⟩ := own_lists own8; have l8 := Lib.hid l8)
        | (go_at_call 18; ((with_reducible refine (C2 A8 c8 _ l8.out).mono ?_); rintro e w9 ⟨v9, rfl, own9, b9⟩; have D9 := D8.trans (b9.mono D8.size); have l2c := hent_up l2b b9))
        | (at_builtin; refine wpList_append_src _ rfl (.tmp 43) (.tmp 44) 22 rfl w8.heap.size 5 i0 (.int .u8 0) 1 1 Tryd.underlying22 hi hz0 hz1 hz2 rfl (by decide) v9 (1 + m2) (.int .u8 30 :: X2) rfl (ownE_stay own9 (below_a1 _ _)) (w9.heap.size + 1) (some ⟨w9.heap.size, 0, none⟩) 1 1 [.int .u8 5] (by rfl) (lists_row w9 [.int .u8 5] 5) rfl (by simp [Value.oneCell']) (by simp only [maxLen]; omega) (by omega) (by have := b9.size; simp; omega) ?_; intro v10 w10 own10 hg10 _; have e9 : Below w9.heap.size w9 (w9.alloc (.cells #[.int .u8 5] 5)) := below_a1 _ _; have f9 := (b9.trans (e9.mono b9.size)).grown hg10 (by have := b9.size; simp; omega) (fun b hb' => ownE_low2 own9 b (by have h9 : v9.ownBlock = some b := hb'; unfold blk; rw [h9]; simp)); have D10 := D8.trans (f9.mono D8.size); have l2d := hent_up l2b f9; obtain ⟨A10, c10, rfl, l10, _⟩ := own_lists own10; have l10 := Lib.hid l10)
        | (go_at_call 9; ((with_reducible refine (P2 A10 c10 _ l10.out (hb.trans (D10.mono hb.size))).mono ?_); rintro e w11 ⟨A11, c11, rfl, l11, b11⟩; have D11 := D10.trans (b11.mono D10.size); have l2e := hent_up l2d b11))
        | (go_at_call 8; ((with_reducible refine (lives15 _ (HG.out.below (hb.trans (D11.mono hb.size)))).mono ?_); rintro e w12 ⟨rfl, b12⟩; have D12 := D11.trans (b12.mono D11.size); have l2f := hent_up l2e b12; have l11f := hent_up l11 b12; obtain ⟨x1, o1, x2, o2, ci1, rfl, y1, y2, y3, y4, y5⟩ := cells_real l2f; obtain ⟨x3, o3, x4, o4, ci2, rfl, z1, z2, z3, z4, z5⟩ := cells_real l11f)))
      exact bodyPost_ret (results_tmp rfl _ _ _) rfl ⟨rfl, hb.trans (D12.mono hb.size)⟩
theorem walk (hG : GD W) (n : Int) (_ : (Lit.int .i64 n).wf = true) : Calls Tryd.prog 7 #[.int .i64 n] W fun e w' => e = .returned (.bool true) ∧ Below W.heap.size W w' := by
  by_cases h : n < 0 ∨ 2147483648 < n
  · exact walk_out hG n h
  · obtain ⟨k, rfl⟩ : ∃ k : Nat, n = (k : Int) := ⟨n.toNat, by omega⟩
    exact walk_mid hG k (by omega)

set_option maxRecDepth 100000 in
theorem lifted (os : Os) (started : os.Started) (H : Type) (enc : TypeId × Value → H) :
    ReturnsInHanded {} Tryd.checked os 7 .any (fun w args => (Rows.dictWholesSpec.pre enc Tryd.prog Tryd.f7 [] false w args ∧ laidMetH Tryd.prog laid15 w) ∧ sizedMet enc Tryd.prog Tryd.f7 (OpenSpec.ofChange Rows.dictWholesSpec) false w args)
      (Rows.dictWholesSpec.post enc Tryd.prog Tryd.f7 false true false false) := by
  refine returnsInHanded_of_change_and (C := Tryd.checked) (X := fun w _ => laidMetH Tryd.prog laid15 w) (fun _ _ _ hh h => h.of_heap hh) Tryd.own started (by kernel_rfl) Tryd.func7
    (ChangeSpec.witness_shaped (enc := enc) (C := Tryd.checked) (os := os) (X := fun w _ => laidMetH Tryd.prog laid15 w) false (World.doorLaid Tryd.prog 400 os) #[.int .i64 0] 8 rfl (World.shaped_of_RefB (by kernel_rfl) (by kernel_rfl)) (by kernel_rfl) (by kernel_rfl) (by kernel_rfl) (door_metD os _)) ?_
  intro W base args ds gs before hval0 hW hcnd hsz0 hL _
  have hG := gd_of_laid hL
  have hval : ∀ (j : Nat) t v, Tryd.f7.params[j]? = some t → args[j]? = some v → Value.okWide Tryd.prog W .any base t v := hval0
  have hW' := hW
  obtain ⟨p, q, hA0, hV, rfl, hfz, hnd⟩ := hW
  have hA : DataW.TrodAll enc Tryd.prog W 0 (fun _ => true) true Tryd.f7.params.toList args.toList ds p := hA0
  rw [Tryd.params7] at hA hval
  obtain ⟨v0, vs0, d0, ds0, p0, q0, hargs, rfl, rfl, h0, r0⟩ := trodAll_cons hA
  obtain ⟨rfl, rfl, rfl⟩ := trodAll_nil r0
  obtain rfl : args = #[v0] := by cases args; simp_all
  obtain ⟨rfl, rfl⟩ := trodVars_none hV
  obtain ⟨a0, rfl, rfl, rfl, w0⟩ := open_int Tryd.underlying3 (hval 0 3 v0 rfl rfl) h0
  clear hA0 hval0
  simp only [List.append_nil] at hW'
  refine (walk (W := W) hG a0 w0).mono fun e W' ⟨he, hg⟩ => ?_
  subst he
  exact ⟨_, rfl, law_post Tryd.laidOut rfl Tryd.underlying4 (by kernel_rfl) rfl rfl rfl rfl hW' hg⟩

theorem over : Rows.DictWholesSaid :=
  OpenClaim.holds_of_wide 7 Tryd.f7 rfl rfl rfl rfl rfl rfl rfl ⟨rfl, rfl, rfl, rfl, rfl⟩ rfl rfl rfl rfl rfl (by kernel_rfl) Tryd.func7 (by kernel_rfl)
    (of_decide_eq_true (by kernel_rfl)) (by unfold Func.isWrapper; first | (rw [if_pos (by decide +kernel)]; kernel_rfl) | (rw [if_neg (by decide +kernel)]; exact ⟨rfl, rfl⟩))
    (fun os started H enc _ => lifted os started H enc)

theorem proved : Rows.DictWholesCardSaid :=
  Claim7.holds_tied_plain_at .later [] [.data] true Rows.dictWholesCard.stood.harness false
    over (fun _ h => by cases h) (by kernel_rfl) (fun _ h => by cases h) dictWholes_row_tie rfl ⟨rfl, rfl⟩ (by kernel_rfl) rfl
    (fun f fn hf hfn => by
      obtain rfl : f = 7 := Option.some.inj ((show Tryd.prog.funcNamed "serif/seriflaw15.DictWholes" = some 7 by kernel_rfl).symm.trans hf) |>.symm
      obtain rfl : fn = Tryd.f7 := (Option.some.inj (Tryd.func7.symm.trans hfn)).symm
      exact ⟨by kernel_rfl, fun j t ht => by
        rw [Tryd.params7] at ht
        have hm : t ∈ [3] := by simpa using Array.mem_of_getElem? ht
        have hall : ([3].all fun u => !Tryd.prog.wantsStandIn u) = true := by kernel_rfl
        exact (show Tryd.prog.wantsStandIn t = false by simpa using List.all_eq_true.1 hall t hm)⟩)
    (by kernel_rfl)

end Go.Proofs.YthoocoaalbeopaaDoor.dictWholes
