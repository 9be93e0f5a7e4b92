/- Part 8 of the proof: ChL3, ChLn, ChM, ChG0, ChG1, ChG2. -/
import Derived.Test.YteffijgajhngeaaDoorCCh6

namespace Go.Proofs.YteffijgajhngeaaDoor
open Go Go.RowKit
set_option linter.unusedVariables false
set_option linter.unusedSimpArgs false

set_option maxRecDepth 100000 in
set_option maxHeartbeats 4000000 in
theorem csel_3 (A : Option Addr) (c l n : Nat) (kf : Int) (bs : List Value) (w : World) (hE : Lists w w.heap.size A bs) (h8 : Bytes8 bs) (hc : l ≤ c) (hm : l ≤ 281474976710656) (hn1 : 1 ≤ n) (hn2 : n ≤ 65535) (hk1 : 1 ≤ kf) (hk2 : kf ≤ 256) (hbl : bs.length = Nat.min l (5 + 3 * n)) (hfx : rsn bs 1 0 (byteAt bs 0) = 3) (R : Option (List Int × Nat)) (hR : rdR bs n 1 = R) :
    Calls Tryd.prog 16 #[.slice A l c, .int .i64 (n : Nat), .int .i64 kf] w (LdC w (selF bs n kf R)) := by
  have CC := ccount_any (n : Nat) true (inB_yes (by omega) (by omega))
  have CO := cfonts_any kf true (inB_yes hk1 hk2)
  have CE := cslen_any n (by omega)
  obtain ⟨m, hm2⟩ : ∃ m, bs.length = m := ⟨_, rfl⟩
  have hmn : (m = l ∧ (l : Int) ≤ ((5 + 3 * n : Nat) : Int)) ∨ (m = 5 + 3 * n ∧ ((5 + 3 * n : Nat) : Int) < (l : Int)) := by
    have : m = min l (5 + 3 * n) := by rw [← hm2]; exact hbl
    omega
  obtain ⟨N4, hN4⟩ : ∃ N4, 5 + 3 * n = N4 := ⟨_, rfl⟩
  rw [hN4] at hmn CE
  have hm3 : m ≤ N4 := by omega
  have CN := fun W (hb : Below w.heap.size w W) c' => new_any A m c' bs W ((hE.below hb).more hb.size) hm2 h8 (by omega)
  have hno : selF bs n kf R = none → ∀ W, Below w.heap.size w W → LdC w (selF bs n kf R) (.returned (.tuple #[.slice none 0 0, .int .i64 160])) W := fun h W hb => by
    rw [h]; exact ⟨rfl, hb⟩
  have hyes : ∀ L k, R = some (L, k) → L.length = n → k ≤ m → allB 0 (kf - 1) L = true → ∀ A c W, Lists W W.heap.size A (intCells L) → n ≤ c → Below w.heap.size w W → LdC w (selF bs n kf R) (.returned (.tuple #[.slice A n c, .int .i64 0])) W := fun L k h h1 h2 h3 A c W hl hc hb => by
    rw [h]; unfold selF; simp only; rw [if_pos ⟨h1, by omega, h3⟩]; exact ⟨A, c, by rw [h1], Lib.hid hl, by omega, hb⟩
  have HNO := Lib.hid hno
  have HY := Lib.hid hyes
  have HM := Lib.hid hm2
  have HLB := Lib.hid (show bs.length ≤ 4611686018427387904 by omega)
  have HFX := Lib.hid hfx
  have H8 := Lib.hid h8
  have s1 : IntKind.i64.wrap (kf - 1) = kf - 1 := IntWalk.i64_in _ (by omega)
  clear hno hyes hm2 h8 hE hbl hfx
  rcases hmn with ⟨hml, hmin⟩ | ⟨hml, hmin⟩
  all_goals
    subst hml
    match R, hR with
    | none, hR =>
      have HR := Lib.hid hR
      have HNX := Lib.hid (show selF bs n kf none = none from rfl)
      have hne : ((0 : Int) != (n : Int)) = true := by simp; omega
      clear hR
      go_enter Tryd.func16, Tryd.ntmps16
      go_wp2_with (first | (go_at_call 21; ((with_reducible refine (CC _).mono ?_); rintro e w1 ⟨rfl, b1⟩)) | (go_at_call 40; ((with_reducible refine (CO _).mono ?_); rintro e w1c ⟨rfl, b1c⟩; have B1 := b1.trans (b1c.mono b1.size))) | (go_at_call 41; ((with_reducible refine (CE _).mono ?_); rintro e w1c ⟨rfl, rfl⟩)) | (go_at_call 22; ((with_reducible refine (CN _ B1 _).mono ?_); rintro e w2 ⟨p, rfl, r2, b2, hp2⟩; have B2 := B1.trans (b2.mono B1.size); have hpl := r2.lt; have rs2 : RS (fun b => w1c.heap.size ≤ b ∧ b < w2.heap.size) w2 p bs 0 := .inl ⟨Nat.zero_le _, r2⟩; have CU := rsU8 p bs 0 w2 rs2 HLB.out; rw [HFX.out] at CU)) | (go_at_call 24; ((with_reducible refine (CU).mono ?_); rintro e w3 ⟨rfl, r3, o3⟩; have hs3 := o3.size; have B3 := B2.trans (o3.to_below B2.size (by have := B1.size; simp; omega)); have hwp : w.heap.size ≤ p := Nat.le_trans B1.size hp2; have hq3 : ∀ b, (w1c.heap.size ≤ b ∧ b < w2.heap.size) → b < w3.heap.size := fun b hb => by omega)) | (go_at_call 43; ((with_reducible refine (creadRanges_any p 1 n bs w3 r3 hq3 (by omega) HLB.out (by omega)).mono ?_); rintro e w9 ⟨v9, rfl, hm9, o9⟩; have B9 := B3.trans (o9.to_below B3.size (by simp; omega)); rw [HR.out] at hm9; subst hm9)))
      exact bodyPost_ret (v := .tuple #[.slice none 0 0, .int .i64 160]) (by simp [results, Tryd.results16, go_sem]) rfl (HNO.out HNX.out _ B9)
    | some (L, k9), hR =>
      have HR := Lib.hid hR
      clear hR
      by_cases hlen : L.length = n
      · have HLEN := Lib.hid hlen
        by_cases hk : k9 ≤ m
        · cases hal : allB 0 (kf - 1) L
          · have HAL := Lib.hid hal
            have HNX := Lib.hid (show selF bs n kf (some (L, k9)) = none by unfold selF; simp only; rw [if_neg (by rw [hal]; simp)])
            clear hal hlen
            go_enter Tryd.func16, Tryd.ntmps16
            go_wp2_with (first | (go_at_call 21; ((with_reducible refine (CC _).mono ?_); rintro e w1 ⟨rfl, b1⟩)) | (go_at_call 40; ((with_reducible refine (CO _).mono ?_); rintro e w1c ⟨rfl, b1c⟩; have B1 := b1.trans (b1c.mono b1.size))) | (go_at_call 41; ((with_reducible refine (CE _).mono ?_); rintro e w1c ⟨rfl, rfl⟩)) | (go_at_call 22; ((with_reducible refine (CN _ B1 _).mono ?_); rintro e w2 ⟨p, rfl, r2, b2, hp2⟩; have B2 := B1.trans (b2.mono B1.size); have hpl := r2.lt; have rs2 : RS (fun b => w1c.heap.size ≤ b ∧ b < w2.heap.size) w2 p bs 0 := .inl ⟨Nat.zero_le _, r2⟩; have CU := rsU8 p bs 0 w2 rs2 HLB.out; rw [HFX.out] at CU)) | (go_at_call 24; ((with_reducible refine (CU).mono ?_); rintro e w3 ⟨rfl, r3, o3⟩; have hs3 := o3.size; have B3 := B2.trans (o3.to_below B2.size (by have := B1.size; simp; omega)); have hwp : w.heap.size ≤ p := Nat.le_trans B1.size hp2; have hq3 : ∀ b, (w1c.heap.size ≤ b ∧ b < w2.heap.size) → b < w3.heap.size := fun b hb => by omega)) | (go_at_call 43; ((with_reducible refine (creadRanges_any p 1 n bs w3 r3 hq3 (by omega) HLB.out (by omega)).mono ?_); rintro e w9 ⟨v9, rfl, hm9, o9⟩; have B9 := B3.trans (o9.to_below B3.size (by simp; omega)); rw [HR.out] at hm9; obtain ⟨own9, r9⟩ := hm9; rw [HLEN.out] at own9; obtain ⟨A9, c9, rfl, hl9, hc9⟩ := own_lists own9; have HL9 := Lib.hid hl9; clear hl9)) | (go_at_call 28; ((with_reducible refine (rs_doneH p bs k9 _ r9 true (by rw [HM.out]; exact decide_eq_true hk)).mono ?_); rintro e w9b ⟨rfl, rfl⟩)) | (go_at_call 31; ((with_reducible refine (cwithin_any 0 (kf - 1) n w9.heap.size A9 c9 L w9 (Nat.le_refl _) HL9.out HLEN.out (by omega) false HAL.out).mono ?_); rintro e w10 ⟨rfl, b10⟩; have B10 := B9.trans (b10.mono B9.size))))
            exact bodyPost_ret (v := .tuple #[.slice none 0 0, .int .i64 160]) (by simp [results, Tryd.results16, go_sem]) rfl (HNO.out HNX.out _ B10)
          · have HAL := Lib.hid hal
            have HYX := Lib.hid (HY.out _ _ rfl hlen hk hal)
            clear hal hlen
            go_enter Tryd.func16, Tryd.ntmps16
            go_wp2_with (first | (go_at_call 21; ((with_reducible refine (CC _).mono ?_); rintro e w1 ⟨rfl, b1⟩)) | (go_at_call 40; ((with_reducible refine (CO _).mono ?_); rintro e w1c ⟨rfl, b1c⟩; have B1 := b1.trans (b1c.mono b1.size))) | (go_at_call 41; ((with_reducible refine (CE _).mono ?_); rintro e w1c ⟨rfl, rfl⟩)) | (go_at_call 22; ((with_reducible refine (CN _ B1 _).mono ?_); rintro e w2 ⟨p, rfl, r2, b2, hp2⟩; have B2 := B1.trans (b2.mono B1.size); have hpl := r2.lt; have rs2 : RS (fun b => w1c.heap.size ≤ b ∧ b < w2.heap.size) w2 p bs 0 := .inl ⟨Nat.zero_le _, r2⟩; have CU := rsU8 p bs 0 w2 rs2 HLB.out; rw [HFX.out] at CU)) | (go_at_call 24; ((with_reducible refine (CU).mono ?_); rintro e w3 ⟨rfl, r3, o3⟩; have hs3 := o3.size; have B3 := B2.trans (o3.to_below B2.size (by have := B1.size; simp; omega)); have hwp : w.heap.size ≤ p := Nat.le_trans B1.size hp2; have hq3 : ∀ b, (w1c.heap.size ≤ b ∧ b < w2.heap.size) → b < w3.heap.size := fun b hb => by omega)) | (go_at_call 43; ((with_reducible refine (creadRanges_any p 1 n bs w3 r3 hq3 (by omega) HLB.out (by omega)).mono ?_); rintro e w9 ⟨v9, rfl, hm9, o9⟩; have B9 := B3.trans (o9.to_below B3.size (by simp; omega)); rw [HR.out] at hm9; obtain ⟨own9, r9⟩ := hm9; rw [HLEN.out] at own9; obtain ⟨A9, c9, rfl, hl9, hc9⟩ := own_lists own9; have HL9 := Lib.hid hl9; clear hl9)) | (go_at_call 28; ((with_reducible refine (rs_doneH p bs k9 _ r9 true (by rw [HM.out]; exact decide_eq_true hk)).mono ?_); rintro e w9b ⟨rfl, rfl⟩)) | (go_at_call 31; ((with_reducible refine (cwithin_any 0 (kf - 1) n w9.heap.size A9 c9 L w9 (Nat.le_refl _) HL9.out HLEN.out (by omega) true HAL.out).mono ?_); rintro e w10 ⟨rfl, b10⟩; have B10 := B9.trans (b10.mono B9.size))))
            exact bodyPost_ret (v := .tuple #[.slice A9 n c9, .int .i64 0]) (by simp [results, Tryd.results16, go_sem]) rfl (HYX.out A9 c9 _ ((HL9.out.below b10).more b10.size) hc9 B10)
        · have HNX := Lib.hid (show selF bs n kf (some (L, k9)) = none by unfold selF; simp only; rw [if_neg (by rw [HM.out]; omega)])
          clear hlen
          go_enter Tryd.func16, Tryd.ntmps16
          go_wp2_with (first | (go_at_call 21; ((with_reducible refine (CC _).mono ?_); rintro e w1 ⟨rfl, b1⟩)) | (go_at_call 40; ((with_reducible refine (CO _).mono ?_); rintro e w1c ⟨rfl, b1c⟩; have B1 := b1.trans (b1c.mono b1.size))) | (go_at_call 41; ((with_reducible refine (CE _).mono ?_); rintro e w1c ⟨rfl, rfl⟩)) | (go_at_call 22; ((with_reducible refine (CN _ B1 _).mono ?_); rintro e w2 ⟨p, rfl, r2, b2, hp2⟩; have B2 := B1.trans (b2.mono B1.size); have hpl := r2.lt; have rs2 : RS (fun b => w1c.heap.size ≤ b ∧ b < w2.heap.size) w2 p bs 0 := .inl ⟨Nat.zero_le _, r2⟩; have CU := rsU8 p bs 0 w2 rs2 HLB.out; rw [HFX.out] at CU)) | (go_at_call 24; ((with_reducible refine (CU).mono ?_); rintro e w3 ⟨rfl, r3, o3⟩; have hs3 := o3.size; have B3 := B2.trans (o3.to_below B2.size (by have := B1.size; simp; omega)); have hwp : w.heap.size ≤ p := Nat.le_trans B1.size hp2; have hq3 : ∀ b, (w1c.heap.size ≤ b ∧ b < w2.heap.size) → b < w3.heap.size := fun b hb => by omega)) | (go_at_call 43; ((with_reducible refine (creadRanges_any p 1 n bs w3 r3 hq3 (by omega) HLB.out (by omega)).mono ?_); rintro e w9 ⟨v9, rfl, hm9, o9⟩; have B9 := B3.trans (o9.to_below B3.size (by simp; omega)); rw [HR.out] at hm9; obtain ⟨own9, r9⟩ := hm9; rw [HLEN.out] at own9; obtain ⟨A9, c9, rfl, hl9, hc9⟩ := own_lists own9; have HL9 := Lib.hid hl9; clear hl9)) | (go_at_call 28; ((with_reducible refine (rs_doneH p bs k9 _ r9 false (by rw [HM.out]; exact decide_eq_false hk)).mono ?_); rintro e w9b ⟨rfl, rfl⟩)))
          exact bodyPost_ret (v := .tuple #[.slice none 0 0, .int .i64 160]) (by simp [results, Tryd.results16, go_sem]) rfl (HNO.out HNX.out _ B9)
      · have HNX := Lib.hid (show selF bs n kf (some (L, k9)) = none by unfold selF; simp only; rw [if_neg (by omega)])
        obtain ⟨ll, hll⟩ : ∃ ll, L.length = ll := ⟨_, rfl⟩
        have HLEN := Lib.hid hll
        rw [hll] at hlen
        have hne : ((ll : Int) != (n : Int)) = true := by simp; omega
        clear hll
        go_enter Tryd.func16, Tryd.ntmps16
        go_wp2_with (first | (go_at_call 21; ((with_reducible refine (CC _).mono ?_); rintro e w1 ⟨rfl, b1⟩)) | (go_at_call 40; ((with_reducible refine (CO _).mono ?_); rintro e w1c ⟨rfl, b1c⟩; have B1 := b1.trans (b1c.mono b1.size))) | (go_at_call 41; ((with_reducible refine (CE _).mono ?_); rintro e w1c ⟨rfl, rfl⟩)) | (go_at_call 22; ((with_reducible refine (CN _ B1 _).mono ?_); rintro e w2 ⟨p, rfl, r2, b2, hp2⟩; have B2 := B1.trans (b2.mono B1.size); have hpl := r2.lt; have rs2 : RS (fun b => w1c.heap.size ≤ b ∧ b < w2.heap.size) w2 p bs 0 := .inl ⟨Nat.zero_le _, r2⟩; have CU := rsU8 p bs 0 w2 rs2 HLB.out; rw [HFX.out] at CU)) | (go_at_call 24; ((with_reducible refine (CU).mono ?_); rintro e w3 ⟨rfl, r3, o3⟩; have hs3 := o3.size; have B3 := B2.trans (o3.to_below B2.size (by have := B1.size; simp; omega)); have hwp : w.heap.size ≤ p := Nat.le_trans B1.size hp2; have hq3 : ∀ b, (w1c.heap.size ≤ b ∧ b < w2.heap.size) → b < w3.heap.size := fun b hb => by omega)) | (go_at_call 43; ((with_reducible refine (creadRanges_any p 1 n bs w3 r3 hq3 (by omega) HLB.out (by omega)).mono ?_); rintro e w9 ⟨v9, rfl, hm9, o9⟩; have B9 := B3.trans (o9.to_below B3.size (by simp; omega)); rw [HR.out] at hm9; obtain ⟨own9, r9⟩ := hm9; rw [HLEN.out] at own9; obtain ⟨A9, c9, rfl, hl9, hc9⟩ := own_lists own9; have HL9 := Lib.hid hl9; clear hl9)))
        exact bodyPost_ret (v := .tuple #[.slice none 0 0, .int .i64 160]) (by simp [results, Tryd.results16, go_sem]) rfl (HNO.out HNX.out _ B9)

end Go.Proofs.YteffijgajhngeaaDoor

namespace Go.Proofs.YteffijgajhngeaaDoor
open Go Go.RowKit
set_option linter.unusedVariables false
set_option linter.unusedSimpArgs false

set_option maxRecDepth 100000 in
set_option maxHeartbeats 4000000 in
theorem csel_n (A : Option Addr) (c l n : Nat) (kf : Int) (bs : List Value) (w : World) (hE : Lists w w.heap.size A bs) (h8 : Bytes8 bs) (hc : l ≤ c) (hm : l ≤ 281474976710656) (hn1 : 1 ≤ n) (hn2 : n ≤ 65535) (hk1 : 1 ≤ kf) (hk2 : kf ≤ 256) (hbl : bs.length = Nat.min l (5 + 3 * n)) (x : Nat) (hfx : rsn bs 1 0 (byteAt bs 0) = x) (hx0 : x ≠ 0) (hx3 : x ≠ 3) (R : Option (List Int × Nat)) (hR : R = none) :
    Calls Tryd.prog 16 #[.slice A l c, .int .i64 (n : Nat), .int .i64 kf] w (LdC w (selF bs n kf R)) := by
  have CC := ccount_any (n : Nat) true (inB_yes (by omega) (by omega))
  have CO := cfonts_any kf true (inB_yes hk1 hk2)
  have CE := cslen_any n (by omega)
  obtain ⟨m, hm2⟩ : ∃ m, bs.length = m := ⟨_, rfl⟩
  have hmn : (m = l ∧ (l : Int) ≤ ((5 + 3 * n : Nat) : Int)) ∨ (m = 5 + 3 * n ∧ ((5 + 3 * n : Nat) : Int) < (l : Int)) := by
    have : m = min l (5 + 3 * n) := by rw [← hm2]; exact hbl
    omega
  obtain ⟨N4, hN4⟩ : ∃ N4, 5 + 3 * n = N4 := ⟨_, rfl⟩
  rw [hN4] at hmn CE
  have hm3 : m ≤ N4 := by omega
  have CN := fun W (hb : Below w.heap.size w W) c' => new_any A m c' bs W ((hE.below hb).more hb.size) hm2 h8 (by omega)
  have hno : selF bs n kf R = none → ∀ W, Below w.heap.size w W → LdC w (selF bs n kf R) (.returned (.tuple #[.slice none 0 0, .int .i64 160])) W := fun h W hb => by
    rw [h]; exact ⟨rfl, hb⟩
  have hyes : ∀ L k, R = some (L, k) → L.length = n → k ≤ m → allB 0 (kf - 1) L = true → ∀ A c W, Lists W W.heap.size A (intCells L) → n ≤ c → Below w.heap.size w W → LdC w (selF bs n kf R) (.returned (.tuple #[.slice A n c, .int .i64 0])) W := fun L k h h1 h2 h3 A c W hl hc hb => by
    rw [h]; unfold selF; simp only; rw [if_pos ⟨h1, by omega, h3⟩]; exact ⟨A, c, by rw [h1], Lib.hid hl, by omega, hb⟩
  have HNO := Lib.hid hno
  have HY := Lib.hid hyes
  have HM := Lib.hid hm2
  have HLB := Lib.hid (show bs.length ≤ 4611686018427387904 by omega)
  have HFX := Lib.hid hfx
  have H8 := Lib.hid h8
  have s1 : IntKind.i64.wrap (kf - 1) = kf - 1 := IntWalk.i64_in _ (by omega)
  clear hno hyes hm2 h8 hE hbl hfx
  subst hR
  have HNX := Lib.hid (show selF bs n kf none = none from rfl)
  have hne : ((0 : Int) != (n : Int)) = true := by simp; omega
  have e0 : ((x : Int) == 0) = false := by simp; omega
  have e3 : ((x : Int) == 3) = false := by simp; omega
  rcases hmn with ⟨hml, hmin⟩ | ⟨hml, hmin⟩
  all_goals
    subst hml
    go_enter Tryd.func16, Tryd.ntmps16
    go_wp2_with (first | (go_at_call 21; ((with_reducible refine (CC _).mono ?_); rintro e w1 ⟨rfl, b1⟩)) | (go_at_call 40; ((with_reducible refine (CO _).mono ?_); rintro e w1c ⟨rfl, b1c⟩; have B1 := b1.trans (b1c.mono b1.size))) | (go_at_call 41; ((with_reducible refine (CE _).mono ?_); rintro e w1c ⟨rfl, rfl⟩)) | (go_at_call 22; ((with_reducible refine (CN _ B1 _).mono ?_); rintro e w2 ⟨p, rfl, r2, b2, hp2⟩; have B2 := B1.trans (b2.mono B1.size); have hpl := r2.lt; have rs2 : RS (fun b => w1c.heap.size ≤ b ∧ b < w2.heap.size) w2 p bs 0 := .inl ⟨Nat.zero_le _, r2⟩; have CU := rsU8 p bs 0 w2 rs2 HLB.out; rw [HFX.out] at CU)) | (go_at_call 24; ((with_reducible refine (CU).mono ?_); rintro e w3 ⟨rfl, r3, o3⟩; have hs3 := o3.size; have B3 := B2.trans (o3.to_below B2.size (by have := B1.size; simp; omega)); have hwp : w.heap.size ≤ p := Nat.le_trans B1.size hp2; have hq3 : ∀ b, (w1c.heap.size ≤ b ∧ b < w2.heap.size) → b < w3.heap.size := fun b hb => by omega)))
    exact bodyPost_ret (v := .tuple #[.slice none 0 0, .int .i64 160]) (by simp [results, Tryd.results16, go_sem]) rfl (HNO.out HNX.out _ B3)

end Go.Proofs.YteffijgajhngeaaDoor

namespace Go.Proofs.YteffijgajhngeaaDoor
open Go Go.RowKit
set_option linter.unusedVariables false
set_option linter.unusedSimpArgs false

set_option maxRecDepth 100000 in
theorem csel_arg (A : Option Addr) (c l : Nat) (n kf : Int) (w : World) (hn : (inB 1 65535 n && inB 1 256 kf) = false) : Calls Tryd.prog 16 #[.slice A l c, .int .i64 n, .int .i64 kf] w fun e w' => e = .returned (.tuple #[.slice none 0 0, .int .i64 1]) ∧ Below w.heap.size w w' := by
  cases h1 : inB 1 65535 n
  · have CC := ccount_any n false h1
    clear hn h1
    go_enter Tryd.func16, Tryd.ntmps16
    go_wp2_with (first | (go_at_call 21; ((with_reducible refine (CC _).mono ?_); rintro e w1 ⟨rfl, b1⟩)))
    exact bodyPost_ret (v := .tuple #[.slice none 0 0, .int .i64 1]) (by simp [results, Tryd.results16, go_sem]) rfl ⟨rfl, b1⟩
  · rw [h1, Bool.true_and] at hn
    have CC := ccount_any n true h1
    have CO := cfonts_any kf false hn
    clear hn h1
    go_enter Tryd.func16, Tryd.ntmps16
    go_wp2_with (first | (go_at_call 21; ((with_reducible refine (CC _).mono ?_); rintro e w1 ⟨rfl, b1⟩)) | (go_at_call 40; ((with_reducible refine (CO _).mono ?_); rintro e w1c ⟨rfl, b1c⟩; have B1 := b1.trans (b1c.mono b1.size))))
    exact bodyPost_ret (v := .tuple #[.slice none 0 0, .int .i64 1]) (by simp [results, Tryd.results16, go_sem]) rfl ⟨rfl, B1⟩
theorem csel_any (A : Option Addr) (c : Nat) (E : List Value) (n : Nat) (kf : Int) (w : World) (hE : Lists w w.heap.size A E) (h8 : Bytes8 E) (hc : E.length ≤ c) (hm : E.length ≤ 281474976710656) (hn1 : 1 ≤ n) (hn2 : n ≤ 65535) (hk1 : 1 ≤ kf) (hk2 : kf ≤ 256) :
    Calls Tryd.prog 16 #[.slice A E.length c, .int .i64 (n : Nat), .int .i64 kf] w (LdC w (selC E n kf)) := by
  rw [← selC_take E n kf]
  have hE2 : Lists w w.heap.size A (E.take (5 + 3 * n)) := lists_takeF hE _
  have h82 : Bytes8 (E.take (5 + 3 * n)) := fun u hu => h8 u (List.mem_of_mem_take hu)
  have hbl : (E.take (5 + 3 * n)).length = Nat.min E.length (5 + 3 * n) := by rw [List.length_take, Nat.min_comm]
  generalize E.take (5 + 3 * n) = bs at *
  obtain ⟨x, hx⟩ : ∃ x, rsn bs 1 0 (byteAt bs 0) = x := ⟨_, rfl⟩
  unfold selC selR
  rw [hx]
  by_cases h0 : x = 0
  · rw [if_pos h0]
    exact csel_0 A c E.length n kf bs w hE2 h82 hc hm hn1 hn2 hk1 hk2 hbl (by rw [hx, h0]) _ rfl
  · rw [if_neg h0]
    by_cases h3 : x = 3
    · rw [if_pos h3]
      exact csel_3 A c E.length n kf bs w hE2 h82 hc hm hn1 hn2 hk1 hk2 hbl (by rw [hx, h3]) _ rfl
    · rw [if_neg h3]
      exact csel_n A c E.length n kf bs w hE2 h82 hc hm hn1 hn2 hk1 hk2 hbl x hx h0 h3 _ rfl
end Go.Proofs.YteffijgajhngeaaDoor

namespace Go.Proofs.YteffijgajhngeaaDoor
open Go Go.RowKit
set_option linter.unusedVariables false
set_option linter.unusedSimpArgs false

set_option maxRecDepth 100000 in
set_option maxHeartbeats 4000000 in
theorem cput_0 (A : Option Addr) (c n : Nat) (L : List Int) (w : World) (hG : GL w) (hE : Lists w w.heap.size A (intCells L)) (hnn : L.length = n) (hc : n ≤ c) (hn1 : 1 ≤ n) (hn2 : n ≤ 65535) (h0 : L.getD 0 0 = 0) (hall : allB 0 65535 L = true) :
    Calls Tryd.prog 13 #[.slice A n c, .int .i64 0] w (Gave w (putC 0 L)) := by
  have CC := ccount_any (n : Nat) true (inB_yes (by omega) (by omega))
  have CW := fun W (hb : Below w.heap.size w W) => cwithin_any 0 65535 n w.heap.size A c L W hb.size (hE.below hb) hnn (by omega) true hall
  have CF := cformat_any 0 true (by decide)
  have CE := clen_any n (by omega)
  obtain ⟨N4, hN4⟩ : ∃ N4, 1 + 4 * n = N4 := ⟨_, rfl⟩
  rw [hN4] at CE
  obtain ⟨cs, hcs⟩ : ∃ cs, cnts nextP (mostC 0) L.tail = cs := ⟨_, rfl⟩
  have ee : Enters Tryd.prog 35 := enters_of Tryd.func35 (by kernel_rfl) rfl
  obtain ⟨b, o, rfl, hbl, hcl⟩ := hE.plain (by intro e; have h2 := congrArg List.length e; rw [intCells_len, hnn] at h2; simp at h2; omega)
  have hc0 : w.cell? ⟨b, o, none⟩ = some (.int .i64 0) := by
    have := hcl 0 _ (intCells_atD (by rw [hnn]; omega))
    rw [h0] at this
    simpa using this
  have htl : L.tail.length = n - 1 := by rw [List.length_tail, hnn]
  obtain ⟨n1, hn, hnb⟩ : ∃ n1, n1 + 1 ≤ n ∧ n ≤ n1 + 1 := ⟨n - 1, by omega, by omega⟩
  have SL0 : ∀ W, (Instr.sliceAt 24 (.slice (some ⟨b, o, none⟩) n c) (some (.int .i64 1)) none none).run Tryd.prog W = .ok (.slice (if c = 1 then some (⟨b, o, none⟩ : Addr) else (some (⟨b, o, none⟩ : Addr)).map (·.add 1)) (n - 1) (c - 1)) W := fun W => slice_okI (some ⟨b, o, none⟩) n c 1 (by omega) hc W
  have HLT := lists_dropI hE 1 c (by omega) (by omega)
  rw [show L.drop 1 = L.tail by simp] at HLT
  rw [show n - 1 = n1 by omega] at SL0 htl
  obtain ⟨c1, hc1⟩ : ∃ c1, c - 1 = c1 := ⟨_, rfl⟩
  rw [hc1] at SL0
  generalize (if c = 1 then some (⟨b, o, none⟩ : Addr) else (some (⟨b, o, none⟩ : Addr)).map (·.add 1)) = A1 at *
  have CR : ∀ W, Below w.heap.size w W → Calls Tryd.prog 36 #[.slice A1 n1 c1, .int .i64 1, .func (.func 35) #[] #[]] W fun e w' => ∃ v, e = .returned v ∧ w'.ownsRow W.heap.size 3 1 v (cnts nextP (mostC 0) L.tail).length (intCells ((cnts nextP (mostC 0) L.tail).map Int.ofNat)) ∧ Below W.heap.size W w' := fun W hb => cranges_any 35 nextP w.heap.size A1 c1 n1 (mostC 0) L.tail W hb.size (HLT.below hb) htl (by omega) (by omega) (by decide) (by decide) ee cnext_any
  rw [hcs] at CR
  have hcl2 := cntsF_len (P := nextP) (most := mostC 0) (by decide) L.tail.length L.tail
  rw [show cntsF nextP (mostC 0) L.tail.length L.tail = cs from hcs, htl] at hcl2
  have HT := Lib.hid (show putC 0 L = be1 0 ++ rgE 0 cs L.tail by unfold putC; rw [hcs]; rfl)
  have HCS := Lib.hid (show cs = cntsF nextP (mostC 0) n1 L.tail by rw [← hcs, ← htl]; rfl)
  have HG := Lib.hid hG
  have HTL := Lib.hid htl
  have HL1 := Lib.hid HLT
  have HE := Lib.hid hE
  rw [HT.out]
  generalize L.tail = Lt at *
  obtain ⟨mm, hmm⟩ : ∃ mm, cs.length = mm := ⟨_, rfl⟩
  rw [hmm] at CR hcl2
  have HMM := Lib.hid hmm
  have CWR : ∀ p W, Calls Tryd.prog 34 #[.pointer (some ⟨p, 0, none⟩), .int .i64 0] W fun e w' => ∃ k, e = .returned (wmoreF 0 p k) ∧ Blk w' k 56 #[.pointer (some ⟨p, 0, none⟩)] ∧ Below W.heap.size W w' := fun p W => cwriting_any 0 (by decide) p W
  simp only [wmoreF] at CWR
  have hgl := HG.out.lt
  clear hG hE hall h0 hcl hcs htl HLT hmm ee hnn
  go_enter Tryd.func13, Tryd.ntmps13
  go_wp2_with (first
    | (go_at_call 21; ((with_reducible refine (CC _).mono ?_); rintro e w1 ⟨rfl, b1⟩; have g0 := (b1.cell (p := ⟨b, o, none⟩) hbl).trans hc0; have hl1 := Nat.lt_of_lt_of_le hbl b1.size))
    | (go_at_call 31; ((with_reducible refine (CW _ b1).mono ?_); rintro e w2 ⟨rfl, b2⟩; have B2 := b1.trans (b2.mono b1.size)))
    | (go_at_call 25; ((with_reducible refine (CF _).mono ?_); rintro e w3 ⟨rfl, b3⟩; have B3 := B2.trans (b3.mono B2.size)))
    | (go_at_call 23; ((with_reducible refine (CE _).mono ?_); rintro e w3 ⟨rfl, rfl⟩))
    | (go_at_call 32; ((with_reducible refine (wsTo w _ N4 B3).mono ?_); rintro e w4 ⟨p, rfl, h4, b4⟩; have B4 := B3.trans (b4.mono B3.size)))
    | (go_at_call 33; ((with_reducible refine (wsU8 w _ p N4 [] 0 h4 (by simp [be1]; omega) (by omega)).mono ?_); rintro e w5 ⟨rfl, h5, s5, z5⟩; have B5 := h5.old))
    | (go_at_call 34; ((with_reducible refine (CWR p _).mono ?_); rintro e w6 ⟨kk, rfl, K6, b6⟩; have B6 := B5.trans (b6.mono B5.size); have h6 := h5.below b6; have gm := (HG.out.below B6).c0; have gml := Nat.lt_of_lt_of_le hgl B6.size))
    | (go_at_call 36; ((with_reducible refine (CR _ B6).mono ?_); rintro e w7 ⟨v7, rfl, own7, b7⟩; have B7 := B6.trans (b7.mono B6.size); have h7 := h6.below b7; have K7 := K6.below b7; obtain ⟨A7, c7, rfl, ql7, _⟩ := own_lists own7; clear ql7; have KO7 := cntAt_of (cs := cs) (by rw [HMM.out]; exact own7))))
  have HW7 := Lib.hid (show WS w w7 p N4 (be1 0 ++ []) from by rw [List.append_nil]; exact h7)
  have HK7 := Lib.hid K7
  have HKO := Lib.hid KO7
  have HB7 := Lib.hid B7
  clear h4 h5 h6 h7 K6 K7 KO7 s5 z5 B2 B3 B4 B5 B6 b1 b2 b3 b4 b6 b7 own7 gm g0 hl1 CC CW CF CE CR CWR
  by_cases hm0 : mm = 0
  · subst hm0
    have hcs0 : cs = [] := List.eq_nil_of_length_eq_zero HMM.out
    have CD := wsDone w w7 p N4 (be1 0 ++ []) HW7.out (by omega)
    rw [show be1 0 ++ [] = be1 0 ++ rgE 0 cs Lt by rw [hcs0]; rfl] at CD
    clear hcs0
    refine wp_loop_rounds 1 ?_
    rw [rounds_succ]
    go_wp2_with (first | (go_at_call 38; ((with_reducible refine (CD).mono ?_); rintro e w8 ⟨A8, c8, rfl, own8, b8⟩)))
    exact bodyPost_ret (v := .tuple #[.slice A8 _ c8, .int .i64 0]) (by simp [results, Tryd.results13, go_sem]) rfl ⟨A8, c8, rfl, own8, b8⟩
  · obtain ⟨g, cap, cur, hgv, hgb7, hcur⟩ := HKO.out (by rw [HMM.out]; omega)
    rw [HMM.out] at hgv
    injection hgv with hg1 hg2 hg3
    subst hg1
    clear hg2 hg3
    have HG7 := Lib.hid hgb7
    have HCUR := Lib.hid hcur
    clear hgb7 hcur HKO
    go_loopw [9, 50] (fun lv iv wr => ∃ (j m : Nat) (Lr : List Int) (A' : Option Addr) (n' c' : Nat) (D : List Value), lv = .slice A' n' c' ∧ iv = .int .i64 (j : Nat) ∧ j ≤ mm ∧ Hid (Lr.length = n') ∧ Hid (Lists w w.heap.size A' (intCells Lr)) ∧ n' ≤ c' ∧ n' ≤ n ∧ Hid (cs.drop j = cntsF nextP (mostC 0) m Lr) ∧ Hid (D ++ rgE 0 (cs.drop j) Lr = rgE 0 cs Lt) ∧ Hid (D.length = 2 * j) ∧ WS w wr p N4 (be1 0 ++ D) ∧ Blk wr kk 56 #[.pointer (some ⟨p, 0, none⟩)] ∧ Blk wr g 3 cur ∧ w.heap.size ≤ wr.heap.size) (fun _ iv _ => mm - (intOf iv).toNat)
    case atStart => exact ⟨0, n1, Lt, A1, n1, c1, [], rfl, rfl, Nat.zero_le _, HTL, HL1, by omega, by omega, HCS, Lib.hid rfl, Lib.hid rfl, HW7.out, HK7.out, HG7.out, HB7.out.size⟩
    case round =>
      obtain ⟨j, m, Lr, A', n', c', D, rfl, rfl, hj, hLr, hLi, hc', hnn', hdr, hby, hDl, hws, hkk, hko, hsw⟩ := hrel
      by_cases hlt : j < mm
      · have d1 : (j : Int) < (mm : Int) := by omega
        obtain ⟨x0, hx0⟩ : ∃ x, cs[j]? = some x := ⟨cs[j]'(by rw [HMM.out]; exact hlt), List.getElem?_eq_getElem _⟩
        have hdc : cs.drop j = x0 :: cs.drop (j + 1) := by rw [List.drop_eq_getElem_cons (by rw [HMM.out]; exact hlt)]; congr 1; rw [List.getElem?_eq_getElem (by rw [HMM.out]; exact hlt)] at hx0; exact Option.some.inj hx0
        have hstep := hdr.out
        rw [hdc] at hstep
        have hne : n' ≠ 0 := fun h => by rw [cntsF_nil (by rw [hLr.out]; exact h)] at hstep; cases hstep
        obtain ⟨m1, rfl⟩ : ∃ y, m = y + 1 := by
          cases m with
          | zero => cases hstep
          | succ y => exact ⟨y, rfl⟩
        rw [cntsF_more (by rw [hLr.out]; exact hne)] at hstep
        injection hstep with hs1 hs2
        have hrl := runN_le (P := nextP) (most := mostC 0) (L := Lr) (by rw [hLr.out]; omega) (by decide)
        rw [← hs1, hLr.out] at hrl
        rw [← hs1] at hs2
        obtain ⟨x, hxx, hxx2⟩ : ∃ x, x0 ≤ x + 1 ∧ x + 1 ≤ x0 := ⟨x0 - 1, by omega, by omega⟩
        have hx1 : x0 = x + 1 := by omega
        have hgb := hko
        have gx := HCUR.out j x0 hx0
        have gc : wr.cell? ⟨g, j, none⟩ = some (.int .i64 ((x : Int) + 1)) := by
          rw [hgb.cell j]
          rw [hx1] at gx
          simpa using gx
        obtain ⟨b', o', rfl, hbl', hcl0⟩ := hLi.out.plain (by intro e; have h2 := congrArg List.length e; rw [intCells_len, hLr.out] at h2; simp at h2; omega)
        have hcl' := fun u x hx => (hws.old.cell (p := ⟨b', o' + u, none⟩) hbl').trans (hcl0 u x hx)
        obtain ⟨r0, hr0⟩ : ∃ r0, Lr.getD 0 0 = r0 := ⟨_, rfl⟩
        have g0 : wr.cell? ⟨b', o', none⟩ = some (.int .i64 r0) := by
          have := hcl' 0 _ (intCells_atD (by rw [hLr.out]; omega))
          rw [hr0] at this
          simpa using this
        have hbw : b' < wr.heap.size := by omega
        have hgl2 := hgb.lt
        have SL : ∀ W, (Instr.sliceAt 24 (.slice (some ⟨b', o', none⟩) n' c') (some (.int .i64 ((x : Int) + 1))) none none).run Tryd.prog W = .ok (.slice (if c' = x + 1 then some (⟨b', o', none⟩ : Addr) else (some (⟨b', o', none⟩ : Addr)).map (·.add (x + 1))) (n' - (x + 1)) (c' - (x + 1))) W := fun W => slice_okI (some ⟨b', o', none⟩) n' c' (x + 1) (by omega) hc' W
        have hLd := lists_dropI hLi.out (x + 1) c' (by rw [hLr.out]; omega) (by rw [hLr.out]; exact hc')
        generalize (if c' = x + 1 then some (⟨b', o', none⟩ : Addr) else (some (⟨b', o', none⟩ : Addr)).map (·.add (x + 1))) = A2 at *
        have HLD := Lib.hid hLd
        have e0 : IntKind.i64.wrap (x : Int) = (x : Int) := IntWalk.i64_in _ (by omega)
        have n7 : 0 < n' := by omega
        have n7b : (0 : Int) < (n' : Int) := by omega
        have HD2 := Lib.hid (show cs.drop (j + 1) = cntsF nextP (mostC 0) m1 (Lr.drop (x + 1)) by rw [hs2, hx1])
        have HBY := Lib.hid (show (D ++ (be2 r0 ++ [])) ++ rgE 0 (cs.drop (j + 1)) (Lr.drop (x + 1)) = rgE 0 cs Lt by
          rw [← hby.out, hdc, List.append_assoc, hx1]
          show _ = D ++ (be2 (Lr.getD 0 0) ++ moreE 0 ((x + 1 - 1 : Nat) : Int) ++ rgE 0 (cs.drop (j + 1)) (Lr.drop (x + 1)))
          rw [hr0, Nat.add_sub_cancel]
          rfl)
        have HDL := hDl
        have HKO2 := Lib.hid hko
        have KK := hkk
        have HLR := hLr
        clear hdc hs1 hs2 hx0 hcl' hcl0 hLd hdr hby hr0 hgb gx hx1 hko
        go_wp2_with (first
          | (go_at_call 37; ((with_reducible refine (wsU16 w _ p N4 (be1 0 ++ D) r0 hws (by rw [List.length_append, HDL.out]; simp [be1]; omega) (by omega)).mono ?_); rintro e w5 ⟨rfl, h5, s5, z5⟩; have KO5 := s5 _ _ _ (by decide) (by decide) (by decide) HKO2.out; have KK5 := s5 _ _ _ (by decide) (by decide) (by decide) KK))
          | (go_at_call 53; ((with_reducible refine (cwriting1_any _ p kk _ KK5).mono ?_); rintro e w6 ⟨rfl, rfl⟩; have h6 : WS w w5 p N4 ((be1 0 ++ D) ++ be2 r0 ++ []) := (congrArg (WS w w5 p N4) (List.append_nil _)).mpr h5; have KO6 := KO5; have KK6 := KK5; have z6 := z5)))
        go_roundw
        case rel => exact ⟨j + 1, m1, Lr.drop (x + 1), A2, n' - (x + 1), c' - (x + 1), D ++ (be2 r0 ++ []), rfl, by first | rfl | go_num, by omega, Lib.hid (by rw [List.length_drop, HLR.out]), HLD, by omega, by omega, HD2, HBY, Lib.hid (by rw [List.length_append, HDL.out]; simp [be1, be2]; omega), (by rw [← List.append_assoc, ← List.append_assoc]; exact h6), KK6, KO6, Nat.le_trans hsw z6⟩
        case measure => simp [intOf]; omega
      · have d1 : ¬ (j : Int) < (mm : Int) := by omega
        obtain rfl : j = mm := by omega
        have HF := Lib.hid (show D = rgE 0 cs Lt by have h := hby.out; rw [List.drop_of_length_le (by rw [HMM.out]; exact Nat.le_refl _)] at h; simpa [rgE] using h)
        have CD := wsDone w wr p N4 (be1 0 ++ D) hws (by omega)
        rw [HF.out] at CD
        clear hby hdr
        go_wp2_with (first | (go_at_call 38; ((with_reducible refine (CD).mono ?_); rintro e w8 ⟨A8, c8, rfl, own8, b8⟩)))
        exact bodyPost_ret (v := .tuple #[.slice A8 _ c8, .int .i64 0]) (by simp [results, Tryd.results13, go_sem]) rfl ⟨A8, c8, rfl, own8, b8⟩

end Go.Proofs.YteffijgajhngeaaDoor

namespace Go.Proofs.YteffijgajhngeaaDoor
open Go Go.RowKit
set_option linter.unusedVariables false
set_option linter.unusedSimpArgs false

set_option maxRecDepth 100000 in
set_option maxHeartbeats 4000000 in
theorem cput_1 (A : Option Addr) (c n : Nat) (L : List Int) (w : World) (hG : GL w) (hE : Lists w w.heap.size A (intCells L)) (hnn : L.length = n) (hc : n ≤ c) (hn1 : 1 ≤ n) (hn2 : n ≤ 65535) (h0 : L.getD 0 0 = 0) (hall : allB 0 65535 L = true) :
    Calls Tryd.prog 13 #[.slice A n c, .int .i64 1] w (Gave w (putC 1 L)) := by
  have CC := ccount_any (n : Nat) true (inB_yes (by omega) (by omega))
  have CW := fun W (hb : Below w.heap.size w W) => cwithin_any 0 65535 n w.heap.size A c L W hb.size (hE.below hb) hnn (by omega) true hall
  have CF := cformat_any 1 true (by decide)
  have CE := clen_any n (by omega)
  obtain ⟨N4, hN4⟩ : ∃ N4, 1 + 4 * n = N4 := ⟨_, rfl⟩
  rw [hN4] at CE
  obtain ⟨cs, hcs⟩ : ∃ cs, cnts nextP (mostC 1) L.tail = cs := ⟨_, rfl⟩
  have ee : Enters Tryd.prog 35 := enters_of Tryd.func35 (by kernel_rfl) rfl
  obtain ⟨b, o, rfl, hbl, hcl⟩ := hE.plain (by intro e; have h2 := congrArg List.length e; rw [intCells_len, hnn] at h2; simp at h2; omega)
  have hc0 : w.cell? ⟨b, o, none⟩ = some (.int .i64 0) := by
    have := hcl 0 _ (intCells_atD (by rw [hnn]; omega))
    rw [h0] at this
    simpa using this
  have htl : L.tail.length = n - 1 := by rw [List.length_tail, hnn]
  obtain ⟨n1, hn, hnb⟩ : ∃ n1, n1 + 1 ≤ n ∧ n ≤ n1 + 1 := ⟨n - 1, by omega, by omega⟩
  have SL0 : ∀ W, (Instr.sliceAt 24 (.slice (some ⟨b, o, none⟩) n c) (some (.int .i64 1)) none none).run Tryd.prog W = .ok (.slice (if c = 1 then some (⟨b, o, none⟩ : Addr) else (some (⟨b, o, none⟩ : Addr)).map (·.add 1)) (n - 1) (c - 1)) W := fun W => slice_okI (some ⟨b, o, none⟩) n c 1 (by omega) hc W
  have HLT := lists_dropI hE 1 c (by omega) (by omega)
  rw [show L.drop 1 = L.tail by simp] at HLT
  rw [show n - 1 = n1 by omega] at SL0 htl
  obtain ⟨c1, hc1⟩ : ∃ c1, c - 1 = c1 := ⟨_, rfl⟩
  rw [hc1] at SL0
  generalize (if c = 1 then some (⟨b, o, none⟩ : Addr) else (some (⟨b, o, none⟩ : Addr)).map (·.add 1)) = A1 at *
  have CR : ∀ W, Below w.heap.size w W → Calls Tryd.prog 36 #[.slice A1 n1 c1, .int .i64 256, .func (.func 35) #[] #[]] W fun e w' => ∃ v, e = .returned v ∧ w'.ownsRow W.heap.size 3 1 v (cnts nextP (mostC 1) L.tail).length (intCells ((cnts nextP (mostC 1) L.tail).map Int.ofNat)) ∧ Below W.heap.size W w' := fun W hb => cranges_any 35 nextP w.heap.size A1 c1 n1 (mostC 1) L.tail W hb.size (HLT.below hb) htl (by omega) (by omega) (by decide) (by decide) ee cnext_any
  rw [hcs] at CR
  have hcl2 := cntsF_len (P := nextP) (most := mostC 1) (by decide) L.tail.length L.tail
  rw [show cntsF nextP (mostC 1) L.tail.length L.tail = cs from hcs, htl] at hcl2
  have HT := Lib.hid (show putC 1 L = be1 1 ++ rgE 1 cs L.tail by unfold putC; rw [hcs]; rfl)
  have HCS := Lib.hid (show cs = cntsF nextP (mostC 1) n1 L.tail by rw [← hcs, ← htl]; rfl)
  have HG := Lib.hid hG
  have HTL := Lib.hid htl
  have HL1 := Lib.hid HLT
  have HE := Lib.hid hE
  rw [HT.out]
  generalize L.tail = Lt at *
  obtain ⟨mm, hmm⟩ : ∃ mm, cs.length = mm := ⟨_, rfl⟩
  rw [hmm] at CR hcl2
  have HMM := Lib.hid hmm
  have CWR : ∀ p W, Calls Tryd.prog 34 #[.pointer (some ⟨p, 0, none⟩), .int .i64 1] W fun e w' => ∃ k, e = .returned (wmoreF 1 p k) ∧ Blk w' k 56 #[.pointer (some ⟨p, 0, none⟩)] ∧ Below W.heap.size W w' := fun p W => cwriting_any 1 (by decide) p W
  simp only [wmoreF] at CWR
  have hgl := HG.out.lt
  clear hG hE hall h0 hcl hcs htl HLT hmm ee hnn
  go_enter Tryd.func13, Tryd.ntmps13
  go_wp2_with (first
    | (go_at_call 21; ((with_reducible refine (CC _).mono ?_); rintro e w1 ⟨rfl, b1⟩; have g0 := (b1.cell (p := ⟨b, o, none⟩) hbl).trans hc0; have hl1 := Nat.lt_of_lt_of_le hbl b1.size))
    | (go_at_call 31; ((with_reducible refine (CW _ b1).mono ?_); rintro e w2 ⟨rfl, b2⟩; have B2 := b1.trans (b2.mono b1.size)))
    | (go_at_call 25; ((with_reducible refine (CF _).mono ?_); rintro e w3 ⟨rfl, b3⟩; have B3 := B2.trans (b3.mono B2.size)))
    | (go_at_call 23; ((with_reducible refine (CE _).mono ?_); rintro e w3 ⟨rfl, rfl⟩))
    | (go_at_call 32; ((with_reducible refine (wsTo w _ N4 B3).mono ?_); rintro e w4 ⟨p, rfl, h4, b4⟩; have B4 := B3.trans (b4.mono B3.size)))
    | (go_at_call 33; ((with_reducible refine (wsU8 w _ p N4 [] 1 h4 (by simp [be1]; omega) (by omega)).mono ?_); rintro e w5 ⟨rfl, h5, s5, z5⟩; have B5 := h5.old))
    | (go_at_call 34; ((with_reducible refine (CWR p _).mono ?_); rintro e w6 ⟨kk, rfl, K6, b6⟩; have B6 := B5.trans (b6.mono B5.size); have h6 := h5.below b6; have gm := (HG.out.below B6).c1; have gml := Nat.lt_of_lt_of_le hgl B6.size))
    | (go_at_call 36; ((with_reducible refine (CR _ B6).mono ?_); rintro e w7 ⟨v7, rfl, own7, b7⟩; have B7 := B6.trans (b7.mono B6.size); have h7 := h6.below b7; have K7 := K6.below b7; obtain ⟨A7, c7, rfl, ql7, _⟩ := own_lists own7; clear ql7; have KO7 := cntAt_of (cs := cs) (by rw [HMM.out]; exact own7))))
  have HW7 := Lib.hid (show WS w w7 p N4 (be1 1 ++ []) from by rw [List.append_nil]; exact h7)
  have HK7 := Lib.hid K7
  have HKO := Lib.hid KO7
  have HB7 := Lib.hid B7
  clear h4 h5 h6 h7 K6 K7 KO7 s5 z5 B2 B3 B4 B5 B6 b1 b2 b3 b4 b6 b7 own7 gm g0 hl1 CC CW CF CE CR CWR
  by_cases hm0 : mm = 0
  · subst hm0
    have hcs0 : cs = [] := List.eq_nil_of_length_eq_zero HMM.out
    have CD := wsDone w w7 p N4 (be1 1 ++ []) HW7.out (by omega)
    rw [show be1 1 ++ [] = be1 1 ++ rgE 1 cs Lt by rw [hcs0]; rfl] at CD
    clear hcs0
    refine wp_loop_rounds 1 ?_
    rw [rounds_succ]
    go_wp2_with (first | (go_at_call 38; ((with_reducible refine (CD).mono ?_); rintro e w8 ⟨A8, c8, rfl, own8, b8⟩)))
    exact bodyPost_ret (v := .tuple #[.slice A8 _ c8, .int .i64 0]) (by simp [results, Tryd.results13, go_sem]) rfl ⟨A8, c8, rfl, own8, b8⟩
  · obtain ⟨g, cap, cur, hgv, hgb7, hcur⟩ := HKO.out (by rw [HMM.out]; omega)
    rw [HMM.out] at hgv
    injection hgv with hg1 hg2 hg3
    subst hg1
    clear hg2 hg3
    have HG7 := Lib.hid hgb7
    have HCUR := Lib.hid hcur
    clear hgb7 hcur HKO
    go_loopw [9, 50] (fun lv iv wr => ∃ (j m : Nat) (Lr : List Int) (A' : Option Addr) (n' c' : Nat) (D : List Value), lv = .slice A' n' c' ∧ iv = .int .i64 (j : Nat) ∧ j ≤ mm ∧ Hid (Lr.length = n') ∧ Hid (Lists w w.heap.size A' (intCells Lr)) ∧ n' ≤ c' ∧ n' ≤ n ∧ Hid (cs.drop j = cntsF nextP (mostC 1) m Lr) ∧ Hid (D ++ rgE 1 (cs.drop j) Lr = rgE 1 cs Lt) ∧ Hid (D.length = 3 * j) ∧ WS w wr p N4 (be1 1 ++ D) ∧ Blk wr kk 56 #[.pointer (some ⟨p, 0, none⟩)] ∧ Blk wr g 3 cur ∧ w.heap.size ≤ wr.heap.size) (fun _ iv _ => mm - (intOf iv).toNat)
    case atStart => exact ⟨0, n1, Lt, A1, n1, c1, [], rfl, rfl, Nat.zero_le _, HTL, HL1, by omega, by omega, HCS, Lib.hid rfl, Lib.hid rfl, HW7.out, HK7.out, HG7.out, HB7.out.size⟩
    case round =>
      obtain ⟨j, m, Lr, A', n', c', D, rfl, rfl, hj, hLr, hLi, hc', hnn', hdr, hby, hDl, hws, hkk, hko, hsw⟩ := hrel
      by_cases hlt : j < mm
      · have d1 : (j : Int) < (mm : Int) := by omega
        obtain ⟨x0, hx0⟩ : ∃ x, cs[j]? = some x := ⟨cs[j]'(by rw [HMM.out]; exact hlt), List.getElem?_eq_getElem _⟩
        have hdc : cs.drop j = x0 :: cs.drop (j + 1) := by rw [List.drop_eq_getElem_cons (by rw [HMM.out]; exact hlt)]; congr 1; rw [List.getElem?_eq_getElem (by rw [HMM.out]; exact hlt)] at hx0; exact Option.some.inj hx0
        have hstep := hdr.out
        rw [hdc] at hstep
        have hne : n' ≠ 0 := fun h => by rw [cntsF_nil (by rw [hLr.out]; exact h)] at hstep; cases hstep
        obtain ⟨m1, rfl⟩ : ∃ y, m = y + 1 := by
          cases m with
          | zero => cases hstep
          | succ y => exact ⟨y, rfl⟩
        rw [cntsF_more (by rw [hLr.out]; exact hne)] at hstep
        injection hstep with hs1 hs2
        have hrl := runN_le (P := nextP) (most := mostC 1) (L := Lr) (by rw [hLr.out]; omega) (by decide)
        rw [← hs1, hLr.out] at hrl
        rw [← hs1] at hs2
        obtain ⟨x, hxx, hxx2⟩ : ∃ x, x0 ≤ x + 1 ∧ x + 1 ≤ x0 := ⟨x0 - 1, by omega, by omega⟩
        have hx1 : x0 = x + 1 := by omega
        have hgb := hko
        have gx := HCUR.out j x0 hx0
        have gc : wr.cell? ⟨g, j, none⟩ = some (.int .i64 ((x : Int) + 1)) := by
          rw [hgb.cell j]
          rw [hx1] at gx
          simpa using gx
        obtain ⟨b', o', rfl, hbl', hcl0⟩ := hLi.out.plain (by intro e; have h2 := congrArg List.length e; rw [intCells_len, hLr.out] at h2; simp at h2; omega)
        have hcl' := fun u x hx => (hws.old.cell (p := ⟨b', o' + u, none⟩) hbl').trans (hcl0 u x hx)
        obtain ⟨r0, hr0⟩ : ∃ r0, Lr.getD 0 0 = r0 := ⟨_, rfl⟩
        have g0 : wr.cell? ⟨b', o', none⟩ = some (.int .i64 r0) := by
          have := hcl' 0 _ (intCells_atD (by rw [hLr.out]; omega))
          rw [hr0] at this
          simpa using this
        have hbw : b' < wr.heap.size := by omega
        have hgl2 := hgb.lt
        have SL : ∀ W, (Instr.sliceAt 24 (.slice (some ⟨b', o', none⟩) n' c') (some (.int .i64 ((x : Int) + 1))) none none).run Tryd.prog W = .ok (.slice (if c' = x + 1 then some (⟨b', o', none⟩ : Addr) else (some (⟨b', o', none⟩ : Addr)).map (·.add (x + 1))) (n' - (x + 1)) (c' - (x + 1))) W := fun W => slice_okI (some ⟨b', o', none⟩) n' c' (x + 1) (by omega) hc' W
        have hLd := lists_dropI hLi.out (x + 1) c' (by rw [hLr.out]; omega) (by rw [hLr.out]; exact hc')
        generalize (if c' = x + 1 then some (⟨b', o', none⟩ : Addr) else (some (⟨b', o', none⟩ : Addr)).map (·.add (x + 1))) = A2 at *
        have HLD := Lib.hid hLd
        have e0 : IntKind.i64.wrap (x : Int) = (x : Int) := IntWalk.i64_in _ (by omega)
        have n7 : 0 < n' := by omega
        have n7b : (0 : Int) < (n' : Int) := by omega
        have HD2 := Lib.hid (show cs.drop (j + 1) = cntsF nextP (mostC 1) m1 (Lr.drop (x + 1)) by rw [hs2, hx1])
        have HBY := Lib.hid (show (D ++ (be2 r0 ++ be1 (x : Nat))) ++ rgE 1 (cs.drop (j + 1)) (Lr.drop (x + 1)) = rgE 1 cs Lt by
          rw [← hby.out, hdc, List.append_assoc, hx1]
          show _ = D ++ (be2 (Lr.getD 0 0) ++ moreE 1 ((x + 1 - 1 : Nat) : Int) ++ rgE 1 (cs.drop (j + 1)) (Lr.drop (x + 1)))
          rw [hr0, Nat.add_sub_cancel]
          rfl)
        have HDL := hDl
        have HKO2 := Lib.hid hko
        have KK := hkk
        have HLR := hLr
        clear hdc hs1 hs2 hx0 hcl' hcl0 hLd hdr hby hr0 hgb gx hx1 hko
        go_wp2_with (first
          | (go_at_call 37; ((with_reducible refine (wsU16 w _ p N4 (be1 1 ++ D) r0 hws (by rw [List.length_append, HDL.out]; simp [be1]; omega) (by omega)).mono ?_); rintro e w5 ⟨rfl, h5, s5, z5⟩; have KO5 := s5 _ _ _ (by decide) (by decide) (by decide) HKO2.out; have KK5 := s5 _ _ _ (by decide) (by decide) (by decide) KK))
          | (go_at_call 33; ((with_reducible refine (wsU8 w _ p N4 ((be1 1 ++ D) ++ be2 r0) (x : Nat) h5 (by rw [List.length_append, List.length_append, HDL.out]; simp [be1, be2]; omega) (by omega)).mono ?_); rintro e w6 ⟨rfl, h6, s6, z6b⟩; have KO6 := s6 _ _ _ (by decide) (by decide) (by decide) KO5; have KK6 := s6 _ _ _ (by decide) (by decide) (by decide) KK5; have z6 := Nat.le_trans z5 z6b)))
        go_roundw
        case rel => exact ⟨j + 1, m1, Lr.drop (x + 1), A2, n' - (x + 1), c' - (x + 1), D ++ (be2 r0 ++ be1 (x : Nat)), rfl, by first | rfl | go_num, by omega, Lib.hid (by rw [List.length_drop, HLR.out]), HLD, by omega, by omega, HD2, HBY, Lib.hid (by rw [List.length_append, HDL.out]; simp [be1, be2]; omega), (by rw [← List.append_assoc, ← List.append_assoc]; exact h6), KK6, KO6, Nat.le_trans hsw z6⟩
        case measure => simp [intOf]; omega
      · have d1 : ¬ (j : Int) < (mm : Int) := by omega
        obtain rfl : j = mm := by omega
        have HF := Lib.hid (show D = rgE 1 cs Lt by have h := hby.out; rw [List.drop_of_length_le (by rw [HMM.out]; exact Nat.le_refl _)] at h; simpa [rgE] using h)
        have CD := wsDone w wr p N4 (be1 1 ++ D) hws (by omega)
        rw [HF.out] at CD
        clear hby hdr
        go_wp2_with (first | (go_at_call 38; ((with_reducible refine (CD).mono ?_); rintro e w8 ⟨A8, c8, rfl, own8, b8⟩)))
        exact bodyPost_ret (v := .tuple #[.slice A8 _ c8, .int .i64 0]) (by simp [results, Tryd.results13, go_sem]) rfl ⟨A8, c8, rfl, own8, b8⟩

end Go.Proofs.YteffijgajhngeaaDoor

namespace Go.Proofs.YteffijgajhngeaaDoor
open Go Go.RowKit
set_option linter.unusedVariables false
set_option linter.unusedSimpArgs false

set_option maxRecDepth 100000 in
set_option maxHeartbeats 4000000 in
theorem cput_2 (A : Option Addr) (c n : Nat) (L : List Int) (w : World) (hG : GL w) (hE : Lists w w.heap.size A (intCells L)) (hnn : L.length = n) (hc : n ≤ c) (hn1 : 1 ≤ n) (hn2 : n ≤ 65535) (h0 : L.getD 0 0 = 0) (hall : allB 0 65535 L = true) :
    Calls Tryd.prog 13 #[.slice A n c, .int .i64 2] w (Gave w (putC 2 L)) := by
  have CC := ccount_any (n : Nat) true (inB_yes (by omega) (by omega))
  have CW := fun W (hb : Below w.heap.size w W) => cwithin_any 0 65535 n w.heap.size A c L W hb.size (hE.below hb) hnn (by omega) true hall
  have CF := cformat_any 2 true (by decide)
  have CE := clen_any n (by omega)
  obtain ⟨N4, hN4⟩ : ∃ N4, 1 + 4 * n = N4 := ⟨_, rfl⟩
  rw [hN4] at CE
  obtain ⟨cs, hcs⟩ : ∃ cs, cnts nextP (mostC 2) L.tail = cs := ⟨_, rfl⟩
  have ee : Enters Tryd.prog 35 := enters_of Tryd.func35 (by kernel_rfl) rfl
  obtain ⟨b, o, rfl, hbl, hcl⟩ := hE.plain (by intro e; have h2 := congrArg List.length e; rw [intCells_len, hnn] at h2; simp at h2; omega)
  have hc0 : w.cell? ⟨b, o, none⟩ = some (.int .i64 0) := by
    have := hcl 0 _ (intCells_atD (by rw [hnn]; omega))
    rw [h0] at this
    simpa using this
  have htl : L.tail.length = n - 1 := by rw [List.length_tail, hnn]
  obtain ⟨n1, hn, hnb⟩ : ∃ n1, n1 + 1 ≤ n ∧ n ≤ n1 + 1 := ⟨n - 1, by omega, by omega⟩
  have SL0 : ∀ W, (Instr.sliceAt 24 (.slice (some ⟨b, o, none⟩) n c) (some (.int .i64 1)) none none).run Tryd.prog W = .ok (.slice (if c = 1 then some (⟨b, o, none⟩ : Addr) else (some (⟨b, o, none⟩ : Addr)).map (·.add 1)) (n - 1) (c - 1)) W := fun W => slice_okI (some ⟨b, o, none⟩) n c 1 (by omega) hc W
  have HLT := lists_dropI hE 1 c (by omega) (by omega)
  rw [show L.drop 1 = L.tail by simp] at HLT
  rw [show n - 1 = n1 by omega] at SL0 htl
  obtain ⟨c1, hc1⟩ : ∃ c1, c - 1 = c1 := ⟨_, rfl⟩
  rw [hc1] at SL0
  generalize (if c = 1 then some (⟨b, o, none⟩ : Addr) else (some (⟨b, o, none⟩ : Addr)).map (·.add 1)) = A1 at *
  have CR : ∀ W, Below w.heap.size w W → Calls Tryd.prog 36 #[.slice A1 n1 c1, .int .i64 65536, .func (.func 35) #[] #[]] W fun e w' => ∃ v, e = .returned v ∧ w'.ownsRow W.heap.size 3 1 v (cnts nextP (mostC 2) L.tail).length (intCells ((cnts nextP (mostC 2) L.tail).map Int.ofNat)) ∧ Below W.heap.size W w' := fun W hb => cranges_any 35 nextP w.heap.size A1 c1 n1 (mostC 2) L.tail W hb.size (HLT.below hb) htl (by omega) (by omega) (by decide) (by decide) ee cnext_any
  rw [hcs] at CR
  have hcl2 := cntsF_len (P := nextP) (most := mostC 2) (by decide) L.tail.length L.tail
  rw [show cntsF nextP (mostC 2) L.tail.length L.tail = cs from hcs, htl] at hcl2
  have HT := Lib.hid (show putC 2 L = be1 2 ++ rgE 2 cs L.tail by unfold putC; rw [hcs]; rfl)
  have HCS := Lib.hid (show cs = cntsF nextP (mostC 2) n1 L.tail by rw [← hcs, ← htl]; rfl)
  have HG := Lib.hid hG
  have HTL := Lib.hid htl
  have HL1 := Lib.hid HLT
  have HE := Lib.hid hE
  rw [HT.out]
  generalize L.tail = Lt at *
  obtain ⟨mm, hmm⟩ : ∃ mm, cs.length = mm := ⟨_, rfl⟩
  rw [hmm] at CR hcl2
  have HMM := Lib.hid hmm
  have CWR : ∀ p W, Calls Tryd.prog 34 #[.pointer (some ⟨p, 0, none⟩), .int .i64 2] W fun e w' => ∃ k, e = .returned (wmoreF 2 p k) ∧ Blk w' k 56 #[.pointer (some ⟨p, 0, none⟩)] ∧ Below W.heap.size W w' := fun p W => cwriting_any 2 (by decide) p W
  simp only [wmoreF] at CWR
  have hgl := HG.out.lt
  clear hG hE hall h0 hcl hcs htl HLT hmm ee hnn
  go_enter Tryd.func13, Tryd.ntmps13
  go_wp2_with (first
    | (go_at_call 21; ((with_reducible refine (CC _).mono ?_); rintro e w1 ⟨rfl, b1⟩; have g0 := (b1.cell (p := ⟨b, o, none⟩) hbl).trans hc0; have hl1 := Nat.lt_of_lt_of_le hbl b1.size))
    | (go_at_call 31; ((with_reducible refine (CW _ b1).mono ?_); rintro e w2 ⟨rfl, b2⟩; have B2 := b1.trans (b2.mono b1.size)))
    | (go_at_call 25; ((with_reducible refine (CF _).mono ?_); rintro e w3 ⟨rfl, b3⟩; have B3 := B2.trans (b3.mono B2.size)))
    | (go_at_call 23; ((with_reducible refine (CE _).mono ?_); rintro e w3 ⟨rfl, rfl⟩))
    | (go_at_call 32; ((with_reducible refine (wsTo w _ N4 B3).mono ?_); rintro e w4 ⟨p, rfl, h4, b4⟩; have B4 := B3.trans (b4.mono B3.size)))
    | (go_at_call 33; ((with_reducible refine (wsU8 w _ p N4 [] 2 h4 (by simp [be1]; omega) (by omega)).mono ?_); rintro e w5 ⟨rfl, h5, s5, z5⟩; have B5 := h5.old))
    | (go_at_call 34; ((with_reducible refine (CWR p _).mono ?_); rintro e w6 ⟨kk, rfl, K6, b6⟩; have B6 := B5.trans (b6.mono B5.size); have h6 := h5.below b6; have gm := (HG.out.below B6).c2; have gml := Nat.lt_of_lt_of_le hgl B6.size))
    | (go_at_call 36; ((with_reducible refine (CR _ B6).mono ?_); rintro e w7 ⟨v7, rfl, own7, b7⟩; have B7 := B6.trans (b7.mono B6.size); have h7 := h6.below b7; have K7 := K6.below b7; obtain ⟨A7, c7, rfl, ql7, _⟩ := own_lists own7; clear ql7; have KO7 := cntAt_of (cs := cs) (by rw [HMM.out]; exact own7))))
  have HW7 := Lib.hid (show WS w w7 p N4 (be1 2 ++ []) from by rw [List.append_nil]; exact h7)
  have HK7 := Lib.hid K7
  have HKO := Lib.hid KO7
  have HB7 := Lib.hid B7
  clear h4 h5 h6 h7 K6 K7 KO7 s5 z5 B2 B3 B4 B5 B6 b1 b2 b3 b4 b6 b7 own7 gm g0 hl1 CC CW CF CE CR CWR
  by_cases hm0 : mm = 0
  · subst hm0
    have hcs0 : cs = [] := List.eq_nil_of_length_eq_zero HMM.out
    have CD := wsDone w w7 p N4 (be1 2 ++ []) HW7.out (by omega)
    rw [show be1 2 ++ [] = be1 2 ++ rgE 2 cs Lt by rw [hcs0]; rfl] at CD
    clear hcs0
    refine wp_loop_rounds 1 ?_
    rw [rounds_succ]
    go_wp2_with (first | (go_at_call 38; ((with_reducible refine (CD).mono ?_); rintro e w8 ⟨A8, c8, rfl, own8, b8⟩)))
    exact bodyPost_ret (v := .tuple #[.slice A8 _ c8, .int .i64 0]) (by simp [results, Tryd.results13, go_sem]) rfl ⟨A8, c8, rfl, own8, b8⟩
  · obtain ⟨g, cap, cur, hgv, hgb7, hcur⟩ := HKO.out (by rw [HMM.out]; omega)
    rw [HMM.out] at hgv
    injection hgv with hg1 hg2 hg3
    subst hg1
    clear hg2 hg3
    have HG7 := Lib.hid hgb7
    have HCUR := Lib.hid hcur
    clear hgb7 hcur HKO
    go_loopw [9, 50] (fun lv iv wr => ∃ (j m : Nat) (Lr : List Int) (A' : Option Addr) (n' c' : Nat) (D : List Value), lv = .slice A' n' c' ∧ iv = .int .i64 (j : Nat) ∧ j ≤ mm ∧ Hid (Lr.length = n') ∧ Hid (Lists w w.heap.size A' (intCells Lr)) ∧ n' ≤ c' ∧ n' ≤ n ∧ Hid (cs.drop j = cntsF nextP (mostC 2) m Lr) ∧ Hid (D ++ rgE 2 (cs.drop j) Lr = rgE 2 cs Lt) ∧ Hid (D.length = 4 * j) ∧ WS w wr p N4 (be1 2 ++ D) ∧ Blk wr kk 56 #[.pointer (some ⟨p, 0, none⟩)] ∧ Blk wr g 3 cur ∧ w.heap.size ≤ wr.heap.size) (fun _ iv _ => mm - (intOf iv).toNat)
    case atStart => exact ⟨0, n1, Lt, A1, n1, c1, [], rfl, rfl, Nat.zero_le _, HTL, HL1, by omega, by omega, HCS, Lib.hid rfl, Lib.hid rfl, HW7.out, HK7.out, HG7.out, HB7.out.size⟩
    case round =>
      obtain ⟨j, m, Lr, A', n', c', D, rfl, rfl, hj, hLr, hLi, hc', hnn', hdr, hby, hDl, hws, hkk, hko, hsw⟩ := hrel
      by_cases hlt : j < mm
      · have d1 : (j : Int) < (mm : Int) := by omega
        obtain ⟨x0, hx0⟩ : ∃ x, cs[j]? = some x := ⟨cs[j]'(by rw [HMM.out]; exact hlt), List.getElem?_eq_getElem _⟩
        have hdc : cs.drop j = x0 :: cs.drop (j + 1) := by rw [List.drop_eq_getElem_cons (by rw [HMM.out]; exact hlt)]; congr 1; rw [List.getElem?_eq_getElem (by rw [HMM.out]; exact hlt)] at hx0; exact Option.some.inj hx0
        have hstep := hdr.out
        rw [hdc] at hstep
        have hne : n' ≠ 0 := fun h => by rw [cntsF_nil (by rw [hLr.out]; exact h)] at hstep; cases hstep
        obtain ⟨m1, rfl⟩ : ∃ y, m = y + 1 := by
          cases m with
          | zero => cases hstep
          | succ y => exact ⟨y, rfl⟩
        rw [cntsF_more (by rw [hLr.out]; exact hne)] at hstep
        injection hstep with hs1 hs2
        have hrl := runN_le (P := nextP) (most := mostC 2) (L := Lr) (by rw [hLr.out]; omega) (by decide)
        rw [← hs1, hLr.out] at hrl
        rw [← hs1] at hs2
        obtain ⟨x, hxx, hxx2⟩ : ∃ x, x0 ≤ x + 1 ∧ x + 1 ≤ x0 := ⟨x0 - 1, by omega, by omega⟩
        have hx1 : x0 = x + 1 := by omega
        have hgb := hko
        have gx := HCUR.out j x0 hx0
        have gc : wr.cell? ⟨g, j, none⟩ = some (.int .i64 ((x : Int) + 1)) := by
          rw [hgb.cell j]
          rw [hx1] at gx
          simpa using gx
        obtain ⟨b', o', rfl, hbl', hcl0⟩ := hLi.out.plain (by intro e; have h2 := congrArg List.length e; rw [intCells_len, hLr.out] at h2; simp at h2; omega)
        have hcl' := fun u x hx => (hws.old.cell (p := ⟨b', o' + u, none⟩) hbl').trans (hcl0 u x hx)
        obtain ⟨r0, hr0⟩ : ∃ r0, Lr.getD 0 0 = r0 := ⟨_, rfl⟩
        have g0 : wr.cell? ⟨b', o', none⟩ = some (.int .i64 r0) := by
          have := hcl' 0 _ (intCells_atD (by rw [hLr.out]; omega))
          rw [hr0] at this
          simpa using this
        have hbw : b' < wr.heap.size := by omega
        have hgl2 := hgb.lt
        have SL : ∀ W, (Instr.sliceAt 24 (.slice (some ⟨b', o', none⟩) n' c') (some (.int .i64 ((x : Int) + 1))) none none).run Tryd.prog W = .ok (.slice (if c' = x + 1 then some (⟨b', o', none⟩ : Addr) else (some (⟨b', o', none⟩ : Addr)).map (·.add (x + 1))) (n' - (x + 1)) (c' - (x + 1))) W := fun W => slice_okI (some ⟨b', o', none⟩) n' c' (x + 1) (by omega) hc' W
        have hLd := lists_dropI hLi.out (x + 1) c' (by rw [hLr.out]; omega) (by rw [hLr.out]; exact hc')
        generalize (if c' = x + 1 then some (⟨b', o', none⟩ : Addr) else (some (⟨b', o', none⟩ : Addr)).map (·.add (x + 1))) = A2 at *
        have HLD := Lib.hid hLd
        have e0 : IntKind.i64.wrap (x : Int) = (x : Int) := IntWalk.i64_in _ (by omega)
        have n7 : 0 < n' := by omega
        have n7b : (0 : Int) < (n' : Int) := by omega
        have HD2 := Lib.hid (show cs.drop (j + 1) = cntsF nextP (mostC 2) m1 (Lr.drop (x + 1)) by rw [hs2, hx1])
        have HBY := Lib.hid (show (D ++ (be2 r0 ++ be2 (x : Nat))) ++ rgE 2 (cs.drop (j + 1)) (Lr.drop (x + 1)) = rgE 2 cs Lt by
          rw [← hby.out, hdc, List.append_assoc, hx1]
          show _ = D ++ (be2 (Lr.getD 0 0) ++ moreE 2 ((x + 1 - 1 : Nat) : Int) ++ rgE 2 (cs.drop (j + 1)) (Lr.drop (x + 1)))
          rw [hr0, Nat.add_sub_cancel]
          rfl)
        have HDL := hDl
        have HKO2 := Lib.hid hko
        have KK := hkk
        have HLR := hLr
        clear hdc hs1 hs2 hx0 hcl' hcl0 hLd hdr hby hr0 hgb gx hx1 hko
        go_wp2_with (first
          | (go_at_call 37; ((with_reducible refine (wsU16 w _ p N4 (be1 2 ++ D) r0 hws (by rw [List.length_append, HDL.out]; simp [be1]; omega) (by omega)).mono ?_); rintro e w5 ⟨rfl, h5, s5, z5⟩; have KO5 := s5 _ _ _ (by decide) (by decide) (by decide) HKO2.out; have KK5 := s5 _ _ _ (by decide) (by decide) (by decide) KK))
          | (go_at_call 37; ((with_reducible refine (wsU16 w _ p N4 ((be1 2 ++ D) ++ be2 r0) (x : Nat) h5 (by rw [List.length_append, List.length_append, HDL.out]; simp [be1, be2]; omega) (by omega)).mono ?_); rintro e w6 ⟨rfl, h6, s6, z6b⟩; have KO6 := s6 _ _ _ (by decide) (by decide) (by decide) KO5; have KK6 := s6 _ _ _ (by decide) (by decide) (by decide) KK5; have z6 := Nat.le_trans z5 z6b)))
        go_roundw
        case rel => exact ⟨j + 1, m1, Lr.drop (x + 1), A2, n' - (x + 1), c' - (x + 1), D ++ (be2 r0 ++ be2 (x : Nat)), rfl, by first | rfl | go_num, by omega, Lib.hid (by rw [List.length_drop, HLR.out]), HLD, by omega, by omega, HD2, HBY, Lib.hid (by rw [List.length_append, HDL.out]; simp [be1, be2]; omega), (by rw [← List.append_assoc, ← List.append_assoc]; exact h6), KK6, KO6, Nat.le_trans hsw z6⟩
        case measure => simp [intOf]; omega
      · have d1 : ¬ (j : Int) < (mm : Int) := by omega
        obtain rfl : j = mm := by omega
        have HF := Lib.hid (show D = rgE 2 cs Lt by have h := hby.out; rw [List.drop_of_length_le (by rw [HMM.out]; exact Nat.le_refl _)] at h; simpa [rgE] using h)
        have CD := wsDone w wr p N4 (be1 2 ++ D) hws (by omega)
        rw [HF.out] at CD
        clear hby hdr
        go_wp2_with (first | (go_at_call 38; ((with_reducible refine (CD).mono ?_); rintro e w8 ⟨A8, c8, rfl, own8, b8⟩)))
        exact bodyPost_ret (v := .tuple #[.slice A8 _ c8, .int .i64 0]) (by simp [results, Tryd.results13, go_sem]) rfl ⟨A8, c8, rfl, own8, b8⟩

end Go.Proofs.YteffijgajhngeaaDoor
