/- Part 9 of the proof: CvM. -/
import Derived.Test.YtngfillgndhfbaaCCv7

namespace Go.Proofs.Ytngfillgndhfbaa
open Go Go.RowKit
set_option linter.unusedVariables false
set_option linter.unusedSimpArgs false

theorem near_mul (a q : Int) (h : 1 ≤ q) : near (q * a) q = a := by
  have h2 := near_spec (q * a) q h
  have e : near (q * a) q * q = q * near (q * a) q := Int.mul_comm _ _
  rw [e, ← Int.mul_sub] at h2
  obtain ⟨h3, h4⟩ := h2
  generalize near (q * a) q = z at *
  obtain ⟨x, hx⟩ : ∃ x, x = a - z := ⟨_, rfl⟩
  rw [← hx] at h3 h4
  have hx0 : x = 0 := by
    by_cases h5 : x ≤ -1
    · have := Int.mul_le_mul_of_nonneg_left h5 (show 0 ≤ q by omega)
      omega
    · by_cases h6 : 1 ≤ x
      · have := Int.mul_le_mul_of_nonneg_left h6 (show 0 ≤ q by omega)
        omega
      · omega
  omega
theorem sq_pos {n : Int} (h : 1 ≤ n) : 1 ≤ n * n := by
  have := Int.mul_le_mul (a := 1) (b := 1) (c := n) (d := n) h h (by omega) (by omega)
  omega
theorem cu_pos {n : Int} (h : 1 ≤ n) : 1 ≤ n * n * n := by
  have := Int.mul_le_mul (a := 1) (b := 1) (c := n * n) (d := n) (sq_pos h) h (by omega) (by have := sq_pos h; omega)
  omega
theorem at1_0 (kd n a b c d : Int) (h : 1 ≤ n) : at1 kd (n - 0) 0 n a b c d = a := by
  unfold at1
  rw [Int.sub_zero]
  split
  · rw [show n * n * a + 2 * 0 * n * b + 0 * 0 * d = n * n * a by grind]; exact near_mul _ _ (sq_pos h)
  · split
    · rw [show n * n * n * a + 3 * 0 * n * n * b + 3 * 0 * 0 * n * c + 0 * 0 * 0 * d = n * n * n * a by grind]; exact near_mul _ _ (cu_pos h)
    · rw [show n * a + 0 * d = n * a by grind]; exact near_mul _ _ h
theorem at1_n (kd n a b c d : Int) (h : 1 ≤ n) : at1 kd (n - n) n n a b c d = d := by
  unfold at1
  rw [Int.sub_self]
  split
  · rw [show 0 * 0 * a + 2 * n * 0 * b + n * n * d = n * n * d by grind]; exact near_mul _ _ (sq_pos h)
  · split
    · rw [show 0 * 0 * 0 * a + 3 * n * 0 * 0 * b + 3 * n * n * 0 * c + n * n * n * d = n * n * n * d by grind]; exact near_mul _ _ (cu_pos h)
    · rw [show 0 * a + n * d = n * d by grind]; exact near_mul _ _ h
theorem atW_0 (c : Bw) (n : Int) (h : 1 ≤ n) : (atW c 0 n).1 = c.xa ∧ (atW c 0 n).2 = c.ya := ⟨at1_0 _ _ _ _ _ _ h, at1_0 _ _ _ _ _ _ h⟩
theorem atW_n (c : Bw) (n : Int) (h : 1 ≤ n) : (atW c n n).1 = c.xd ∧ (atW c n n).2 = c.yd := ⟨at1_n _ _ _ _ _ _ h, at1_n _ _ _ _ _ _ h⟩

/-- The other way round. -/
theorem trn_ends (c : Bw) : (trn c).xa = c.xd ∧ (trn c).ya = c.yd ∧ (trn c).xd = c.xa ∧ (trn c).yd = c.ya ∧ (trn c).k = c.k := by
  unfold trn
  split
  · exact ⟨rfl, rfl, rfl, rfl, rfl⟩
  · split <;> exact ⟨rfl, rfl, rfl, rfl, rfl⟩
theorem mayW_trn (c : Bw) : mayW (trn c) = mayW c := by
  obtain ⟨k, xa, ya, xb, yb, xc, yc, xd, yd⟩ := c
  rcases kinds k with rfl | rfl | rfl | ⟨h1, h2, h3⟩
  · simp [trn, mayW, plc]; grind
  · simp [trn, mayW, plc]; grind
  · simp [trn, mayW, plc]; grind
  · have h2' : ¬ k = 2 := by simpa using h2
    have h3' : ¬ k = 3 := by simpa using h3
    unfold mayW
    rw [plc_0 (c := trn ⟨k, xa, ya, xb, yb, xc, yc, xd, yd⟩) (by simpa [trn, h2', h3'] using h1) (by simp [trn, h2', h3']) (by simp [trn, h2', h3']), plc_0 (c := ⟨k, xa, ya, xb, yb, xc, yc, xd, yd⟩) h1 h2 h3]
theorem bnd_sym (a b d : Int) : bnd d b a = bnd a b d := by unfold bnd; omega
theorem bnW_trn (c : Bw) : bnW (trn c) = bnW c := by
  unfold bnW
  rw [mayW_trn]
  obtain ⟨k, xa, ya, xb, yb, xc, yc, xd, yd⟩ := c
  rcases kinds k with rfl | rfl | rfl | ⟨h1, h2, h3⟩
  · rfl
  · simp only [trn]
    simp [bnd_sym xa, bnd_sym ya]
  · simp only [trn]
    simp [bnd_sym xa, bnd_sym ya, bnd_sym xb, bnd_sym yb, m3_eq]
    split <;> omega
  · have h2' : ¬ k = 2 := by simpa using h2
    have h3' : ¬ k = 3 := by simpa using h3
    simp [trn, h2', h3']
theorem pcW_trn (c : Bw) : pcW (trn c) = pcW c := by
  unfold pcW need
  rw [mayW_trn, bnW_trn, (trn_ends c).2.2.2.2]

/-- A mean that lies near the mean of two. -/
theorem flat_of {N M A B m a b q : Int} (hN : 1 ≤ N) (hM : -(q * N) ≤ 2 * (M - m * (q * N)) ∧ 2 * (M - m * (q * N)) ≤ q * N) (hA : -N ≤ 2 * (A - a * N) ∧ 2 * (A - a * N) ≤ N) (hB : -N ≤ 2 * (B - b * N) ∧ 2 * (B - b * N) ≤ N) (hq : 2 ≤ q)
    (hs : -(4 * q * N) ≤ 2 * M - q * A - q * B ∧ 2 * M - q * A - q * B ≤ 4 * q * N) : -6 ≤ 2 * m - a - b ∧ 2 * m - a - b ≤ 6 := by
  have e1 : m * (q * N) = q * (m * N) := by grind
  have e2 : q * N = q * N := rfl
  rw [e1] at hM
  have hA1 := Int.mul_le_mul_of_nonneg_left hA.1 (show 0 ≤ q by omega)
  have hA2 := Int.mul_le_mul_of_nonneg_left hA.2 (show 0 ≤ q by omega)
  have hB1 := Int.mul_le_mul_of_nonneg_left hB.1 (show 0 ≤ q by omega)
  have hB2 := Int.mul_le_mul_of_nonneg_left hB.2 (show 0 ≤ q by omega)
  have f1 : q * (2 * (A - a * N)) = 2 * (q * A) - 2 * (q * (a * N)) := by grind
  have f2 : q * (2 * (B - b * N)) = 2 * (q * B) - 2 * (q * (b * N)) := by grind
  have f3 : q * -N = -(q * N) := by grind
  have f4 : 4 * q * N = 4 * (q * N) := by grind
  rw [f1, f3] at hA1
  rw [f1] at hA2
  rw [f2, f3] at hB1
  rw [f2] at hB2
  rw [f4] at hs
  have g : (2 * m - a - b) * (q * N) = 2 * (q * (m * N)) - q * (a * N) - q * (b * N) := by grind
  have p : 0 < q * N := Int.mul_pos (by omega) (by omega)
  generalize q * (m * N) = x at *
  generalize q * (a * N) = y at *
  generalize q * (b * N) = z at *
  generalize q * A = u at *
  generalize q * B = v at *
  generalize q * N = r at *
  constructor
  · have : -6 * r ≤ (2 * m - a - b) * r := by rw [g]; omega
    exact Int.le_of_mul_le_mul_right this p
  · have : (2 * m - a - b) * r ≤ 6 * r := by rw [g]; omega
    exact Int.le_of_mul_le_mul_right this p
theorem near_two (M q : Int) (h : 1 ≤ q) : -q ≤ 2 * (M - near M q * q) ∧ 2 * (M - near M q * q) ≤ q := by
  have := near_spec M q h
  omega
theorem flat_1 (n i a d : Int) (n1 : 1 ≤ n) :
    -6 ≤ 2 * near ((2 * n - (2 * i + 1)) * a + (2 * i + 1) * d) (2 * n) - near ((n - i) * a + i * d) n - near ((n - (i + 1)) * a + (i + 1) * d) n ∧
    2 * near ((2 * n - (2 * i + 1)) * a + (2 * i + 1) * d) (2 * n) - near ((n - i) * a + i * d) n - near ((n - (i + 1)) * a + (i + 1) * d) n ≤ 6 := by
  refine flat_of (N := n) (q := 2) n1 (near_two _ _ (by omega)) (near_two _ _ n1) (near_two _ _ n1) (by omega) ?_
  have e : 2 * ((2 * n - (2 * i + 1)) * a + (2 * i + 1) * d) - 2 * ((n - i) * a + i * d) - 2 * ((n - (i + 1)) * a + (i + 1) * d) = 0 := by grind
  rw [e]
  omega
theorem flat_2 (n i a b d : Int) (n1 : 1 ≤ n) (hs : -(8 * n * n) ≤ a - 2 * b + d ∧ a - 2 * b + d ≤ 8 * n * n) :
    -6 ≤ 2 * near ((2 * n - (2 * i + 1)) * (2 * n - (2 * i + 1)) * a + 2 * (2 * i + 1) * (2 * n - (2 * i + 1)) * b + (2 * i + 1) * (2 * i + 1) * d) (2 * n * (2 * n)) - near ((n - i) * (n - i) * a + 2 * i * (n - i) * b + i * i * d) (n * n) - near ((n - (i + 1)) * (n - (i + 1)) * a + 2 * (i + 1) * (n - (i + 1)) * b + (i + 1) * (i + 1) * d) (n * n) ∧
    2 * near ((2 * n - (2 * i + 1)) * (2 * n - (2 * i + 1)) * a + 2 * (2 * i + 1) * (2 * n - (2 * i + 1)) * b + (2 * i + 1) * (2 * i + 1) * d) (2 * n * (2 * n)) - near ((n - i) * (n - i) * a + 2 * i * (n - i) * b + i * i * d) (n * n) - near ((n - (i + 1)) * (n - (i + 1)) * a + 2 * (i + 1) * (n - (i + 1)) * b + (i + 1) * (i + 1) * d) (n * n) ≤ 6 := by
  have h4 : 2 * n * (2 * n) = 4 * (n * n) := by grind
  rw [h4]
  have hp := sq_pos n1
  refine flat_of (N := n * n) (q := 4) hp (near_two _ _ (by omega)) (near_two _ _ hp) (near_two _ _ hp) (by omega) ?_
  have e : 2 * ((2 * n - (2 * i + 1)) * (2 * n - (2 * i + 1)) * a + 2 * (2 * i + 1) * (2 * n - (2 * i + 1)) * b + (2 * i + 1) * (2 * i + 1) * d) - 4 * ((n - i) * (n - i) * a + 2 * i * (n - i) * b + i * i * d) - 4 * ((n - (i + 1)) * (n - (i + 1)) * a + 2 * (i + 1) * (n - (i + 1)) * b + (i + 1) * (i + 1) * d) = -2 * (a - 2 * b + d) := by grind
  rw [e]
  have e8 : 8 * n * n = 8 * (n * n) := by grind
  rw [e8] at hs
  omega
theorem flat_3 (n i a b c d : Int) (n1 : 1 ≤ n) (i0 : 0 ≤ i) (hin : i < n) (hs : -(8 * n * n) ≤ 3 * (a - 2 * b + c) ∧ 3 * (a - 2 * b + c) ≤ 8 * n * n) (ht : -(8 * n * n) ≤ 3 * (b - 2 * c + d) ∧ 3 * (b - 2 * c + d) ≤ 8 * n * n) {k2 j2 k j k1 j1 : Int}
    (h1 : k2 = 2 * n - (2 * i + 1)) (h2 : j2 = 2 * i + 1) (h3 : k = n - i) (h4 : j = i) (h5 : k1 = n - (i + 1)) (h6 : j1 = i + 1) :
    -6 ≤ 2 * near (k2 * k2 * k2 * a + 3 * j2 * k2 * k2 * b + 3 * j2 * j2 * k2 * c + j2 * j2 * j2 * d) (2 * n * (2 * n) * (2 * n)) - near (k * k * k * a + 3 * j * k * k * b + 3 * j * j * k * c + j * j * j * d) (n * n * n) - near (k1 * k1 * k1 * a + 3 * j1 * k1 * k1 * b + 3 * j1 * j1 * k1 * c + j1 * j1 * j1 * d) (n * n * n) ∧
    2 * near (k2 * k2 * k2 * a + 3 * j2 * k2 * k2 * b + 3 * j2 * j2 * k2 * c + j2 * j2 * j2 * d) (2 * n * (2 * n) * (2 * n)) - near (k * k * k * a + 3 * j * k * k * b + 3 * j * j * k * c + j * j * j * d) (n * n * n) - near (k1 * k1 * k1 * a + 3 * j1 * k1 * k1 * b + 3 * j1 * j1 * k1 * c + j1 * j1 * j1 * d) (n * n * n) ≤ 6 := by
  have h8 : 2 * n * (2 * n) * (2 * n) = 8 * (n * n * n) := by grind
  rw [h8]
  have hp := cu_pos n1
  refine flat_of (N := n * n * n) (q := 8) hp (near_two _ _ (by omega)) (near_two _ _ hp) (near_two _ _ hp) (by omega) ?_
  have e : 2 * (k2 * k2 * k2 * a + 3 * j2 * k2 * k2 * b + 3 * j2 * j2 * k2 * c + j2 * j2 * j2 * d) - 8 * (k * k * k * a + 3 * j * k * k * b + 3 * j * j * k * c + j * j * j * d) - 8 * (k1 * k1 * k1 * a + 3 * j1 * k1 * k1 * b + 3 * j1 * j1 * k1 * c + j1 * j1 * j1 * d) = -2 * (k2 * (3 * (a - 2 * b + c)) + j2 * (3 * (b - 2 * c + d))) := by
    subst h1 h2 h3 h4 h5 h6
    grind
  rw [e]
  have a1 := Int.mul_le_mul_of_nonneg_left hs.1 (show 0 ≤ k2 by omega)
  have a2 := Int.mul_le_mul_of_nonneg_left hs.2 (show 0 ≤ k2 by omega)
  have b1 := Int.mul_le_mul_of_nonneg_left ht.1 (show 0 ≤ j2 by omega)
  have b2 := Int.mul_le_mul_of_nonneg_left ht.2 (show 0 ≤ j2 by omega)
  have f : k2 * (8 * n * n) + j2 * (8 * n * n) = 16 * (n * n * n) := by subst h1 h2; grind
  have f2 : k2 * -(8 * n * n) = -(k2 * (8 * n * n)) := by grind
  have f3 : j2 * -(8 * n * n) = -(j2 * (8 * n * n)) := by grind
  rw [f2] at a1
  rw [f3] at b1
  generalize k2 * (3 * (a - 2 * b + c)) = u at *
  generalize j2 * (3 * (b - 2 * c + d)) = v at *
  generalize k2 * (8 * n * n) = p at *
  generalize j2 * (8 * n * n) = q at *
  generalize n * n * n = r at *
  omega
/-- P20.3, of one number. -/
theorem bowflat_at {kd n i a b c d : Int} (n1 : 1 ≤ n) (i0 : 0 ≤ i) (hin : i < n) (h2 : kd = 2 → -(8 * n * n) ≤ a - 2 * b + d ∧ a - 2 * b + d ≤ 8 * n * n) (h3 : kd = 3 → (-(8 * n * n) ≤ 3 * (a - 2 * b + c) ∧ 3 * (a - 2 * b + c) ≤ 8 * n * n) ∧ (-(8 * n * n) ≤ 3 * (b - 2 * c + d) ∧ 3 * (b - 2 * c + d) ≤ 8 * n * n)) :
    -6 ≤ 2 * at1 kd (2 * n - (2 * i + 1)) (2 * i + 1) (2 * n) a b c d - at1 kd (n - i) i n a b c d - at1 kd (n - (i + 1)) (i + 1) n a b c d ∧
    2 * at1 kd (2 * n - (2 * i + 1)) (2 * i + 1) (2 * n) a b c d - at1 kd (n - i) i n a b c d - at1 kd (n - (i + 1)) (i + 1) n a b c d ≤ 6 := by
  unfold at1
  by_cases k2 : kd = 2
  · rw [if_pos k2, if_pos k2, if_pos k2]
    exact flat_2 n i a b d n1 (h2 k2)
  · rw [if_neg k2, if_neg k2, if_neg k2]
    by_cases k3 : kd = 3
    · rw [if_pos k3, if_pos k3, if_pos k3]
      exact flat_3 n i a b c d n1 i0 hin (h3 k3).1 (h3 k3).2 rfl rfl rfl rfl rfl rfl
    · rw [if_neg k3, if_neg k3, if_neg k3]
      exact flat_1 n i a d n1
theorem bnd_in {a b d e : Int} (h : bnd a b d ≤ e) : -e ≤ a - 2 * b + d ∧ a - 2 * b + d ≤ e := by unfold bnd at h; omega
theorem flat_both (c : Bw) (h : mayW c = true) {n i : Int} (n1 : 1 ≤ n) (i0 : 0 ≤ i) (hin : i < n) (hn : need c ≤ 8 * n * n) :
    (-6 ≤ 2 * (atW c (2 * i + 1) (2 * n)).1 - (atW c i n).1 - (atW c (i + 1) n).1 ∧ 2 * (atW c (2 * i + 1) (2 * n)).1 - (atW c i n).1 - (atW c (i + 1) n).1 ≤ 6) ∧
    (-6 ≤ 2 * (atW c (2 * i + 1) (2 * n)).2 - (atW c i n).2 - (atW c (i + 1) n).2 ∧ 2 * (atW c (2 * i + 1) (2 * n)).2 - (atW c i n).2 - (atW c (i + 1) n).2 ≤ 6) := by
  unfold need bnW at hn
  rw [if_pos h] at hn
  obtain ⟨k, xa, ya, xb, yb, xc, yc, xd, yd⟩ := c
  dsimp only at hn
  refine ⟨bowflat_at n1 i0 hin ?_ ?_, bowflat_at n1 i0 hin ?_ ?_⟩
  · intro e
    dsimp only at e
    subst e
    rw [if_neg (by decide), if_pos rfl, m3_eq] at hn
    dsimp only
    exact bnd_in (by omega)
  · intro e
    dsimp only at e
    subst e
    rw [if_pos rfl, if_neg (by decide), if_pos rfl, m3_eq, m3_eq] at hn
    dsimp only
    have a1 := bnd_in (a := xa) (b := xb) (d := xc) (Int.le_refl _)
    have a2 := bnd_in (a := xb) (b := xc) (d := xd) (Int.le_refl _)
    omega
  · intro e
    dsimp only at e
    subst e
    rw [if_neg (by decide), if_pos rfl, m3_eq] at hn
    dsimp only
    exact bnd_in (by omega)
  · intro e
    dsimp only at e
    subst e
    rw [if_pos rfl, if_neg (by decide), if_pos rfl, m3_eq, m3_eq] at hn
    dsimp only
    have a1 := bnd_in (a := ya) (b := yb) (d := yc) (Int.le_refl _)
    have a2 := bnd_in (a := yb) (b := yc) (d := yd) (Int.le_refl _)
    omega
end Go.Proofs.Ytngfillgndhfbaa
