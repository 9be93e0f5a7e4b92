/- Part 11 of the proof: LrU. -/
import Derived.Test.YtaaboochologaaaCLr9

namespace Go.Proofs.Ytaaboochologaaa
open Go Go.RowKit
set_option linter.unusedVariables false
set_option linter.unusedSimpArgs false

theorem shrE_same {c : Int} (hc : 0 < c) : ∀ (l : List En) (m : Int), 0 ≤ m → (∀ e ∈ l, costE e = c) → shrE m l = l.take (m / c).toNat
  | [], m, hm, h => by simp [shrE]
  | e :: l, m, hm, h => by
    have he : costE e = c := h e (by simp)
    rw [shrE, he]
    by_cases hle : c ≤ m
    · rw [if_pos hle, shrE_same hc l (m - c) (by omega) (fun x hx => h x (by simp [hx]))]
      have e1 : m / c = (m - c) / c + 1 := by
        have := Int.add_mul_ediv_right (m - c) 1 (Int.ne_of_gt hc)
        rw [Int.one_mul, Int.sub_add_cancel] at this
        exact this
      have e2 : 0 ≤ (m - c) / c := Int.ediv_nonneg (by omega) (by omega)
      rw [e1, show ((m - c) / c + 1).toNat = ((m - c) / c).toNat + 1 by omega, List.take_succ_cons]
    · rw [if_neg hle, Int.ediv_eq_zero_of_lt hm (by omega)]
      rfl
def enF (n : Nat) (i : Nat) : En := (kyN (i : Int), ⟨0, 0, (n : Int), 1⟩, repL n (i : Int))
def revF (n : Nat) : Nat → List En
  | 0 => []
  | i + 1 => enF n i :: revF n i
theorem revF_len (n : Nat) : ∀ i, (revF n i).length = i
  | 0 => rfl
  | i + 1 => by simp [revF, revF_len n i]
theorem revF_key (n : Nat) : ∀ i, ∀ e ∈ revF n i, ∃ j, j < i ∧ e = enF n j
  | 0, e, h => by simp [revF] at h
  | i + 1, e, h => by
    rcases List.mem_cons.1 h with rfl | h
    · exact ⟨i, by omega, rfl⟩
    · obtain ⟨j, hj, he⟩ := revF_key n i e h
      exact ⟨j, by omega, he⟩
theorem revF_get (n : Nat) : ∀ i j, j < i → (revF n i)[j]? = some (enF n (i - 1 - j))
  | 0, j, h => by omega
  | i + 1, 0, h => by simp [revF]
  | i + 1, j + 1, h => by
    rw [revF, List.getElem?_cons_succ, revF_get n i j (by omega)]
    congr 2
    omega
theorem chk_one (n : Nat) (h : 1 ≤ n ∧ n ≤ 300) : chkB ⟨0, 0, (n : Int), 1⟩ n = true := by
  have e : emptyQ ⟨0, 0, (n : Int), 1⟩ = false := by simp [emptyQ]; omega
  have a : areaQ ⟨0, 0, (n : Int), 1⟩ = (n : Int) := by unfold areaQ; rw [e]; simp
  have i4 : in4 ⟨0, 0, (n : Int), 1⟩ = true := by unfold in4 inZ; simp; omega
  unfold chkB msB
  rw [a, e, i4]
  simp
  omega
theorem chkC_one (n : Nat) (h : 1 ≤ n ∧ n ≤ 300) : chkC ⟨0, 0, (n : Int), 1⟩ n = 0 := by unfold chkC; rw [chk_one n h]; rfl
theorem full_step (bud : Int) (hb : 0 ≤ bud) (n : Nat) (h : 1 ≤ n ∧ n ≤ 300) (i : Nat) : lputL bud ((revF n i).take (bud / (64 + (n : Int))).toNat) (kyN (i : Int)) ⟨0, 0, (n : Int), 1⟩ n (repL n (i : Int)) = (revF n (i + 1)).take (bud / (64 + (n : Int))).toNat := by
  have hc : (0 : Int) < 64 + (n : Int) := by omega
  have hd : dropE (kyN (i : Int)) ((revF n i).take (bud / (64 + (n : Int))).toNat) = (revF n i).take (bud / (64 + (n : Int))).toNat := dropE_no fun e he hk => by
    obtain ⟨j, hj, rfl⟩ := revF_key n i e (List.mem_of_mem_take he)
    have : (j : Int) = (i : Int) := congrArg (fun k : Ky => k.1) hk
    omega
  unfold lputL
  rw [chk_one n h, if_pos rfl, hd]
  by_cases hg : 64 + (n : Int) ≤ bud
  · rw [if_pos hg, shrE_same hc _ _ (by omega) (fun e he => by
      obtain ⟨j, hj, rfl⟩ := revF_key n i e (List.mem_of_mem_take he)
      simp [costE, enF, repL_len])]
    have e1 : bud / (64 + (n : Int)) = (bud - (64 + (n : Int))) / (64 + (n : Int)) + 1 := by
      have := Int.add_mul_ediv_right (bud - (64 + (n : Int))) 1 (Int.ne_of_gt hc)
      rw [Int.one_mul, Int.sub_add_cancel] at this
      exact this
    have e2 : 0 ≤ (bud - (64 + (n : Int))) / (64 + (n : Int)) := Int.ediv_nonneg (by omega) (by omega)
    rw [e1, show ((bud - (64 + (n : Int))) / (64 + (n : Int)) + 1).toNat = ((bud - (64 + (n : Int))) / (64 + (n : Int))).toNat + 1 by omega, revF, List.take_succ_cons, List.take_take, Nat.min_eq_left (Nat.le_succ _)]
    rfl
  · rw [if_neg hg, Int.ediv_eq_zero_of_lt hb (by omega)]
    rfl
end Go.Proofs.Ytaaboochologaaa
