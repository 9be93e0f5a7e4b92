/- Part 10 of the proof of HeadsHeadReads: Hr3H. -/
import Derived.Test.YtbomgaacahaofaaM8HeadsHeadReads

namespace Go.Proofs.Ytbomgaacahaofaa
open Go Go.RowKit

set_option linter.unusedVariables false
set_option linter.unusedSimpArgs false
theorem rHead_any (A : Option Addr) (c : Nat) (E : List Value) (w : World) (hE : Lists w w.heap.size A E) (h8 : Bytes8 E) (hc : E.length ≤ c) (hc2 : c ≤ 9223372036854775807) (hm : E.length ≤ 140737488355328) : Calls Try.prog 13 #[.slice A E.length c] w (GotRef w (okH E) (valH E) (.agg zH)) := by
  have hi := okH_iff E h8
  have b16 := rdk1_b E h8 16
  have b44 := rdk1_b E h8 44
  have b46 := rdk1_b E h8 46
  have b36 := rdk2_b E h8 36
  have b38 := rdk2_b E h8 38
  have b40 := rdk2_b E h8 40
  have b42 := rdk2_b E h8 42
  have b50 := rdk1_b E h8 50
  have no : okH E = false → ∀ e w', (e = .returned (.tuple #[.agg #[.int .i64 0, .int .i64 0, .int .i64 0, .int .i64 0, .int .i64 0, .int .i64 0, .int .i64 0, .int .i64 0, .bool false], .bool false]) ∧ Below w.heap.size w w') → GotRef w (okH E) (valH E) (.agg zH) e w' := fun hk e w' h => by unfold GotRef; rw [hk]; exact h
  by_cases c0 : rdk E 1 0 = 1
  rotate_left
  · exact (rHead_a A c E w hE h8 hc hc2 hm _ rfl c0).mono fun e w' h => no (by cases hk : okH E; rfl; exact absurd (hi.1 hk).2.1 c0) e w' h
  by_cases c1 : rdk E 1 2 = 0
  rotate_left
  · exact (rHead_b A c E w hE h8 hc hc2 hm _ rfl c0 c1).mono fun e w' h => no (by cases hk : okH E; rfl; exact absurd (hi.1 hk).2.2.1 c1) e w' h
  by_cases c2 : rdk E 3 12 = 1594834165
  rotate_left
  · exact (rHead_d A c E w hE h8 hc hc2 hm _ rfl c0 c1 c2).mono fun e w' h => no (by cases hk : okH E; rfl; exact absurd (hi.1 hk).2.2.2.1 c2) e w' h
  by_cases c3 : rdk E 1 50 < 2
  rotate_left
  · exact (rHead_e A c E w hE h8 hc hc2 hm _ rfl c0 c1 c2 c3).mono fun e w' h => no (by cases hk : okH E; rfl; exact absurd (hi.1 hk).2.2.2.2.2.1 c3) e w' h
  by_cases c4 : rdk E 1 52 = 0
  rotate_left
  · exact (rHead_f A c E w hE h8 hc hc2 hm _ rfl c0 c1 c2 c3 c4).mono fun e w' h => no (by cases hk : okH E; rfl; exact absurd (hi.1 hk).2.2.2.2.2.2 c4) e w' h
  by_cases hn : E.length < 54
  · exact (rHead_g A c E w hE h8 hc hc2 hm _ rfl c0 c1 c2 c3 c4 hn).mono fun e w' h => no (by cases hk : okH E; rfl; have := (hi.1 hk).1; omega) e w' h
  have hmay : mayH (rdk E 1 18) (rdk E 1 16) (rdk E 2 36) (rdk E 2 38) (rdk E 2 40) (rdk E 2 42) (rdk E 1 44) (rdk E 1 46) = (decide (16 ≤ rdk E 1 18) && decide (rdk E 1 18 ≤ 16384)) := by
    have i16 : inW (rdk E 1 16) = true := by unfold inW; simp; omega
    have i44 : inW (rdk E 1 44) = true := by unfold inW; simp; omega
    have i46 : inW (rdk E 1 46) = true := by unfold inW; simp; omega
    have i36 : inS (rdk E 2 36) = true := by unfold inS; simp; omega
    have i38 : inS (rdk E 2 38) = true := by unfold inS; simp; omega
    have i40 : inS (rdk E 2 40) = true := by unfold inS; simp; omega
    have i42 : inS (rdk E 2 42) = true := by unfold inS; simp; omega
    unfold mayH
    rw [i16, i44, i46, i36, i38, i40, i42]
    simp
  cases hb : (decide (16 ≤ rdk E 1 18) && decide (rdk E 1 18 ≤ 16384))
  · rw [hb] at hmay
    exact (rHead_h A c E w hE h8 hc hc2 hm _ rfl c0 c1 c2 c3 c4 hn hmay).mono fun e w' h => no (by cases hk : okH E; rfl; have h3 := (hi.1 hk).2.2.2.2.1; rw [decide_eq_true h3.1, decide_eq_true h3.2] at hb; cases hb) e w' h
  · rw [hb] at hmay
    rw [Bool.and_eq_true, decide_eq_true_eq, decide_eq_true_eq] at hb
    have ok : okH E = true := hi.2 ⟨by omega, c0, c1, c2, hb, c3, c4⟩
    refine (rHead_i A c E w hE h8 hc hc2 hm _ rfl c0 c1 c2 c3 c4 hn hmay).mono fun e w' h => ?_
    unfold GotRef
    rw [ok, valH_eq E (by omega)]
    exact h

end Go.Proofs.Ytbomgaacahaofaa
