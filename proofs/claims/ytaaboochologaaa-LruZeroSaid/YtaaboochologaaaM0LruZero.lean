/- Part 11 of the proof: LrV. -/
import Derived.Test.YtaaboochologaaaCLr9

namespace Go.Proofs.Ytaaboochologaaa
open Go Go.RowKit
set_option linter.unusedVariables false
set_option linter.unusedSimpArgs false

theorem rlmay_any (x : Int) (w : World) : Calls Try.prog 10 #[.int .i64 x] w fun e w' => e = .returned (.bool (inZ 0 16777216 x)) ∧ w = w' := by
  unfold inZ
  by_cases h1 : 0 ≤ x
  · by_cases h2 : x ≤ 16777216
    · have d1 : decide (0 ≤ x) = true := by simpa using h1
      have d2 : decide (x ≤ 16777216) = true := by simpa using h2
      rw [d1, d2]
      go_enter Try.func10, Try.ntmps10
      go_wp2
      go_ret
      exact ⟨rfl, rfl⟩
    · have d1 : decide (0 ≤ x) = true := by simpa using h1
      have d2 : decide (x ≤ 16777216) = false := by simpa using h2
      rw [d1, d2]
      go_enter Try.func10, Try.ntmps10
      go_wp2
      go_ret
      exact ⟨rfl, rfl⟩
  · have d1 : decide (0 ≤ x) = false := by simpa using h1
    rw [d1]
    go_enter Try.func10, Try.ntmps10
    go_wp2
    go_ret
    exact ⟨rfl, rfl⟩
set_option maxRecDepth 100000 in
theorem rlcost_any (A : Q) (Am : Option Addr) (n c : Nat) (hn : n ≤ 4611686018427387904) (w : World) : Calls Try.prog 17 #[.agg #[.int .i64 A.x0, .int .i64 A.y0, .int .i64 A.x1, .int .i64 A.y1, .slice Am n c]] w fun e w' => e = .returned (.int .i64 (64 + (n : Int))) ∧ Below w.heap.size w w' := by
  have B : Below w.heap.size w (w.alloc (.cells #[.int .i64 A.x0, .int .i64 A.y0, .int .i64 A.x1, .int .i64 A.y1, .slice Am n c] 37)) := below_a1 _ _
  have K := Blk.new w 37 #[.int .i64 A.x0, .int .i64 A.y0, .int .i64 A.x1, .int .i64 A.y1, .slice Am n c]
  have k0 := K.cell 0; have k1 := K.cell 1; have k2 := K.cell 2; have k3 := K.cell 3; have k4 := K.cell 4; have kl := K.lt; simp only [List.getElem?_toArray, List.getElem?_cons_succ, List.getElem?_cons_zero] at k0 k1 k2 k3 k4
  have hw : wrap64 (64 + (n : Int)) = 64 + (n : Int) := by unfold wrap64; omega
  go_enter Try.func17, Try.ntmps17
  go_wp2
  go_ret
  exact ⟨rfl, B⟩
/-- A mask that was handed in is put. -/
theorem stput_low (N p : Nat) (w0 w : World) (bud : Int) (L : List En) (C : Cs) (r : LRec) (ok : LrOk w0 N r) (hN : N = w0.heap.size) (h : StC N w0 w p bud L C) :
    Calls Try.prog 16 #[.pointer (some ⟨p, 0, none⟩), .agg #[.int .i64 r.k.1, .int .i64 r.k.2.1, .int .i64 r.k.2.2.1, .int .i64 r.k.2.2.2], .agg #[.int .i64 r.a.x0, .int .i64 r.a.y0, .int .i64 r.a.x1, .int .i64 r.a.y1, .slice r.am r.m.length r.mc]] w fun e w' => ∃ C', e = .returned (.tuple #[.bool (lputB bud r.a r.m.length), .int .i64 (chkC r.a r.m.length)]) ∧ StC N w0 w' p bud (lputL bud L r.k r.a r.m.length r.m) C' ∧ ModC w w' p C C' := by
  obtain ⟨hl, h8, hm, hc, hk⟩ := ok
  have hb := h.2.1
  have hls : Lists w w.heap.size r.am r.m := ⟨hl.nil, fun a ha j v hv => (hb.cell (p := a.add j) (by rw [addr_add_block]; exact hl.lt a ha (by intro e; rw [e] at hv; simp at hv))).trans (hl.cell a ha j v hv), fun a ha hx => Nat.lt_of_lt_of_le (hl.lt a ha hx) h.2.2.2⟩
  refine (lrput_any N p bud L C r.k hk r.a r.am r.m.length r.mc r.m w h.1 rfl hls h8 (fun a ha hx hm => ?_) h.2.2.2).mono ?_
  · have h1 := h.2.2.1 _ hm
    have h2 := hl.lt a ha hx
    omega
  · rintro e w' ⟨C', rfl, s, m⟩
    exact ⟨C', rfl, ⟨s, h.2.mod m⟩, m⟩
theorem stdrop_any (N p : Nat) (w0 w : World) (bud : Int) (L : List En) (C : Cs) (k : Ky) (hk : kyW k) (h : StC N w0 w p bud L C) : Calls Try.prog 20 #[.pointer (some ⟨p, 0, none⟩), .agg #[.int .i64 k.1, .int .i64 k.2.1, .int .i64 k.2.2.1, .int .i64 k.2.2.2]] w fun e w' => ∃ C', e = .returned (.bool (hasE k L)) ∧ StC N w0 w' p bud (dropE k L) C' ∧ ModC w w' p C C' := by
  refine (lrdrop_any N p bud L C k hk w h.1).mono ?_
  rintro e w' ⟨C', rfl, s, m⟩
  exact ⟨C', rfl, ⟨s, h.2.mod m⟩, m⟩
theorem lputL_none {bud : Int} (hb : bud ≤ 63) (k : Ky) (A : Q) (n : Nat) (M : List Value) : lputL bud [] k A n M = [] := by
  unfold lputL
  rw [if_neg (show ¬ 64 + (n : Int) ≤ bud by omega)]
  split <;> rfl
theorem lputB_none {bud : Int} (hb : bud ≤ 63) (A : Q) (n : Nat) : lputB bud A n = false := by
  unfold lputB
  rw [show decide (64 + (n : Int) ≤ bud) = false by simp; omega, Bool.and_false]
theorem lrL_range {w : World} {B : Nat} {A : Option Addr} {L : List LRec} {i : Nat} {r : LRec} (h : Lists w B A (L.flatMap lrL)) (hi : L[i]? = some r) : ∃ b o, A = some ⟨b, o, none⟩ ∧ b < B ∧ w.rangeAt b (o + i * 11) #[.int .i64 r.kd, .int .i64 r.k.1, .int .i64 r.k.2.1, .int .i64 r.k.2.2.1, .int .i64 r.k.2.2.2, .int .i64 r.a.x0, .int .i64 r.a.y0, .int .i64 r.a.x1, .int .i64 r.a.y1, .slice r.am r.m.length r.mc, .int .i64 r.n].toList := lists_flat lrLen (by omega) h hi
end Go.Proofs.Ytaaboochologaaa
