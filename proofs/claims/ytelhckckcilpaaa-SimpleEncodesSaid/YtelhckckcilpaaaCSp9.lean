/- Part 10 of the proof: Box3, Box4, Box5, Hull, Hull2, RHull. -/
import Derived.Deep.RegionWith
import Derived.Deep.DeepCutAuto
import Derived.Outline
import Derived.Lib.Hide
import Derived.Test.YtelhckckcilpaaaCSp8

namespace Go.Proofs.Ytelhckckcilpaaa
open Go.RowKit

theorem not_zero (A : Q) (h : emptyQ A = false) : eq4 A.x0 A.y0 A.x1 A.y1 0 0 0 0 = false := by
  unfold emptyQ at h
  unfold eq4
  simp only [Bool.or_eq_false_iff, decide_eq_false_iff_not] at h
  rw [Bool.eq_false_iff]
  intro c
  simp only [Bool.and_eq_true, beq_iff_eq] at c
  omega

theorem at_next {A : Q} {bk : Nat} {w w1 : World} (b : Below w.heap.size w w1) (h : bk < w.heap.size) (H : w.cell? ⟨bk, 0, none⟩ = some (.int .i64 A.x0) ∧ w.cell? ⟨bk, 1, none⟩ = some (.int .i64 A.y0) ∧ w.cell? ⟨bk, 2, none⟩ = some (.int .i64 A.x1) ∧ w.cell? ⟨bk, 3, none⟩ = some (.int .i64 A.y1)) : w1.cell? ⟨bk, 0, none⟩ = some (.int .i64 A.x0) ∧ w1.cell? ⟨bk, 1, none⟩ = some (.int .i64 A.y0) ∧ w1.cell? ⟨bk, 2, none⟩ = some (.int .i64 A.x1) ∧ w1.cell? ⟨bk, 3, none⟩ = some (.int .i64 A.y1) := by
  rw [b.cell (p := ⟨bk, 0, none⟩) h, b.cell (p := ⟨bk, 1, none⟩) h, b.cell (p := ⟨bk, 2, none⟩) h, b.cell (p := ⟨bk, 3, none⟩) h]; exact H
theorem fr_next {bk : Nat} {w w1 : World} (b : Below w.heap.size w w1) (h : bk < w.heap.size) (H : ∀ o, w.frozen? ⟨bk, o, none⟩ = false) : ∀ o, w1.frozen? ⟨bk, o, none⟩ = false := fun o => (b.frozen (p := ⟨bk, o, none⟩) h).trans (H o)
theorem lt_next {n : Nat} {w w1 : World} (b : Below w.heap.size w w1) (h : n < w.heap.size) : n < w1.heap.size := Nat.lt_of_lt_of_le h b.size

/-- the facts of a world in which the call's own three boxes lie -/
def In3 (w wx : World) (A B Z : Q) : Prop := Below w.heap.size w wx ∧ (w.heap.size < wx.heap.size ∧ w.heap.size + 1 < wx.heap.size ∧ w.heap.size + 1 + 1 < wx.heap.size) ∧ (wx.cell? ⟨w.heap.size, 0, none⟩ = some (.int .i64 A.x0) ∧ wx.cell? ⟨w.heap.size, 1, none⟩ = some (.int .i64 A.y0) ∧ wx.cell? ⟨w.heap.size, 2, none⟩ = some (.int .i64 A.x1) ∧ wx.cell? ⟨w.heap.size, 3, none⟩ = some (.int .i64 A.y1)) ∧ (wx.cell? ⟨w.heap.size + 1, 0, none⟩ = some (.int .i64 B.x0) ∧ wx.cell? ⟨w.heap.size + 1, 1, none⟩ = some (.int .i64 B.y0) ∧ wx.cell? ⟨w.heap.size + 1, 2, none⟩ = some (.int .i64 B.x1) ∧ wx.cell? ⟨w.heap.size + 1, 3, none⟩ = some (.int .i64 B.y1)) ∧ (wx.cell? ⟨w.heap.size + 1 + 1, 0, none⟩ = some (.int .i64 Z.x0) ∧ wx.cell? ⟨w.heap.size + 1 + 1, 1, none⟩ = some (.int .i64 Z.y0) ∧ wx.cell? ⟨w.heap.size + 1 + 1, 2, none⟩ = some (.int .i64 Z.x1) ∧ wx.cell? ⟨w.heap.size + 1 + 1, 3, none⟩ = some (.int .i64 Z.y1)) ∧
  (∀ o, wx.frozen? ⟨w.heap.size, o, none⟩ = false) ∧ (∀ o, wx.frozen? ⟨w.heap.size + 1, o, none⟩ = false) ∧ (∀ o, wx.frozen? ⟨w.heap.size + 1 + 1, o, none⟩ = false)

theorem In3.start (w : World) (A B Z : Q) : In3 w (((w.alloc (.cells #[.int .i64 A.x0, .int .i64 A.y0, .int .i64 A.x1, .int .i64 A.y1] 68)).alloc (.cells #[.int .i64 B.x0, .int .i64 B.y0, .int .i64 B.x1, .int .i64 B.y1] 68)).alloc (.cells #[.int .i64 Z.x0, .int .i64 Z.y0, .int .i64 Z.x1, .int .i64 Z.y1] 68)) A B Z := by
  refine ⟨below_a3 _ _ _ _, ⟨by simp <;> omega, by simp <;> omega, by simp <;> omega⟩, ⟨?_, ?_, ?_, ?_⟩, ⟨?_, ?_, ?_, ?_⟩, ⟨?_, ?_, ?_, ?_⟩, fun o => ?_, fun o => ?_, fun o => ?_⟩ <;> go_simp

theorem In3.next {w wx wy : World} {A B Z : Q} (h : In3 w wx A B Z) (b : Below wx.heap.size wx wy) : In3 w wy A B Z := by
  obtain ⟨h0, ⟨h1, h2, h3⟩, hA, hB, hZ, f1, f2, f3⟩ := h
  exact ⟨below_next h0 b, ⟨lt_next b h1, lt_next b h2, lt_next b h3⟩, at_next b h1 hA, at_next b h2 hB, at_next b h3 hZ, fr_next b h1 f1, fr_next b h2 f2, fr_next b h3 f3⟩

theorem In3.drew {w wx : World} {A B Z : Q} (h : In3 w wx A B Z) : In3 w wx.drew A B Z :=
  ⟨h.1.drew, h.2.1, h.2.2.1, h.2.2.2.1, h.2.2.2.2.1, h.2.2.2.2.2.1, h.2.2.2.2.2.2.1, h.2.2.2.2.2.2.2⟩

theorem set_at {A : Q} (wx : World) (bk : Nat) (A' : Q) (h : wx.cell? ⟨bk, 0, none⟩ = some (.int .i64 A.x0) ∧ wx.cell? ⟨bk, 1, none⟩ = some (.int .i64 A.y0) ∧ wx.cell? ⟨bk, 2, none⟩ = some (.int .i64 A.x1) ∧ wx.cell? ⟨bk, 3, none⟩ = some (.int .i64 A.y1)) :
    ((((wx.setCell ⟨bk, 0, none⟩ (.int .i64 A'.x0)).setCell ⟨bk, 1, none⟩ (.int .i64 A'.y0)).setCell ⟨bk, 2, none⟩ (.int .i64 A'.x1)).setCell ⟨bk, 3, none⟩ (.int .i64 A'.y1)).cell? ⟨bk, 0, none⟩ = some (.int .i64 A'.x0) ∧ ((((wx.setCell ⟨bk, 0, none⟩ (.int .i64 A'.x0)).setCell ⟨bk, 1, none⟩ (.int .i64 A'.y0)).setCell ⟨bk, 2, none⟩ (.int .i64 A'.x1)).setCell ⟨bk, 3, none⟩ (.int .i64 A'.y1)).cell? ⟨bk, 1, none⟩ = some (.int .i64 A'.y0) ∧ ((((wx.setCell ⟨bk, 0, none⟩ (.int .i64 A'.x0)).setCell ⟨bk, 1, none⟩ (.int .i64 A'.y0)).setCell ⟨bk, 2, none⟩ (.int .i64 A'.x1)).setCell ⟨bk, 3, none⟩ (.int .i64 A'.y1)).cell? ⟨bk, 2, none⟩ = some (.int .i64 A'.x1) ∧ ((((wx.setCell ⟨bk, 0, none⟩ (.int .i64 A'.x0)).setCell ⟨bk, 1, none⟩ (.int .i64 A'.y0)).setCell ⟨bk, 2, none⟩ (.int .i64 A'.x1)).setCell ⟨bk, 3, none⟩ (.int .i64 A'.y1)).cell? ⟨bk, 3, none⟩ = some (.int .i64 A'.y1) := by
  obtain ⟨h0, h1, h2, h3⟩ := h
  refine ⟨?_, ?_, ?_, ?_⟩ <;> go_simp

theorem set_other {A : Q} (wx : World) (bk b2 : Nat) (v0 v1 v2 v3 : Value) (hne : b2 ≠ bk) (h : wx.cell? ⟨b2, 0, none⟩ = some (.int .i64 A.x0) ∧ wx.cell? ⟨b2, 1, none⟩ = some (.int .i64 A.y0) ∧ wx.cell? ⟨b2, 2, none⟩ = some (.int .i64 A.x1) ∧ wx.cell? ⟨b2, 3, none⟩ = some (.int .i64 A.y1)) :
    ((((wx.setCell ⟨bk, 0, none⟩ v0).setCell ⟨bk, 1, none⟩ v1).setCell ⟨bk, 2, none⟩ v2).setCell ⟨bk, 3, none⟩ v3).cell? ⟨b2, 0, none⟩ = some (.int .i64 A.x0) ∧ ((((wx.setCell ⟨bk, 0, none⟩ v0).setCell ⟨bk, 1, none⟩ v1).setCell ⟨bk, 2, none⟩ v2).setCell ⟨bk, 3, none⟩ v3).cell? ⟨b2, 1, none⟩ = some (.int .i64 A.y0) ∧ ((((wx.setCell ⟨bk, 0, none⟩ v0).setCell ⟨bk, 1, none⟩ v1).setCell ⟨bk, 2, none⟩ v2).setCell ⟨bk, 3, none⟩ v3).cell? ⟨b2, 2, none⟩ = some (.int .i64 A.x1) ∧ ((((wx.setCell ⟨bk, 0, none⟩ v0).setCell ⟨bk, 1, none⟩ v1).setCell ⟨bk, 2, none⟩ v2).setCell ⟨bk, 3, none⟩ v3).cell? ⟨b2, 3, none⟩ = some (.int .i64 A.y1) := by
  obtain ⟨h0, h1, h2, h3⟩ := h
  have e1 : ¬ bk = b2 := fun c => hne c.symm
  refine ⟨?_, ?_, ?_, ?_⟩ <;> go_simp

theorem In3.set01 {w wx : World} {A B Z : Q} (h : In3 w wx A B Z) (A' B' : Q) :
    In3 w ((((((((wx.setCell ⟨w.heap.size, 0, none⟩ (.int .i64 A'.x0)).setCell ⟨w.heap.size, 1, none⟩ (.int .i64 A'.y0)).setCell ⟨w.heap.size, 2, none⟩ (.int .i64 A'.x1)).setCell ⟨w.heap.size, 3, none⟩ (.int .i64 A'.y1)).setCell ⟨w.heap.size + 1, 0, none⟩ (.int .i64 B'.x0)).setCell ⟨w.heap.size + 1, 1, none⟩ (.int .i64 B'.y0)).setCell ⟨w.heap.size + 1, 2, none⟩ (.int .i64 B'.x1)).setCell ⟨w.heap.size + 1, 3, none⟩ (.int .i64 B'.y1)) A' B' Z := by
  obtain ⟨h0, ⟨h1, h2, h3⟩, hA, hB, hZ, f1, f2, f3⟩ := h
  refine ⟨below_set4 (below_set4 h0 (by omega) _ _ _ _) (by omega) _ _ _ _, ⟨by simpa [World.setCell] using h1, by simpa [World.setCell] using h2, by simpa [World.setCell] using h3⟩, ?_, ?_, ?_, ?_, ?_, ?_⟩
  · exact set_other _ _ _ _ _ _ _ (by omega) (set_at _ _ _ hA)
  · exact set_at (A := B) _ _ _ (set_other _ _ _ _ _ _ _ (by omega) hB)
  · exact set_other _ _ _ _ _ _ _ (by omega) (set_other _ _ _ _ _ _ _ (by omega) hZ)
  · intro o; simp [f1]
  · intro o; simp [f2]
  · intro o; simp [f3]

end Go.Proofs.Ytelhckckcilpaaa

namespace Go.Proofs.Ytelhckckcilpaaa
open Go.RowKit

def joinQ (A B : Q) : Q := ⟨min A.x0 B.x0, min A.y0 B.y0, max A.x1 B.x1, max A.y1 B.y1⟩
def meetQ (A B : Q) : Q := ⟨max A.x0 B.x0, max A.y0 B.y0, min A.x1 B.x1, min A.y1 B.y1⟩

def joinR (A B : Q) : Q := if emptyQ A then plainQ B else if emptyQ B then A else joinQ A B
def meetR (A B : Q) : Q := plainQ (meetQ A B)

theorem plain_eq4 (A : Q) : eq4 (plainQ A).x0 (plainQ A).y0 (plainQ A).x1 (plainQ A).y1 0 0 0 0 = emptyQ A := by
  unfold plainQ
  by_cases h : emptyQ A = true
  · rw [if_pos h, h]; rfl
  · rw [if_neg h, show emptyQ A = false by simpa using h]; exact not_zero A (by simpa using h)

end Go.Proofs.Ytelhckckcilpaaa

namespace Go.Proofs.Ytelhckckcilpaaa
open Go.RowKit

/-- the facts of a world in which the call's own two boxes lie -/
def In2 (w wx : World) (A Z : Q) : Prop := Below w.heap.size w wx ∧ (w.heap.size < wx.heap.size ∧ w.heap.size + 1 < wx.heap.size) ∧ (wx.cell? ⟨w.heap.size, 0, none⟩ = some (.int .i64 A.x0) ∧ wx.cell? ⟨w.heap.size, 1, none⟩ = some (.int .i64 A.y0) ∧ wx.cell? ⟨w.heap.size, 2, none⟩ = some (.int .i64 A.x1) ∧ wx.cell? ⟨w.heap.size, 3, none⟩ = some (.int .i64 A.y1)) ∧ (wx.cell? ⟨w.heap.size + 1, 0, none⟩ = some (.int .i64 Z.x0) ∧ wx.cell? ⟨w.heap.size + 1, 1, none⟩ = some (.int .i64 Z.y0) ∧ wx.cell? ⟨w.heap.size + 1, 2, none⟩ = some (.int .i64 Z.x1) ∧ wx.cell? ⟨w.heap.size + 1, 3, none⟩ = some (.int .i64 Z.y1)) ∧ (∀ o, wx.frozen? ⟨w.heap.size, o, none⟩ = false) ∧ (∀ o, wx.frozen? ⟨w.heap.size + 1, o, none⟩ = false)

theorem In2.start (w : World) (A Z : Q) : In2 w ((w.alloc (.cells #[.int .i64 A.x0, .int .i64 A.y0, .int .i64 A.x1, .int .i64 A.y1] 68)).alloc (.cells #[.int .i64 Z.x0, .int .i64 Z.y0, .int .i64 Z.x1, .int .i64 Z.y1] 68)) A Z := by
  refine ⟨below_a2 _ _ _, ⟨by simp <;> omega, by simp <;> omega⟩, ⟨?_, ?_, ?_, ?_⟩, ⟨?_, ?_, ?_, ?_⟩, fun o => ?_, fun o => ?_⟩ <;> go_simp

theorem In2.next {w wx wy : World} {A Z : Q} (h : In2 w wx A Z) (b : Below wx.heap.size wx wy) : In2 w wy A Z := by
  obtain ⟨h0, ⟨h1, h2⟩, hA, hZ, f1, f2⟩ := h
  exact ⟨below_next h0 b, ⟨lt_next b h1, lt_next b h2⟩, at_next b h1 hA, at_next b h2 hZ, fr_next b h1 f1, fr_next b h2 f2⟩

theorem In2.drewN {w wx : World} {A Z : Q} (h : In2 w wx A Z) (k : Nat) : In2 w (wx.drewN k) A Z :=
  ⟨below_drewN h.1 k, h.2.1, h.2.2.1, h.2.2.2.1, h.2.2.2.2.1, h.2.2.2.2.2⟩

/-- the facts of a world in which the call's own one box lies -/
def In1 (w wx : World) (A : Q) : Prop := Below w.heap.size w wx ∧ w.heap.size < wx.heap.size ∧ (wx.cell? ⟨w.heap.size, 0, none⟩ = some (.int .i64 A.x0) ∧ wx.cell? ⟨w.heap.size, 1, none⟩ = some (.int .i64 A.y0) ∧ wx.cell? ⟨w.heap.size, 2, none⟩ = some (.int .i64 A.x1) ∧ wx.cell? ⟨w.heap.size, 3, none⟩ = some (.int .i64 A.y1))

theorem In1.start (w : World) (A : Q) : In1 w (w.alloc (.cells #[.int .i64 A.x0, .int .i64 A.y0, .int .i64 A.x1, .int .i64 A.y1] 68)) A := by
  refine ⟨below_a1 _ _, by simp, ?_, ?_, ?_, ?_⟩ <;> go_simp

theorem In1.next {w wx wy : World} {A : Q} (h : In1 w wx A) (b : Below wx.heap.size wx wy) : In1 w wy A := by
  obtain ⟨h0, h1, hA⟩ := h
  exact ⟨below_next h0 b, lt_next b h1, at_next b h1 hA⟩

def holdsQ (A : Q) (x y : Int) : Bool := mayQ A && (decide (A.x0 ≤ x) && decide (x < A.x1) && decide (A.y0 ≤ y) && decide (y < A.y1))

theorem mayQ_lims {A : Q} (h : mayQ A = true) : (-2147483648 ≤ A.x0 ∧ A.x0 ≤ 2147483648) ∧ (-2147483648 ≤ A.y0 ∧ A.y0 ≤ 2147483648) ∧ (-2147483648 ≤ A.x1 ∧ A.x1 ≤ 2147483648) ∧ (-2147483648 ≤ A.y1 ∧ A.y1 ≤ 2147483648) := by
  unfold mayQ at h
  simp only [Bool.and_eq_true] at h
  exact ⟨⟨mayB_lo h.1.1.1, mayB_hi h.1.1.1⟩, ⟨mayB_lo h.1.1.2, mayB_hi h.1.1.2⟩, ⟨mayB_lo h.1.2, mayB_hi h.1.2⟩, ⟨mayB_lo h.2, mayB_hi h.2⟩⟩

theorem plain_lims {A : Q} (h : mayQ A = true) : (-2147483648 ≤ (plainQ A).x0 ∧ (plainQ A).x0 ≤ 2147483648) ∧ (-2147483648 ≤ (plainQ A).y0 ∧ (plainQ A).y0 ≤ 2147483648) ∧ (-2147483648 ≤ (plainQ A).x1 ∧ (plainQ A).x1 ≤ 2147483648) ∧ (-2147483648 ≤ (plainQ A).y1 ∧ (plainQ A).y1 ≤ 2147483648) := by
  unfold plainQ
  split
  · decide
  · exact mayQ_lims h

end Go.Proofs.Ytelhckckcilpaaa

namespace Go.Proofs.Ytelhckckcilpaaa
open Go.RowKit

theorem fold_least (b off len cap : Nat) (zs : List Int) (w : World) (h0 : 0 < len) (hl : len = zs.length) (hm : len ≤ 9223372036854775807)
    (hc : ∀ j, j < zs.length → w.cell? ⟨b, off + j, none⟩ = some (.int .i64 (zs.getD j 0))) :
    Calls Try.prog 93 #[.func (.func 94) #[] #[], .slice (some ⟨b, off, none⟩) len cap] w fun e w' => e = .returned (.int .i64 (zs.foldl min (zs.getD 0 0))) ∧ w = w' := by
  have HL : Hid (len = zs.length) := hl
  have HC : Hid (∀ j, j < zs.length → w.cell? ⟨b, off + j, none⟩ = some (.int .i64 (zs.getD j 0))) := hc
  have hcell0 : w.cell? ⟨b, off, none⟩ = some (.int .i64 (zs.getD 0 0)) := hc 0 (by omega)
  have hq0 : (0 : Int) < len := by omega
  clear hl hc
  generalize hz0 : zs.getD 0 0 = z0 at *
  clear hz0
  go_enter Try.func93, Try.ntmps93
  go_wp2
  go_loop [5, 7, 13] (fun p _ i => ∃ k : Nat, k ≤ len ∧ i = .int .i64 k ∧ p = .int .i64 ((zs.take k).foldl min z0)) (fun _ _ i => len - (intOf i).toNat)
  case atStart => exact ⟨0, Nat.zero_le _, rfl, rfl⟩
  case round =>
    obtain ⟨k, hk, rfl, rfl⟩ := hrel
    by_cases hlt : k < len
    · have hcell : w.cell? ⟨b, off + k, none⟩ = some (.int .i64 (zs.getD k 0)) := HC.out k (by have := HL.out; omega)
      have hts : (zs.take (k + 1)).foldl min z0 = min ((zs.take k).foldl min z0) (zs.getD k 0) := by
        have hk' : k < zs.length := by have := HL.out; omega
        rw [List.take_succ_eq_append_getElem hk', List.foldl_append]; simp [List.getD, hk']
      generalize zs.getD k 0 = z at hcell hts
      have HT : Hid ((zs.take (k + 1)).foldl min z0 = min ((zs.take k).foldl min z0) z) := hts
      clear hts
      generalize (zs.take k).foldl min z0 = p at *
      go_wp2_with (go_at_call 94; refine (least_any p z _).mono ?_; rintro e w' ⟨rfl, rfl⟩)
      go_round
      case rel => exact ⟨k + 1, by omega, by go_num, by rw [HT.out]⟩
      case measure => simp [intOf]; omega
    · go_wp2
      go_ret
      exact ⟨ret_int (by rw [List.take_of_length_le (by have := HL.out; omega)]), rfl⟩

theorem fold_most (b off len cap : Nat) (zs : List Int) (w : World) (h0 : 0 < len) (hl : len = zs.length) (hm : len ≤ 9223372036854775807)
    (hc : ∀ j, j < zs.length → w.cell? ⟨b, off + j, none⟩ = some (.int .i64 (zs.getD j 0))) :
    Calls Try.prog 93 #[.func (.func 95) #[] #[], .slice (some ⟨b, off, none⟩) len cap] w fun e w' => e = .returned (.int .i64 (zs.foldl max (zs.getD 0 0))) ∧ w = w' := by
  have HL : Hid (len = zs.length) := hl
  have HC : Hid (∀ j, j < zs.length → w.cell? ⟨b, off + j, none⟩ = some (.int .i64 (zs.getD j 0))) := hc
  have hcell0 : w.cell? ⟨b, off, none⟩ = some (.int .i64 (zs.getD 0 0)) := hc 0 (by omega)
  have hq0 : (0 : Int) < len := by omega
  clear hl hc
  generalize hz0 : zs.getD 0 0 = z0 at *
  clear hz0
  go_enter Try.func93, Try.ntmps93
  go_wp2
  go_loop [5, 7, 13] (fun p _ i => ∃ k : Nat, k ≤ len ∧ i = .int .i64 k ∧ p = .int .i64 ((zs.take k).foldl max z0)) (fun _ _ i => len - (intOf i).toNat)
  case atStart => exact ⟨0, Nat.zero_le _, rfl, rfl⟩
  case round =>
    obtain ⟨k, hk, rfl, rfl⟩ := hrel
    by_cases hlt : k < len
    · have hcell : w.cell? ⟨b, off + k, none⟩ = some (.int .i64 (zs.getD k 0)) := HC.out k (by have := HL.out; omega)
      have hts : (zs.take (k + 1)).foldl max z0 = max ((zs.take k).foldl max z0) (zs.getD k 0) := by
        have hk' : k < zs.length := by have := HL.out; omega
        rw [List.take_succ_eq_append_getElem hk', List.foldl_append]; simp [List.getD, hk']
      generalize zs.getD k 0 = z at hcell hts
      have HT : Hid ((zs.take (k + 1)).foldl max z0 = max ((zs.take k).foldl max z0) z) := hts
      clear hts
      generalize (zs.take k).foldl max z0 = p at *
      go_wp2_with (go_at_call 95; refine (most_any p z _).mono ?_; rintro e w' ⟨rfl, rfl⟩)
      go_round
      case rel => exact ⟨k + 1, by omega, by go_num, by rw [HT.out]⟩
      case measure => simp [intOf]; omega
    · go_wp2
      go_ret
      exact ⟨ret_int (by rw [List.take_of_length_le (by have := HL.out; omega)]), rfl⟩

/-- a slice of ints reads as a list, below block n -/
def Ints (w : World) (b off len : Nat) (zs : List Int) : Prop := len = zs.length ∧ len ≤ 9223372036854775807 ∧ b < w.heap.size ∧ ∀ j, j < zs.length → w.cell? ⟨b, off + j, none⟩ = some (.int .i64 (zs.getD j 0))

def hullQ (xs ys : List Int) : Q := ⟨xs.foldl min (xs.getD 0 0), ys.foldl min (ys.getD 0 0), xs.foldl max (xs.getD 0 0), ys.foldl max (ys.getD 0 0)⟩

theorem Ints.alloc {w : World} {b off len : Nat} {zs : List Int} (h : Ints w b off len zs) (o : Obj) : Ints (w.alloc o) b off len zs := by
  obtain ⟨h1, h2, h3, h4⟩ := h
  exact ⟨h1, h2, by simp; omega, fun j hj => ((below_a1 w o).cell (p := ⟨b, off + j, none⟩) h3).trans (h4 j hj)⟩

set_option maxHeartbeats 1000000 in
theorem hull_full (b off len cap b2 off2 cap2 : Nat) (xs ys : List Int) (w : World) (h0 : 0 < len) (hX : Ints w b off len xs) (hY : Ints w b2 off2 len ys) (mx : xs.all mayB = true) (my : ys.all mayB = true) :
    Calls Try.prog 72 #[.slice (some ⟨b, off, none⟩) len cap, .slice (some ⟨b2, off2, none⟩) len cap2] w fun e w' => e = .returned (.tuple #[.agg #[.int .i64 (hullQ xs ys).x0, .int .i64 (hullQ xs ys).y0, .int .i64 (hullQ xs ys).x1, .int .i64 (hullQ xs ys).y1], .int .i64 0]) ∧ Below w.heap.size w w' := by
  obtain ⟨x1, x2, x3, x4⟩ := hX.alloc (.cells #[.int .i64 zeroQ.x0, .int .i64 zeroQ.y0, .int .i64 zeroQ.x1, .int .i64 zeroQ.y1] 68)
  obtain ⟨y1, y2, y3, y4⟩ := hY.alloc (.cells #[.int .i64 zeroQ.x0, .int .i64 zeroQ.y0, .int .i64 zeroQ.x1, .int .i64 zeroQ.y1] 68)
  have A1 := allMay_affine b off len cap xs _ x1 x2 x4
  have A2 := allMay_affine b2 off2 len cap2 ys _ y1 y2 y4
  have F1 := fold_least b off len cap xs _ h0 x1 x2 x4
  have F2 := fold_least b2 off2 len cap2 ys _ h0 y1 y2 y4
  have F3 := fold_most b off len cap xs _ h0 x1 x2 x4
  have F4 := fold_most b2 off2 len cap2 ys _ h0 y1 y2 y4
  rw [mx] at A1
  rw [my] at A2
  have hn : ((len : Int) != (len : Int)) = false := by simp
  have hz : ((len : Int) == 0) = false := by simp; omega
  clear x1 x2 x3 x4 y1 y2 y3 y4 mx my hX hY h0
  unfold hullQ zeroQ at *
  generalize xs.foldl min (xs.getD 0 0) = p1 at *
  generalize ys.foldl min (ys.getD 0 0) = p2 at *
  generalize xs.foldl max (xs.getD 0 0) = p3 at *
  generalize ys.foldl max (ys.getD 0 0) = p4 at *
  dsimp only at *
  go_enter Try.func72, Try.ntmps72
  go_wp2_with (first | (go_at_call 92; ((with_reducible refine A1.mono ?_); rintro e w' ⟨rfl, rfl⟩)) | (go_at_call 92; ((with_reducible refine A2.mono ?_); rintro e w' ⟨rfl, rfl⟩)) | (go_at_call 93; ((with_reducible refine F1.mono ?_); rintro e w' ⟨rfl, rfl⟩)) | (go_at_call 93; ((with_reducible refine F2.mono ?_); rintro e w' ⟨rfl, rfl⟩)) | (go_at_call 93; ((with_reducible refine F3.mono ?_); rintro e w' ⟨rfl, rfl⟩)) | (go_at_call 93; ((with_reducible refine F4.mono ?_); rintro e w' ⟨rfl, rfl⟩)))
  refine bodyPost_ret (v := .tuple #[.agg #[.int .i64 p1, .int .i64 p2, .int .i64 p3, .int .i64 p4], .int .i64 0]) (by simp [results, Try.results72, go_sem, *]) rfl ⟨rfl, ?_⟩
  exact below_a1 _ _

end Go.Proofs.Ytelhckckcilpaaa

namespace Go.Proofs.Ytelhckckcilpaaa
open Go.RowKit

theorem lists_ints {w : World} {B0 : Nat} {A : Option Addr} {zs : List Int} (h : Lists w B0 A (intCells zs)) (h0 : 0 < zs.length) :
    ∃ b o, A = some ⟨b, o, none⟩ ∧ b < B0 ∧ ∀ j, j < zs.length → w.cell? ⟨b, o + j, none⟩ = some (.int .i64 (zs.getD j 0)) := by
  obtain ⟨b, o, hA, hb, hc⟩ := h.plain (by intro e; have := intCells_len zs; rw [e] at this; simp at this; omega)
  exact ⟨b, o, hA, hb, fun j hj => hc j _ (intCells_get zs j hj)⟩

theorem allMay_lists (A : Option Addr) (n c B0 : Nat) (zs : List Int) (w : World) (hn : zs.length = n) (hm : n ≤ 9223372036854775807) (h : Lists w B0 A (intCells zs)) :
    Calls Try.prog 92 #[.slice A n c] w fun e w' => e = .returned (.bool (zs.all mayB)) ∧ w = w' := by
  rcases Nat.eq_zero_or_pos n with h0 | h0
  · subst h0
    obtain rfl : zs = [] := List.eq_nil_of_length_eq_zero hn
    exact allMay_nil_affine c A w
  · obtain ⟨b, o, rfl, _, hc⟩ := lists_ints h (by omega)
    exact allMay_affine b o n c zs w hn.symm hm hc

theorem hull_differ (A A2 : Option Addr) (n c n2 c2 : Nat) (w : World) (hn : n ≠ n2) :
    Calls Try.prog 72 #[.slice A n c, .slice A2 n2 c2] w fun e w' => e = .returned (.tuple #[.agg #[.int .i64 0, .int .i64 0, .int .i64 0, .int .i64 0], .int .i64 1]) ∧ Below w.heap.size w w' := by
  have hd : ((n : Int) != (n2 : Int)) = true := by simp; omega
  clear hn
  go_enter Try.func72, Try.ntmps72
  go_wp2
  refine bodyPost_ret (v := .tuple #[.agg #[.int .i64 0, .int .i64 0, .int .i64 0, .int .i64 0], .int .i64 1]) (by simp [results, Try.results72, go_sem]) rfl ⟨rfl, below_a1 _ _⟩

theorem hull_over (A A2 : Option Addr) (n c c2 B0 B1 : Nat) (xs ys : List Int) (w : World) (hx : xs.length = n) (hy : ys.length = n) (hm : n ≤ 9223372036854775807) (lx : Lists w B0 A (intCells xs)) (ly : Lists w B1 A2 (intCells ys)) (hB0 : B0 ≤ w.heap.size) (hB1 : B1 ≤ w.heap.size)
    (ha : (xs.all mayB && ys.all mayB) = false) :
    Calls Try.prog 72 #[.slice A n c, .slice A2 n c2] w fun e w' => e = .returned (.tuple #[.agg #[.int .i64 0, .int .i64 0, .int .i64 0, .int .i64 0], .int .i64 10]) ∧ Below w.heap.size w w' := by
  have A1 := allMay_lists A n c B0 xs _ hx hm (lx.alloc hB0 (.cells #[.int .i64 0, .int .i64 0, .int .i64 0, .int .i64 0] 68))
  have A2' := allMay_lists A2 n c2 B1 ys _ hy hm (ly.alloc hB1 (.cells #[.int .i64 0, .int .i64 0, .int .i64 0, .int .i64 0] 68))
  have hd : ((n : Int) != (n : Int)) = false := by simp
  clear hx hy lx ly hB0 hB1
  cases h1 : xs.all mayB
  · rw [h1] at A1
    clear h1 ha A2'
    go_enter Try.func72, Try.ntmps72
    go_wp2_with (first | (go_at_call 92; ((with_reducible refine A1.mono ?_); rintro e w' ⟨rfl, rfl⟩)))
    refine bodyPost_ret (v := .tuple #[.agg #[.int .i64 0, .int .i64 0, .int .i64 0, .int .i64 0], .int .i64 10]) (by simp [results, Try.results72, go_sem]) rfl ⟨rfl, below_a1 _ _⟩
  · rw [h1] at A1 ha
    rw [show ys.all mayB = false by simpa using ha] at A2'
    clear h1 ha
    go_enter Try.func72, Try.ntmps72
    go_wp2_with (first | (go_at_call 92; ((with_reducible refine A1.mono ?_); rintro e w' ⟨rfl, rfl⟩)) | (go_at_call 92; ((with_reducible refine A2'.mono ?_); rintro e w' ⟨rfl, rfl⟩)))
    refine bodyPost_ret (v := .tuple #[.agg #[.int .i64 0, .int .i64 0, .int .i64 0, .int .i64 0], .int .i64 10]) (by simp [results, Try.results72, go_sem]) rfl ⟨rfl, below_a1 _ _⟩

theorem hull_none (A A2 : Option Addr) (c c2 : Nat) (w : World) :
    Calls Try.prog 72 #[.slice A 0 c, .slice A2 0 c2] w fun e w' => e = .returned (.tuple #[.agg #[.int .i64 0, .int .i64 0, .int .i64 0, .int .i64 0], .int .i64 0]) ∧ Below w.heap.size w w' := by
  have A1 := fun w => allMay_nil_affine c A w
  have A2' := fun w => allMay_nil_affine c2 A2 w
  go_enter Try.func72, Try.ntmps72
  go_wp2_with (first | (go_at_call 92; ((with_reducible refine (A1 _).mono ?_); rintro e w' ⟨rfl, rfl⟩)) | (go_at_call 92; ((with_reducible refine (A2' _).mono ?_); rintro e w' ⟨rfl, rfl⟩)))
  refine bodyPost_ret (v := .tuple #[.agg #[.int .i64 0, .int .i64 0, .int .i64 0, .int .i64 0], .int .i64 0]) (by simp [results, Try.results72, go_sem]) rfl ⟨rfl, below_a1 _ _⟩

theorem hull_some (A A2 : Option Addr) (n c c2 B0 B1 : Nat) (xs ys : List Int) (w : World) (hx : xs.length = n) (hy : ys.length = n) (hm : n ≤ 9223372036854775807) (h0 : 0 < n) (lx : Lists w B0 A (intCells xs)) (ly : Lists w B1 A2 (intCells ys)) (hB0 : B0 ≤ w.heap.size) (hB1 : B1 ≤ w.heap.size)
    (mx : xs.all mayB = true) (my : ys.all mayB = true) : Calls Try.prog 72 #[.slice A n c, .slice A2 n c2] w fun e w' => e = .returned (.tuple #[.agg #[.int .i64 (hullQ xs ys).x0, .int .i64 (hullQ xs ys).y0, .int .i64 (hullQ xs ys).x1, .int .i64 (hullQ xs ys).y1], .int .i64 0]) ∧ Below w.heap.size w w' := by
  obtain ⟨b, o, rfl, hb, hc⟩ := lists_ints lx (by omega)
  obtain ⟨b2, o2, rfl, hb2, hc2⟩ := lists_ints ly (by omega)
  exact hull_full b o n c b2 o2 c2 xs ys w h0 ⟨hx.symm, hm, by omega, hc⟩ ⟨hy.symm, hm, by omega, hc2⟩ mx my

end Go.Proofs.Ytelhckckcilpaaa

namespace Go.Proofs.Ytelhckckcilpaaa
open Go.RowKit

theorem least_r (x y : Int) (w : World) : Calls Try.prog 98 #[.int .i64 x, .int .i64 y] w fun e w' => e = .returned (.int .i64 (min x y)) ∧ w = w' := rleast_any x y w
theorem most_r (x y : Int) (w : World) : Calls Try.prog 99 #[.int .i64 x, .int .i64 y] w fun e w' => e = .returned (.int .i64 (max x y)) ∧ w = w' := rmost_any x y w

/-- the hull of the first k points -/
def accQ (xs ys : List Int) (k : Nat) : Q := if k = 0 then zeroQ else hullQ (xs.take k) (ys.take k)
def stepQ (A : Q) (x y : Int) : Q := ⟨min A.x0 x, min A.y0 y, max A.x1 x, max A.y1 y⟩

theorem foldl_snoc (f : Int → Int → Int) (zs : List Int) (z0 : Int) (k : Nat) (h : k < zs.length) : (zs.take (k + 1)).foldl f z0 = f ((zs.take k).foldl f z0) (zs.getD k 0) := by
  rw [List.take_succ_eq_append_getElem h, List.foldl_append]; simp [List.getD, h]
theorem getD_take (zs : List Int) (k : Nat) (hk : 0 < k) : (zs.take k).getD 0 0 = zs.getD 0 0 := by simp [List.getD, hk]
theorem acc_first (xs ys : List Int) (hx : 0 < xs.length) (hy : 0 < ys.length) : accQ xs ys 1 = ⟨xs.getD 0 0, ys.getD 0 0, xs.getD 0 0, ys.getD 0 0⟩ := by
  unfold accQ hullQ
  rw [if_neg (by omega), getD_take xs 1 (by omega), getD_take ys 1 (by omega), foldl_snoc _ _ _ 0 hx, foldl_snoc _ _ _ 0 hy, foldl_snoc _ _ _ 0 hx, foldl_snoc _ _ _ 0 hy]
  simp only [List.take_zero, List.foldl_nil, Int.min_self, Int.max_self]
theorem acc_next (xs ys : List Int) (k : Nat) (h0 : 0 < k) (hx : k < xs.length) (hy : k < ys.length) : accQ xs ys (k + 1) = stepQ (accQ xs ys k) (xs.getD k 0) (ys.getD k 0) := by
  unfold accQ hullQ stepQ
  rw [if_neg (by omega), if_neg (by omega), getD_take xs _ (by omega), getD_take ys _ (by omega), getD_take xs _ h0, getD_take ys _ h0, foldl_snoc _ _ _ k hx, foldl_snoc _ _ _ k hy, foldl_snoc _ _ _ k hx, foldl_snoc _ _ _ k hy]

set_option maxHeartbeats 4000000 in
theorem rhull_any (A A2 : Option Addr) (n c c2 : Nat) (xs ys : List Int) (w : World) (hx : xs.length = n) (hy : ys.length = n) (hm : n ≤ 9223372036854775807) (lx : Lists w w.heap.size A (intCells xs)) (ly : Lists w w.heap.size A2 (intCells ys)) :
    Calls Try.prog 82 #[.slice A n c, .slice A2 n c2] w fun e w' => e = .returned (.agg #[.int .i64 (accQ xs ys n).x0, .int .i64 (accQ xs ys n).y0, .int .i64 (accQ xs ys n).x1, .int .i64 (accQ xs ys n).y1]) ∧ Below w.heap.size w w' := by
  have LX := lx.alloc (Nat.le_refl _) (.cells #[.int .i64 0, .int .i64 0, .int .i64 0, .int .i64 0] 68)
  have LY := ly.alloc (Nat.le_refl _) (.cells #[.int .i64 0, .int .i64 0, .int .i64 0, .int .i64 0] 68)
  have HX := Lib.hid hx
  have HY := Lib.hid hy
  have HLX := Lib.hid LX
  have HLY := Lib.hid LY
  clear hx hy lx ly LX LY
  have I0 : Known (w.alloc (.cells #[.int .i64 0, .int .i64 0, .int .i64 0, .int .i64 0] 68)) ((w.alloc (.cells #[.int .i64 0, .int .i64 0, .int .i64 0, .int .i64 0] 68)).alloc (.cells #[.int .i64 0, .int .i64 0, .int .i64 0, .int .i64 0] 68)) [((w.heap.size + 1), [.int .i64 0, .int .i64 0, .int .i64 0, .int .i64 0])] := by simpa using (Known.start (w.alloc (.cells #[.int .i64 0, .int .i64 0, .int .i64 0, .int .i64 0] 68))).new (#[.int .i64 0, .int .i64 0, .int .i64 0, .int .i64 0]) 68
  go_enter Try.func82, Try.ntmps82
  go_wp2
  go_loopw [6] (fun i wr => ∃ k : Nat, k ≤ n ∧ i = .int .i64 k ∧ Known (w.alloc (.cells #[.int .i64 0, .int .i64 0, .int .i64 0, .int .i64 0] 68)) wr [((w.heap.size + 1), [.int .i64 (accQ xs ys k).x0, .int .i64 (accQ xs ys k).y0, .int .i64 (accQ xs ys k).x1, .int .i64 (accQ xs ys k).y1])]) (fun i _ => n - (intOf i).toNat)
  case atStart => exact ⟨0, Nat.zero_le _, rfl, I0⟩
  case round =>
    obtain ⟨k, hk, rfl, I⟩ := hrel
    by_cases hlt : k < n
    · obtain ⟨bx, ox, hA, hbx, hcx⟩ := lists_ints HLX.out (by have := HX.out; omega)
      obtain ⟨bw, oy, hA2, hby, hcy⟩ := lists_ints HLY.out (by have := HY.out; omega)
      subst hA hA2
      have hxk := hcx k (by have := HX.out; omega)
      have hyk := hcy k (by have := HY.out; omega)
      have hx0 := hcx 0 (by have := HX.out; omega)
      have hy0 := hcy 0 (by have := HY.out; omega)
      rw [Nat.add_zero] at hx0 hy0
      have hbx : bx < (w.alloc (.cells #[.int .i64 0, .int .i64 0, .int .i64 0, .int .i64 0] 68)).heap.size := by simp; omega
      have hby : bw < (w.alloc (.cells #[.int .i64 0, .int .i64 0, .int .i64 0, .int .i64 0] 68)).heap.size := by simp; omega
      have hn0 : (0 : Int) < n := by omega
      clear hcx hcy
      rcases Nat.eq_zero_or_pos k with h0 | h0
      · subst h0
        have HAcc := Lib.hid (acc_first xs ys (by have := HX.out; omega) (by have := HY.out; omega))
        clear hxk hyk
        rw [show accQ xs ys 0 = zeroQ from rfl] at I
        generalize xs.getD 0 0 = x0 at *
        generalize ys.getD 0 0 = y0 at *
        go_wp2
        refine wp_region_last (fun w' => Known (w.alloc (.cells #[.int .i64 0, .int .i64 0, .int .i64 0, .int .i64 0] 68)) w' [((w.heap.size + 1), [.int .i64 0, .int .i64 0, .int .i64 0, .int .i64 0])]) _ _ (by rfl) (by kernel_rfl) (by kernel_rfl) (by rfl) (I.drew) ?_
        repeat (first
          | (refine PlanL.skip (by rfl) ?_; simp only [Act.put, List.setIfInBounds_toArray, List.set_cons_zero, List.set_cons_succ])
          | (refine PlanL.val (v := ?_) (by rfl) ?_ ?_; rotate_left; (focus (intro w' hS; have F := hS.2; simp only [KB, CellsAt, Nat.zero_add, Nat.reduceAdd, and_true] at F; have fx0 := (hS.1.cell (p := ⟨bx, ox, none⟩) hbx).trans hx0; have fy0 := (hS.1.cell (p := ⟨bw, oy, none⟩) hby).trans hy0; go_simp <;> with_reducible rfl)); try simp only [Act.put, List.setIfInBounds_toArray, List.set_cons_zero, List.set_cons_succ]))
        refine PlanL.nil ?_
        intro w' hS
        have F := hS.2; simp only [KB, CellsAt, Nat.zero_add, Nat.reduceAdd, and_true] at F; have fx0 := (hS.1.cell (p := ⟨bx, ox, none⟩) hbx).trans hx0; have fy0 := (hS.1.cell (p := ⟨bw, oy, none⟩) hby).trans hy0
        have I1 : Known (w.alloc (.cells #[.int .i64 0, .int .i64 0, .int .i64 0, .int .i64 0] 68)) _ [((w.heap.size + 1), [.int .i64 x0, .int .i64 y0, .int .i64 x0, .int .i64 y0])] := (Known.start (w.alloc (.cells #[.int .i64 0, .int .i64 0, .int .i64 0, .int .i64 0] 68))).put4 (b := (w.heap.size + 1)) (by simp) hS.1 hS.2.1 hS.2.2.1 hS.2.2.2.1 _ _ _ _
        go_wp2
        clear hS F fx0 fy0
        have I := I1
        clear I1
        refine wp_region_last (fun w' => Known (w.alloc (.cells #[.int .i64 0, .int .i64 0, .int .i64 0, .int .i64 0] 68)) w' [((w.heap.size + 1), [.int .i64 x0, .int .i64 y0, .int .i64 x0, .int .i64 y0])]) _ _ (by rfl) (by kernel_rfl) (by kernel_rfl) (by rfl) (I.drew) ?_
        repeat (first
          | (refine PlanL.skip (by rfl) ?_; simp only [Act.put, List.setIfInBounds_toArray, List.set_cons_zero, List.set_cons_succ])
          | (refine PlanL.val (v := ?_) (by rfl) ?_ ?_; rotate_left; (focus (intro w' hS; have F := hS.2; simp only [KB, CellsAt, Nat.zero_add, Nat.reduceAdd, and_true] at F; have fx0 := (hS.1.cell (p := ⟨bx, ox, none⟩) hbx).trans hx0; have fy0 := (hS.1.cell (p := ⟨bw, oy, none⟩) hby).trans hy0; go_simp <;> with_reducible rfl)); try simp only [Act.put, List.setIfInBounds_toArray, List.set_cons_zero, List.set_cons_succ])
          | (refine PlanL.call (v := ?_) (f := ?_) (args := ?_) (by rfl) ?_ ?_ ?_; rotate_left 3; (focus (intro w' hS; have F := hS.2; simp only [KB, CellsAt, Nat.zero_add, Nat.reduceAdd, and_true] at F; have fx0 := (hS.1.cell (p := ⟨bx, ox, none⟩) hbx).trans hx0; have fy0 := (hS.1.cell (p := ⟨bw, oy, none⟩) hby).trans hy0; go_simp; (constructor <;> with_reducible rfl))); (focus (intro w' hS; first | ((with_reducible refine (least_r _ _ _).mono ?_); rintro e w'' ⟨rfl, rfl⟩; refine ⟨?_, hS⟩; with_reducible rfl) | ((with_reducible refine (most_r _ _ _).mono ?_); rintro e w'' ⟨rfl, rfl⟩; refine ⟨?_, hS⟩; with_reducible rfl) | fail)); try simp only [Act.put, List.setIfInBounds_toArray, List.set_cons_zero, List.set_cons_succ]))
        refine PlanL.nil ?_
        intro w' hS
        have F := hS.2; simp only [KB, CellsAt, Nat.zero_add, Nat.reduceAdd, and_true] at F; have fx0 := (hS.1.cell (p := ⟨bx, ox, none⟩) hbx).trans hx0; have fy0 := (hS.1.cell (p := ⟨bw, oy, none⟩) hby).trans hy0
        have I1 : Known (w.alloc (.cells #[.int .i64 0, .int .i64 0, .int .i64 0, .int .i64 0] 68)) _ [((w.heap.size + 1), [.int .i64 x0, .int .i64 y0, .int .i64 x0, .int .i64 y0])] := (Known.start (w.alloc (.cells #[.int .i64 0, .int .i64 0, .int .i64 0, .int .i64 0] 68))).put4 (b := (w.heap.size + 1)) (by simp) hS.1 hS.2.1 hS.2.2.1 hS.2.2.2.1 _ _ _ _
        go_wp2
        go_roundw
        case rel => exact ⟨1, by omega, by go_num, by rw [HAcc.out]; exact I1⟩
        case measure => simp [intOf]; omega
      · have HAcc := Lib.hid (acc_next xs ys k h0 (by have := HX.out; omega) (by have := HY.out; omega))
        have hk0 : ((k : Int) == 0) = false := by simp; omega
        generalize accQ xs ys k = AQ at I HAcc
        generalize xs.getD k 0 = xk at *
        generalize ys.getD k 0 = yk at *
        clear hx0 hy0
        go_wp2
        refine wp_region_last (fun w' => Known (w.alloc (.cells #[.int .i64 0, .int .i64 0, .int .i64 0, .int .i64 0] 68)) w' [((w.heap.size + 1), [.int .i64 AQ.x0, .int .i64 AQ.y0, .int .i64 AQ.x1, .int .i64 AQ.y1])]) _ _ (by rfl) (by kernel_rfl) (by kernel_rfl) (by rfl) (I.drew) ?_
        repeat (first
          | (refine PlanL.skip (by rfl) ?_; simp only [Act.put, List.setIfInBounds_toArray, List.set_cons_zero, List.set_cons_succ])
          | (refine PlanL.val (v := ?_) (by rfl) ?_ ?_; rotate_left; (focus (intro w' hS; have F := hS.2; simp only [KB, CellsAt, Nat.zero_add, Nat.reduceAdd, and_true] at F; have fx := (hS.1.cell (p := ⟨bx, ox + k, none⟩) hbx).trans hxk; have fy := (hS.1.cell (p := ⟨bw, oy + k, none⟩) hby).trans hyk; go_simp <;> with_reducible rfl)); try simp only [Act.put, List.setIfInBounds_toArray, List.set_cons_zero, List.set_cons_succ])
          | (refine PlanL.call (v := ?_) (f := ?_) (args := ?_) (by rfl) ?_ ?_ ?_; rotate_left 3; (focus (intro w' hS; have F := hS.2; simp only [KB, CellsAt, Nat.zero_add, Nat.reduceAdd, and_true] at F; have fx := (hS.1.cell (p := ⟨bx, ox + k, none⟩) hbx).trans hxk; have fy := (hS.1.cell (p := ⟨bw, oy + k, none⟩) hby).trans hyk; go_simp; (constructor <;> with_reducible rfl))); (focus (intro w' hS; first | ((with_reducible refine (least_r _ _ _).mono ?_); rintro e w'' ⟨rfl, rfl⟩; refine ⟨?_, hS⟩; with_reducible rfl) | ((with_reducible refine (most_r _ _ _).mono ?_); rintro e w'' ⟨rfl, rfl⟩; refine ⟨?_, hS⟩; with_reducible rfl) | fail)); try simp only [Act.put, List.setIfInBounds_toArray, List.set_cons_zero, List.set_cons_succ]))
        refine PlanL.nil ?_
        intro w' hS
        have F := hS.2; simp only [KB, CellsAt, Nat.zero_add, Nat.reduceAdd, and_true] at F; have fx := (hS.1.cell (p := ⟨bx, ox + k, none⟩) hbx).trans hxk; have fy := (hS.1.cell (p := ⟨bw, oy + k, none⟩) hby).trans hyk
        have I1 : Known (w.alloc (.cells #[.int .i64 0, .int .i64 0, .int .i64 0, .int .i64 0] 68)) _ [((w.heap.size + 1), [.int .i64 (stepQ AQ xk yk).x0, .int .i64 (stepQ AQ xk yk).y0, .int .i64 (stepQ AQ xk yk).x1, .int .i64 (stepQ AQ xk yk).y1])] := (Known.start (w.alloc (.cells #[.int .i64 0, .int .i64 0, .int .i64 0, .int .i64 0] 68))).put4 (b := (w.heap.size + 1)) (by simp) hS.1 hS.2.1 hS.2.2.1 hS.2.2.2.1 _ _ _ _
        go_wp2
        go_roundw
        case rel => exact ⟨k + 1, by omega, by go_num, by rw [HAcc.out]; exact I1⟩
        case measure => simp [intOf]; omega
    · obtain rfl : k = n := by omega
      have F := I.2
      simp only [KB, CellsAt, Nat.zero_add, Nat.reduceAdd, and_true] at F
      have z0 := (I.1.cell (p := ⟨w.heap.size, 0, none⟩) (by simp))
      have z1 := (I.1.cell (p := ⟨w.heap.size, 1, none⟩) (by simp))
      have z2 := (I.1.cell (p := ⟨w.heap.size, 2, none⟩) (by simp))
      have z3 := (I.1.cell (p := ⟨w.heap.size, 3, none⟩) (by simp))
      have zf := fun o => (I.1.frozen (p := ⟨w.heap.size, o, none⟩) (by simp))
      simp only [World.cell?_alloc_new, World.frozen?_alloc_new] at z0 z1 z2 z3 zf
      go_wp2
      refine bodyPost_ret (v := .agg #[.int .i64 (accQ xs ys k).x0, .int .i64 (accQ xs ys k).y0, .int .i64 (accQ xs ys k).x1, .int .i64 (accQ xs ys k).y1]) (by simp [results, Try.results82, go_sem, *]) rfl ⟨rfl, ?_⟩
      exact below_set4 (b := w.heap.size) ((below_a1 w _).trans (I.1.mono (by simp))) (Nat.le_refl _) _ _ _ _

end Go.Proofs.Ytelhckckcilpaaa
