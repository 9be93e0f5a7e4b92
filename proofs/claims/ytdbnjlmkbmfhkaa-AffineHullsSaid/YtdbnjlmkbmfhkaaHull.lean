/- The hull of points, of the program. -/
import Derived.Test.YtdbnjlmkbmfhkaaBox5
namespace Go.Proofs.Ytdbnjlmkbmfhkaa
open Go.RowKit

theorem fold_least (b off len cap : Nat) (zs : List Int) (w : World) (h0 : 0 < len) (hl : len = zs.length) (hm : len ≤ 9223372036854775807)
    (hc : ∀ j, j < zs.length → w.cell? ⟨b, off + j, none⟩ = some (.int .i64 (zs.getD j 0))) :
    Calls Try.prog 60 #[.func (.func 50) #[] #[], .slice (some ⟨b, off, none⟩) len cap] w fun e w' => e = .returned (.int .i64 (zs.foldl min (zs.getD 0 0))) ∧ w = w' := by
  have HL : Hid (len = zs.length) := hl
  have HC : Hid (∀ j, j < zs.length → w.cell? ⟨b, off + j, none⟩ = some (.int .i64 (zs.getD j 0))) := hc
  have hcell0 : w.cell? ⟨b, off, none⟩ = some (.int .i64 (zs.getD 0 0)) := hc 0 (by omega)
  have hq0 : (0 : Int) < len := by omega
  clear hl hc
  generalize hz0 : zs.getD 0 0 = z0 at *
  clear hz0
  go_enter Try.func60, Try.ntmps60
  go_wp2
  go_loop [5, 7, 13] (fun p _ i => ∃ k : Nat, k ≤ len ∧ i = .int .i64 k ∧ p = .int .i64 ((zs.take k).foldl min z0)) (fun _ _ i => len - (intOf i).toNat)
  case atStart => exact ⟨0, Nat.zero_le _, rfl, rfl⟩
  case round =>
    obtain ⟨k, hk, rfl, rfl⟩ := hrel
    by_cases hlt : k < len
    · have hcell : w.cell? ⟨b, off + k, none⟩ = some (.int .i64 (zs.getD k 0)) := HC.out k (by have := HL.out; omega)
      have hts : (zs.take (k + 1)).foldl min z0 = min ((zs.take k).foldl min z0) (zs.getD k 0) := by
        have hk' : k < zs.length := by have := HL.out; omega
        rw [List.take_succ_eq_append_getElem hk', List.foldl_append]; simp [List.getD, hk']
      generalize zs.getD k 0 = z at hcell hts
      have HT : Hid ((zs.take (k + 1)).foldl min z0 = min ((zs.take k).foldl min z0) z) := hts
      clear hts
      generalize (zs.take k).foldl min z0 = p at *
      go_wp2_with (go_at_call 50; refine (least_any p z _).mono ?_; rintro e w' ⟨rfl, rfl⟩)
      go_round
      case rel => exact ⟨k + 1, by omega, by go_num, by rw [HT.out]⟩
      case measure => simp [intOf]; omega
    · go_wp2
      go_ret
      exact ⟨ret_int (by rw [List.take_of_length_le (by have := HL.out; omega)]), rfl⟩

theorem fold_most (b off len cap : Nat) (zs : List Int) (w : World) (h0 : 0 < len) (hl : len = zs.length) (hm : len ≤ 9223372036854775807)
    (hc : ∀ j, j < zs.length → w.cell? ⟨b, off + j, none⟩ = some (.int .i64 (zs.getD j 0))) :
    Calls Try.prog 60 #[.func (.func 51) #[] #[], .slice (some ⟨b, off, none⟩) len cap] w fun e w' => e = .returned (.int .i64 (zs.foldl max (zs.getD 0 0))) ∧ w = w' := by
  have HL : Hid (len = zs.length) := hl
  have HC : Hid (∀ j, j < zs.length → w.cell? ⟨b, off + j, none⟩ = some (.int .i64 (zs.getD j 0))) := hc
  have hcell0 : w.cell? ⟨b, off, none⟩ = some (.int .i64 (zs.getD 0 0)) := hc 0 (by omega)
  have hq0 : (0 : Int) < len := by omega
  clear hl hc
  generalize hz0 : zs.getD 0 0 = z0 at *
  clear hz0
  go_enter Try.func60, Try.ntmps60
  go_wp2
  go_loop [5, 7, 13] (fun p _ i => ∃ k : Nat, k ≤ len ∧ i = .int .i64 k ∧ p = .int .i64 ((zs.take k).foldl max z0)) (fun _ _ i => len - (intOf i).toNat)
  case atStart => exact ⟨0, Nat.zero_le _, rfl, rfl⟩
  case round =>
    obtain ⟨k, hk, rfl, rfl⟩ := hrel
    by_cases hlt : k < len
    · have hcell : w.cell? ⟨b, off + k, none⟩ = some (.int .i64 (zs.getD k 0)) := HC.out k (by have := HL.out; omega)
      have hts : (zs.take (k + 1)).foldl max z0 = max ((zs.take k).foldl max z0) (zs.getD k 0) := by
        have hk' : k < zs.length := by have := HL.out; omega
        rw [List.take_succ_eq_append_getElem hk', List.foldl_append]; simp [List.getD, hk']
      generalize zs.getD k 0 = z at hcell hts
      have HT : Hid ((zs.take (k + 1)).foldl max z0 = max ((zs.take k).foldl max z0) z) := hts
      clear hts
      generalize (zs.take k).foldl max z0 = p at *
      go_wp2_with (go_at_call 51; refine (most_any p z _).mono ?_; rintro e w' ⟨rfl, rfl⟩)
      go_round
      case rel => exact ⟨k + 1, by omega, by go_num, by rw [HT.out]⟩
      case measure => simp [intOf]; omega
    · go_wp2
      go_ret
      exact ⟨ret_int (by rw [List.take_of_length_le (by have := HL.out; omega)]), rfl⟩

/-- a slice of ints reads as a list, below block n -/
def Ints (w : World) (b off len : Nat) (zs : List Int) : Prop := len = zs.length ∧ len ≤ 9223372036854775807 ∧ b < w.heap.size ∧ ∀ j, j < zs.length → w.cell? ⟨b, off + j, none⟩ = some (.int .i64 (zs.getD j 0))

def hullQ (xs ys : List Int) : Q := ⟨xs.foldl min (xs.getD 0 0), ys.foldl min (ys.getD 0 0), xs.foldl max (xs.getD 0 0), ys.foldl max (ys.getD 0 0)⟩

theorem Ints.alloc {w : World} {b off len : Nat} {zs : List Int} (h : Ints w b off len zs) (o : Obj) : Ints (w.alloc o) b off len zs := by
  obtain ⟨h1, h2, h3, h4⟩ := h
  exact ⟨h1, h2, by simp; omega, fun j hj => ((below_a1 w o).cell (p := ⟨b, off + j, none⟩) h3).trans (h4 j hj)⟩

set_option maxHeartbeats 1000000 in
theorem hull_full (b off len cap b2 off2 cap2 : Nat) (xs ys : List Int) (w : World) (h0 : 0 < len) (hX : Ints w b off len xs) (hY : Ints w b2 off2 len ys) (mx : xs.all mayB = true) (my : ys.all mayB = true) :
    Calls Try.prog 35 #[.slice (some ⟨b, off, none⟩) len cap, .slice (some ⟨b2, off2, none⟩) len cap2] w fun e w' => e = .returned (.tuple #[.agg #[.int .i64 (hullQ xs ys).x0, .int .i64 (hullQ xs ys).y0, .int .i64 (hullQ xs ys).x1, .int .i64 (hullQ xs ys).y1], .int .i64 0]) ∧ Below w.heap.size w w' := by
  obtain ⟨x1, x2, x3, x4⟩ := hX.alloc (.cells #[.int .i64 zeroQ.x0, .int .i64 zeroQ.y0, .int .i64 zeroQ.x1, .int .i64 zeroQ.y1] 37)
  obtain ⟨y1, y2, y3, y4⟩ := hY.alloc (.cells #[.int .i64 zeroQ.x0, .int .i64 zeroQ.y0, .int .i64 zeroQ.x1, .int .i64 zeroQ.y1] 37)
  have A1 := allMay_affine b off len cap xs _ x1 x2 x4
  have A2 := allMay_affine b2 off2 len cap2 ys _ y1 y2 y4
  have F1 := fold_least b off len cap xs _ h0 x1 x2 x4
  have F2 := fold_least b2 off2 len cap2 ys _ h0 y1 y2 y4
  have F3 := fold_most b off len cap xs _ h0 x1 x2 x4
  have F4 := fold_most b2 off2 len cap2 ys _ h0 y1 y2 y4
  rw [mx] at A1
  rw [my] at A2
  have hn : ((len : Int) != (len : Int)) = false := by simp
  have hz : ((len : Int) == 0) = false := by simp; omega
  clear x1 x2 x3 x4 y1 y2 y3 y4 mx my hX hY h0
  unfold hullQ zeroQ at *
  generalize xs.foldl min (xs.getD 0 0) = p1 at *
  generalize ys.foldl min (ys.getD 0 0) = p2 at *
  generalize xs.foldl max (xs.getD 0 0) = p3 at *
  generalize ys.foldl max (ys.getD 0 0) = p4 at *
  dsimp only at *
  go_enter Try.func35, Try.ntmps35
  go_wp2_with (first | (go_at_call 42; ((with_reducible refine A1.mono ?_); rintro e w' ⟨rfl, rfl⟩)) | (go_at_call 42; ((with_reducible refine A2.mono ?_); rintro e w' ⟨rfl, rfl⟩)) | (go_at_call 60; ((with_reducible refine F1.mono ?_); rintro e w' ⟨rfl, rfl⟩)) | (go_at_call 60; ((with_reducible refine F2.mono ?_); rintro e w' ⟨rfl, rfl⟩)) | (go_at_call 60; ((with_reducible refine F3.mono ?_); rintro e w' ⟨rfl, rfl⟩)) | (go_at_call 60; ((with_reducible refine F4.mono ?_); rintro e w' ⟨rfl, rfl⟩)))
  refine bodyPost_ret (v := .tuple #[.agg #[.int .i64 p1, .int .i64 p2, .int .i64 p3, .int .i64 p4], .int .i64 0]) (by simp [results, Try.results35, go_sem, *]) rfl ⟨rfl, ?_⟩
  exact below_a1 _ _

end Go.Proofs.Ytdbnjlmkbmfhkaa
