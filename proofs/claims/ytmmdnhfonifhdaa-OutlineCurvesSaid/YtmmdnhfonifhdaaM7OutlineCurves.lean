/- Part 8 of the proof: Hull, Hull2, RHull, OuH, Then. -/
import Derived.Outline
import Derived.Lib.Hide
import Derived.Test.YtmmdnhfonifhdaaM6OutlineCurves

namespace Go.Proofs.Ytmmdnhfonifhdaa
open Go.RowKit

theorem fold_least (b off len cap : Nat) (zs : List Int) (w : World) (h0 : 0 < len) (hl : len = zs.length) (hm : len ≤ 9223372036854775807)
    (hc : ∀ j, j < zs.length → w.cell? ⟨b, off + j, none⟩ = some (.int .i64 (zs.getD j 0))) :
    Calls Try.prog 50 #[.func (.func 51) #[] #[], .slice (some ⟨b, off, none⟩) len cap] w fun e w' => e = .returned (.int .i64 (zs.foldl min (zs.getD 0 0))) ∧ w = w' := by
  have HL : Hid (len = zs.length) := hl
  have HC : Hid (∀ j, j < zs.length → w.cell? ⟨b, off + j, none⟩ = some (.int .i64 (zs.getD j 0))) := hc
  have hcell0 : w.cell? ⟨b, off, none⟩ = some (.int .i64 (zs.getD 0 0)) := hc 0 (by omega)
  have hq0 : (0 : Int) < len := by omega
  clear hl hc
  generalize hz0 : zs.getD 0 0 = z0 at *
  clear hz0
  go_enter Try.func50, Try.ntmps50
  go_wp2
  go_loop [5, 7, 13] (fun p _ i => ∃ k : Nat, k ≤ len ∧ i = .int .i64 k ∧ p = .int .i64 ((zs.take k).foldl min z0)) (fun _ _ i => len - (intOf i).toNat)
  case atStart => exact ⟨0, Nat.zero_le _, rfl, rfl⟩
  case round =>
    obtain ⟨k, hk, rfl, rfl⟩ := hrel
    by_cases hlt : k < len
    · have hcell : w.cell? ⟨b, off + k, none⟩ = some (.int .i64 (zs.getD k 0)) := HC.out k (by have := HL.out; omega)
      have hts : (zs.take (k + 1)).foldl min z0 = min ((zs.take k).foldl min z0) (zs.getD k 0) := by
        have hk' : k < zs.length := by have := HL.out; omega
        rw [List.take_succ_eq_append_getElem hk', List.foldl_append]; simp [List.getD, hk']
      generalize zs.getD k 0 = z at hcell hts
      have HT : Hid ((zs.take (k + 1)).foldl min z0 = min ((zs.take k).foldl min z0) z) := hts
      clear hts
      generalize (zs.take k).foldl min z0 = p at *
      go_wp2_with (go_at_call 51; refine (least_any p z _).mono ?_; rintro e w' ⟨rfl, rfl⟩)
      go_round
      case rel => exact ⟨k + 1, by omega, by go_num, by rw [HT.out]⟩
      case measure => simp [intOf]; omega
    · go_wp2
      go_ret
      exact ⟨ret_int (by rw [List.take_of_length_le (by have := HL.out; omega)]), rfl⟩

theorem fold_most (b off len cap : Nat) (zs : List Int) (w : World) (h0 : 0 < len) (hl : len = zs.length) (hm : len ≤ 9223372036854775807)
    (hc : ∀ j, j < zs.length → w.cell? ⟨b, off + j, none⟩ = some (.int .i64 (zs.getD j 0))) :
    Calls Try.prog 50 #[.func (.func 52) #[] #[], .slice (some ⟨b, off, none⟩) len cap] w fun e w' => e = .returned (.int .i64 (zs.foldl max (zs.getD 0 0))) ∧ w = w' := by
  have HL : Hid (len = zs.length) := hl
  have HC : Hid (∀ j, j < zs.length → w.cell? ⟨b, off + j, none⟩ = some (.int .i64 (zs.getD j 0))) := hc
  have hcell0 : w.cell? ⟨b, off, none⟩ = some (.int .i64 (zs.getD 0 0)) := hc 0 (by omega)
  have hq0 : (0 : Int) < len := by omega
  clear hl hc
  generalize hz0 : zs.getD 0 0 = z0 at *
  clear hz0
  go_enter Try.func50, Try.ntmps50
  go_wp2
  go_loop [5, 7, 13] (fun p _ i => ∃ k : Nat, k ≤ len ∧ i = .int .i64 k ∧ p = .int .i64 ((zs.take k).foldl max z0)) (fun _ _ i => len - (intOf i).toNat)
  case atStart => exact ⟨0, Nat.zero_le _, rfl, rfl⟩
  case round =>
    obtain ⟨k, hk, rfl, rfl⟩ := hrel
    by_cases hlt : k < len
    · have hcell : w.cell? ⟨b, off + k, none⟩ = some (.int .i64 (zs.getD k 0)) := HC.out k (by have := HL.out; omega)
      have hts : (zs.take (k + 1)).foldl max z0 = max ((zs.take k).foldl max z0) (zs.getD k 0) := by
        have hk' : k < zs.length := by have := HL.out; omega
        rw [List.take_succ_eq_append_getElem hk', List.foldl_append]; simp [List.getD, hk']
      generalize zs.getD k 0 = z at hcell hts
      have HT : Hid ((zs.take (k + 1)).foldl max z0 = max ((zs.take k).foldl max z0) z) := hts
      clear hts
      generalize (zs.take k).foldl max z0 = p at *
      go_wp2_with (go_at_call 52; refine (most_any p z _).mono ?_; rintro e w' ⟨rfl, rfl⟩)
      go_round
      case rel => exact ⟨k + 1, by omega, by go_num, by rw [HT.out]⟩
      case measure => simp [intOf]; omega
    · go_wp2
      go_ret
      exact ⟨ret_int (by rw [List.take_of_length_le (by have := HL.out; omega)]), rfl⟩

/-- a slice of ints reads as a list, below block n -/
def Ints (w : World) (b off len : Nat) (zs : List Int) : Prop := len = zs.length ∧ len ≤ 9223372036854775807 ∧ b < w.heap.size ∧ ∀ j, j < zs.length → w.cell? ⟨b, off + j, none⟩ = some (.int .i64 (zs.getD j 0))

def hullQ (xs ys : List Int) : Q := ⟨xs.foldl min (xs.getD 0 0), ys.foldl min (ys.getD 0 0), xs.foldl max (xs.getD 0 0), ys.foldl max (ys.getD 0 0)⟩

theorem Ints.alloc {w : World} {b off len : Nat} {zs : List Int} (h : Ints w b off len zs) (o : Obj) : Ints (w.alloc o) b off len zs := by
  obtain ⟨h1, h2, h3, h4⟩ := h
  exact ⟨h1, h2, by simp; omega, fun j hj => ((below_a1 w o).cell (p := ⟨b, off + j, none⟩) h3).trans (h4 j hj)⟩

set_option maxHeartbeats 1000000 in
theorem hull_full (b off len cap b2 off2 cap2 : Nat) (xs ys : List Int) (w : World) (h0 : 0 < len) (hX : Ints w b off len xs) (hY : Ints w b2 off2 len ys) (mx : xs.all mayB = true) (my : ys.all mayB = true) :
    Calls Try.prog 28 #[.slice (some ⟨b, off, none⟩) len cap, .slice (some ⟨b2, off2, none⟩) len cap2] w fun e w' => e = .returned (.tuple #[.agg #[.int .i64 (hullQ xs ys).x0, .int .i64 (hullQ xs ys).y0, .int .i64 (hullQ xs ys).x1, .int .i64 (hullQ xs ys).y1], .int .i64 0]) ∧ Below w.heap.size w w' := by
  obtain ⟨x1, x2, x3, x4⟩ := hX.alloc (.cells #[.int .i64 zeroQ.x0, .int .i64 zeroQ.y0, .int .i64 zeroQ.x1, .int .i64 zeroQ.y1] 28)
  obtain ⟨y1, y2, y3, y4⟩ := hY.alloc (.cells #[.int .i64 zeroQ.x0, .int .i64 zeroQ.y0, .int .i64 zeroQ.x1, .int .i64 zeroQ.y1] 28)
  have A1 := allMay_affine b off len cap xs _ x1 x2 x4
  have A2 := allMay_affine b2 off2 len cap2 ys _ y1 y2 y4
  have F1 := fold_least b off len cap xs _ h0 x1 x2 x4
  have F2 := fold_least b2 off2 len cap2 ys _ h0 y1 y2 y4
  have F3 := fold_most b off len cap xs _ h0 x1 x2 x4
  have F4 := fold_most b2 off2 len cap2 ys _ h0 y1 y2 y4
  rw [mx] at A1
  rw [my] at A2
  have hn : ((len : Int) != (len : Int)) = false := by simp
  have hz : ((len : Int) == 0) = false := by simp; omega
  clear x1 x2 x3 x4 y1 y2 y3 y4 mx my hX hY h0
  unfold hullQ zeroQ at *
  generalize xs.foldl min (xs.getD 0 0) = p1 at *
  generalize ys.foldl min (ys.getD 0 0) = p2 at *
  generalize xs.foldl max (xs.getD 0 0) = p3 at *
  generalize ys.foldl max (ys.getD 0 0) = p4 at *
  dsimp only at *
  go_enter Try.func28, Try.ntmps28
  go_wp2_with (first | (go_at_call 49; ((with_reducible refine A1.mono ?_); rintro e w' ⟨rfl, rfl⟩)) | (go_at_call 49; ((with_reducible refine A2.mono ?_); rintro e w' ⟨rfl, rfl⟩)) | (go_at_call 50; ((with_reducible refine F1.mono ?_); rintro e w' ⟨rfl, rfl⟩)) | (go_at_call 50; ((with_reducible refine F2.mono ?_); rintro e w' ⟨rfl, rfl⟩)) | (go_at_call 50; ((with_reducible refine F3.mono ?_); rintro e w' ⟨rfl, rfl⟩)) | (go_at_call 50; ((with_reducible refine F4.mono ?_); rintro e w' ⟨rfl, rfl⟩)))
  refine bodyPost_ret (v := .tuple #[.agg #[.int .i64 p1, .int .i64 p2, .int .i64 p3, .int .i64 p4], .int .i64 0]) (by simp [results, Try.results28, go_sem, *]) rfl ⟨rfl, ?_⟩
  exact below_a1 _ _

end Go.Proofs.Ytmmdnhfonifhdaa

namespace Go.Proofs.Ytmmdnhfonifhdaa
open Go.RowKit

theorem lists_ints {w : World} {B0 : Nat} {A : Option Addr} {zs : List Int} (h : Lists w B0 A (intCells zs)) (h0 : 0 < zs.length) :
    ∃ b o, A = some ⟨b, o, none⟩ ∧ b < B0 ∧ ∀ j, j < zs.length → w.cell? ⟨b, o + j, none⟩ = some (.int .i64 (zs.getD j 0)) := by
  obtain ⟨b, o, hA, hb, hc⟩ := h.plain (by intro e; have := intCells_len zs; rw [e] at this; simp at this; omega)
  exact ⟨b, o, hA, hb, fun j hj => hc j _ (intCells_get zs j hj)⟩

theorem allMay_lists (A : Option Addr) (n c B0 : Nat) (zs : List Int) (w : World) (hn : zs.length = n) (hm : n ≤ 9223372036854775807) (h : Lists w B0 A (intCells zs)) :
    Calls Try.prog 49 #[.slice A n c] w fun e w' => e = .returned (.bool (zs.all mayB)) ∧ w = w' := by
  rcases Nat.eq_zero_or_pos n with h0 | h0
  · subst h0
    obtain rfl : zs = [] := List.eq_nil_of_length_eq_zero hn
    exact allMay_nil_affine c A w
  · obtain ⟨b, o, rfl, _, hc⟩ := lists_ints h (by omega)
    exact allMay_affine b o n c zs w hn.symm hm hc

theorem hull_differ (A A2 : Option Addr) (n c n2 c2 : Nat) (w : World) (hn : n ≠ n2) :
    Calls Try.prog 28 #[.slice A n c, .slice A2 n2 c2] w fun e w' => e = .returned (.tuple #[.agg #[.int .i64 0, .int .i64 0, .int .i64 0, .int .i64 0], .int .i64 1]) ∧ Below w.heap.size w w' := by
  have hd : ((n : Int) != (n2 : Int)) = true := by simp; omega
  clear hn
  go_enter Try.func28, Try.ntmps28
  go_wp2
  refine bodyPost_ret (v := .tuple #[.agg #[.int .i64 0, .int .i64 0, .int .i64 0, .int .i64 0], .int .i64 1]) (by simp [results, Try.results28, go_sem]) rfl ⟨rfl, below_a1 _ _⟩

theorem hull_over (A A2 : Option Addr) (n c c2 B0 B1 : Nat) (xs ys : List Int) (w : World) (hx : xs.length = n) (hy : ys.length = n) (hm : n ≤ 9223372036854775807) (lx : Lists w B0 A (intCells xs)) (ly : Lists w B1 A2 (intCells ys)) (hB0 : B0 ≤ w.heap.size) (hB1 : B1 ≤ w.heap.size)
    (ha : (xs.all mayB && ys.all mayB) = false) :
    Calls Try.prog 28 #[.slice A n c, .slice A2 n c2] w fun e w' => e = .returned (.tuple #[.agg #[.int .i64 0, .int .i64 0, .int .i64 0, .int .i64 0], .int .i64 10]) ∧ Below w.heap.size w w' := by
  have A1 := allMay_lists A n c B0 xs _ hx hm (lx.alloc hB0 (.cells #[.int .i64 0, .int .i64 0, .int .i64 0, .int .i64 0] 28))
  have A2' := allMay_lists A2 n c2 B1 ys _ hy hm (ly.alloc hB1 (.cells #[.int .i64 0, .int .i64 0, .int .i64 0, .int .i64 0] 28))
  have hd : ((n : Int) != (n : Int)) = false := by simp
  clear hx hy lx ly hB0 hB1
  cases h1 : xs.all mayB
  · rw [h1] at A1
    clear h1 ha A2'
    go_enter Try.func28, Try.ntmps28
    go_wp2_with (first | (go_at_call 49; ((with_reducible refine A1.mono ?_); rintro e w' ⟨rfl, rfl⟩)))
    refine bodyPost_ret (v := .tuple #[.agg #[.int .i64 0, .int .i64 0, .int .i64 0, .int .i64 0], .int .i64 10]) (by simp [results, Try.results28, go_sem]) rfl ⟨rfl, below_a1 _ _⟩
  · rw [h1] at A1 ha
    rw [show ys.all mayB = false by simpa using ha] at A2'
    clear h1 ha
    go_enter Try.func28, Try.ntmps28
    go_wp2_with (first | (go_at_call 49; ((with_reducible refine A1.mono ?_); rintro e w' ⟨rfl, rfl⟩)) | (go_at_call 49; ((with_reducible refine A2'.mono ?_); rintro e w' ⟨rfl, rfl⟩)))
    refine bodyPost_ret (v := .tuple #[.agg #[.int .i64 0, .int .i64 0, .int .i64 0, .int .i64 0], .int .i64 10]) (by simp [results, Try.results28, go_sem]) rfl ⟨rfl, below_a1 _ _⟩

theorem hull_none (A A2 : Option Addr) (c c2 : Nat) (w : World) :
    Calls Try.prog 28 #[.slice A 0 c, .slice A2 0 c2] w fun e w' => e = .returned (.tuple #[.agg #[.int .i64 0, .int .i64 0, .int .i64 0, .int .i64 0], .int .i64 0]) ∧ Below w.heap.size w w' := by
  have A1 := fun w => allMay_nil_affine c A w
  have A2' := fun w => allMay_nil_affine c2 A2 w
  go_enter Try.func28, Try.ntmps28
  go_wp2_with (first | (go_at_call 49; ((with_reducible refine (A1 _).mono ?_); rintro e w' ⟨rfl, rfl⟩)) | (go_at_call 49; ((with_reducible refine (A2' _).mono ?_); rintro e w' ⟨rfl, rfl⟩)))
  refine bodyPost_ret (v := .tuple #[.agg #[.int .i64 0, .int .i64 0, .int .i64 0, .int .i64 0], .int .i64 0]) (by simp [results, Try.results28, go_sem]) rfl ⟨rfl, below_a1 _ _⟩

theorem hull_some (A A2 : Option Addr) (n c c2 B0 B1 : Nat) (xs ys : List Int) (w : World) (hx : xs.length = n) (hy : ys.length = n) (hm : n ≤ 9223372036854775807) (h0 : 0 < n) (lx : Lists w B0 A (intCells xs)) (ly : Lists w B1 A2 (intCells ys)) (hB0 : B0 ≤ w.heap.size) (hB1 : B1 ≤ w.heap.size)
    (mx : xs.all mayB = true) (my : ys.all mayB = true) : Calls Try.prog 28 #[.slice A n c, .slice A2 n c2] w fun e w' => e = .returned (.tuple #[.agg #[.int .i64 (hullQ xs ys).x0, .int .i64 (hullQ xs ys).y0, .int .i64 (hullQ xs ys).x1, .int .i64 (hullQ xs ys).y1], .int .i64 0]) ∧ Below w.heap.size w w' := by
  obtain ⟨b, o, rfl, hb, hc⟩ := lists_ints lx (by omega)
  obtain ⟨b2, o2, rfl, hb2, hc2⟩ := lists_ints ly (by omega)
  exact hull_full b o n c b2 o2 c2 xs ys w h0 ⟨hx.symm, hm, by omega, hc⟩ ⟨hy.symm, hm, by omega, hc2⟩ mx my

end Go.Proofs.Ytmmdnhfonifhdaa

namespace Go.Proofs.Ytmmdnhfonifhdaa
open Go.RowKit

theorem least_r (x y : Int) (w : World) : Calls Try.prog 55 #[.int .i64 x, .int .i64 y] w fun e w' => e = .returned (.int .i64 (min x y)) ∧ w = w' := rleast_any x y w
theorem most_r (x y : Int) (w : World) : Calls Try.prog 56 #[.int .i64 x, .int .i64 y] w fun e w' => e = .returned (.int .i64 (max x y)) ∧ w = w' := rmost_any x y w

/-- the hull of the first k points -/
def accQ (xs ys : List Int) (k : Nat) : Q := if k = 0 then zeroQ else hullQ (xs.take k) (ys.take k)
def stepQ (A : Q) (x y : Int) : Q := ⟨min A.x0 x, min A.y0 y, max A.x1 x, max A.y1 y⟩

theorem foldl_snoc (f : Int → Int → Int) (zs : List Int) (z0 : Int) (k : Nat) (h : k < zs.length) : (zs.take (k + 1)).foldl f z0 = f ((zs.take k).foldl f z0) (zs.getD k 0) := by
  rw [List.take_succ_eq_append_getElem h, List.foldl_append]; simp [List.getD, h]
theorem getD_take (zs : List Int) (k : Nat) (hk : 0 < k) : (zs.take k).getD 0 0 = zs.getD 0 0 := by simp [List.getD, hk]
theorem acc_first (xs ys : List Int) (hx : 0 < xs.length) (hy : 0 < ys.length) : accQ xs ys 1 = ⟨xs.getD 0 0, ys.getD 0 0, xs.getD 0 0, ys.getD 0 0⟩ := by
  unfold accQ hullQ
  rw [if_neg (by omega), getD_take xs 1 (by omega), getD_take ys 1 (by omega), foldl_snoc _ _ _ 0 hx, foldl_snoc _ _ _ 0 hy, foldl_snoc _ _ _ 0 hx, foldl_snoc _ _ _ 0 hy]
  simp only [List.take_zero, List.foldl_nil, Int.min_self, Int.max_self]
theorem acc_next (xs ys : List Int) (k : Nat) (h0 : 0 < k) (hx : k < xs.length) (hy : k < ys.length) : accQ xs ys (k + 1) = stepQ (accQ xs ys k) (xs.getD k 0) (ys.getD k 0) := by
  unfold accQ hullQ stepQ
  rw [if_neg (by omega), if_neg (by omega), getD_take xs _ (by omega), getD_take ys _ (by omega), getD_take xs _ h0, getD_take ys _ h0, foldl_snoc _ _ _ k hx, foldl_snoc _ _ _ k hy, foldl_snoc _ _ _ k hx, foldl_snoc _ _ _ k hy]

set_option maxHeartbeats 4000000 in
theorem rhull_any (A A2 : Option Addr) (n c c2 : Nat) (xs ys : List Int) (w : World) (hx : xs.length = n) (hy : ys.length = n) (hm : n ≤ 9223372036854775807) (lx : Lists w w.heap.size A (intCells xs)) (ly : Lists w w.heap.size A2 (intCells ys)) :
    Calls Try.prog 32 #[.slice A n c, .slice A2 n c2] w fun e w' => e = .returned (.agg #[.int .i64 (accQ xs ys n).x0, .int .i64 (accQ xs ys n).y0, .int .i64 (accQ xs ys n).x1, .int .i64 (accQ xs ys n).y1]) ∧ Below w.heap.size w w' := by
  have LX := lx.alloc (Nat.le_refl _) (.cells #[.int .i64 0, .int .i64 0, .int .i64 0, .int .i64 0] 28)
  have LY := ly.alloc (Nat.le_refl _) (.cells #[.int .i64 0, .int .i64 0, .int .i64 0, .int .i64 0] 28)
  have HX := Lib.hid hx
  have HY := Lib.hid hy
  have HLX := Lib.hid LX
  have HLY := Lib.hid LY
  clear hx hy lx ly LX LY
  have I0 : Known (w.alloc (.cells #[.int .i64 0, .int .i64 0, .int .i64 0, .int .i64 0] 28)) ((w.alloc (.cells #[.int .i64 0, .int .i64 0, .int .i64 0, .int .i64 0] 28)).alloc (.cells #[.int .i64 0, .int .i64 0, .int .i64 0, .int .i64 0] 28)) [((w.heap.size + 1), [.int .i64 0, .int .i64 0, .int .i64 0, .int .i64 0])] := by simpa using (Known.start (w.alloc (.cells #[.int .i64 0, .int .i64 0, .int .i64 0, .int .i64 0] 28))).new (#[.int .i64 0, .int .i64 0, .int .i64 0, .int .i64 0]) 28
  go_enter Try.func32, Try.ntmps32
  go_wp2
  go_loopw [6] (fun i wr => ∃ k : Nat, k ≤ n ∧ i = .int .i64 k ∧ Known (w.alloc (.cells #[.int .i64 0, .int .i64 0, .int .i64 0, .int .i64 0] 28)) wr [((w.heap.size + 1), [.int .i64 (accQ xs ys k).x0, .int .i64 (accQ xs ys k).y0, .int .i64 (accQ xs ys k).x1, .int .i64 (accQ xs ys k).y1])]) (fun i _ => n - (intOf i).toNat)
  case atStart => exact ⟨0, Nat.zero_le _, rfl, I0⟩
  case round =>
    obtain ⟨k, hk, rfl, I⟩ := hrel
    by_cases hlt : k < n
    · obtain ⟨bx, ox, hA, hbx, hcx⟩ := lists_ints HLX.out (by have := HX.out; omega)
      obtain ⟨bw, oy, hA2, hby, hcy⟩ := lists_ints HLY.out (by have := HY.out; omega)
      subst hA hA2
      have hxk := hcx k (by have := HX.out; omega)
      have hyk := hcy k (by have := HY.out; omega)
      have hx0 := hcx 0 (by have := HX.out; omega)
      have hy0 := hcy 0 (by have := HY.out; omega)
      rw [Nat.add_zero] at hx0 hy0
      have hbx : bx < (w.alloc (.cells #[.int .i64 0, .int .i64 0, .int .i64 0, .int .i64 0] 28)).heap.size := by simp; omega
      have hby : bw < (w.alloc (.cells #[.int .i64 0, .int .i64 0, .int .i64 0, .int .i64 0] 28)).heap.size := by simp; omega
      have hn0 : (0 : Int) < n := by omega
      clear hcx hcy
      rcases Nat.eq_zero_or_pos k with h0 | h0
      · subst h0
        have HAcc := Lib.hid (acc_first xs ys (by have := HX.out; omega) (by have := HY.out; omega))
        clear hxk hyk
        rw [show accQ xs ys 0 = zeroQ from rfl] at I
        generalize xs.getD 0 0 = x0 at *
        generalize ys.getD 0 0 = y0 at *
        go_wp2
        refine wp_region_last (fun w' => Known (w.alloc (.cells #[.int .i64 0, .int .i64 0, .int .i64 0, .int .i64 0] 28)) w' [((w.heap.size + 1), [.int .i64 0, .int .i64 0, .int .i64 0, .int .i64 0])]) _ _ (by rfl) (by kernel_rfl) (by kernel_rfl) (by rfl) (I.drew) ?_
        repeat (first
          | (refine PlanL.skip (by rfl) ?_; simp only [Act.put, List.setIfInBounds_toArray, List.set_cons_zero, List.set_cons_succ])
          | (refine PlanL.val (v := ?_) (by rfl) ?_ ?_; rotate_left; (focus (intro w' hS; have F := hS.2; simp only [KB, CellsAt, Nat.zero_add, Nat.reduceAdd, and_true] at F; have fx0 := (hS.1.cell (p := ⟨bx, ox, none⟩) hbx).trans hx0; have fy0 := (hS.1.cell (p := ⟨bw, oy, none⟩) hby).trans hy0; go_simp <;> with_reducible rfl)); try simp only [Act.put, List.setIfInBounds_toArray, List.set_cons_zero, List.set_cons_succ]))
        refine PlanL.nil ?_
        intro w' hS
        have F := hS.2; simp only [KB, CellsAt, Nat.zero_add, Nat.reduceAdd, and_true] at F; have fx0 := (hS.1.cell (p := ⟨bx, ox, none⟩) hbx).trans hx0; have fy0 := (hS.1.cell (p := ⟨bw, oy, none⟩) hby).trans hy0
        have I1 : Known (w.alloc (.cells #[.int .i64 0, .int .i64 0, .int .i64 0, .int .i64 0] 28)) _ [((w.heap.size + 1), [.int .i64 x0, .int .i64 y0, .int .i64 x0, .int .i64 y0])] := (Known.start (w.alloc (.cells #[.int .i64 0, .int .i64 0, .int .i64 0, .int .i64 0] 28))).put4 (b := (w.heap.size + 1)) (by simp) hS.1 hS.2.1 hS.2.2.1 hS.2.2.2.1 _ _ _ _
        go_wp2
        clear hS F fx0 fy0
        have I := I1
        clear I1
        refine wp_region_last (fun w' => Known (w.alloc (.cells #[.int .i64 0, .int .i64 0, .int .i64 0, .int .i64 0] 28)) w' [((w.heap.size + 1), [.int .i64 x0, .int .i64 y0, .int .i64 x0, .int .i64 y0])]) _ _ (by rfl) (by kernel_rfl) (by kernel_rfl) (by rfl) (I.drew) ?_
        repeat (first
          | (refine PlanL.skip (by rfl) ?_; simp only [Act.put, List.setIfInBounds_toArray, List.set_cons_zero, List.set_cons_succ])
          | (refine PlanL.val (v := ?_) (by rfl) ?_ ?_; rotate_left; (focus (intro w' hS; have F := hS.2; simp only [KB, CellsAt, Nat.zero_add, Nat.reduceAdd, and_true] at F; have fx0 := (hS.1.cell (p := ⟨bx, ox, none⟩) hbx).trans hx0; have fy0 := (hS.1.cell (p := ⟨bw, oy, none⟩) hby).trans hy0; go_simp <;> with_reducible rfl)); try simp only [Act.put, List.setIfInBounds_toArray, List.set_cons_zero, List.set_cons_succ])
          | (refine PlanL.call (v := ?_) (f := ?_) (args := ?_) (by rfl) ?_ ?_ ?_; rotate_left 3; (focus (intro w' hS; have F := hS.2; simp only [KB, CellsAt, Nat.zero_add, Nat.reduceAdd, and_true] at F; have fx0 := (hS.1.cell (p := ⟨bx, ox, none⟩) hbx).trans hx0; have fy0 := (hS.1.cell (p := ⟨bw, oy, none⟩) hby).trans hy0; go_simp; (constructor <;> with_reducible rfl))); (focus (intro w' hS; first | ((with_reducible refine (least_r _ _ _).mono ?_); rintro e w'' ⟨rfl, rfl⟩; refine ⟨?_, hS⟩; with_reducible rfl) | ((with_reducible refine (most_r _ _ _).mono ?_); rintro e w'' ⟨rfl, rfl⟩; refine ⟨?_, hS⟩; with_reducible rfl) | fail)); try simp only [Act.put, List.setIfInBounds_toArray, List.set_cons_zero, List.set_cons_succ]))
        refine PlanL.nil ?_
        intro w' hS
        have F := hS.2; simp only [KB, CellsAt, Nat.zero_add, Nat.reduceAdd, and_true] at F; have fx0 := (hS.1.cell (p := ⟨bx, ox, none⟩) hbx).trans hx0; have fy0 := (hS.1.cell (p := ⟨bw, oy, none⟩) hby).trans hy0
        have I1 : Known (w.alloc (.cells #[.int .i64 0, .int .i64 0, .int .i64 0, .int .i64 0] 28)) _ [((w.heap.size + 1), [.int .i64 x0, .int .i64 y0, .int .i64 x0, .int .i64 y0])] := (Known.start (w.alloc (.cells #[.int .i64 0, .int .i64 0, .int .i64 0, .int .i64 0] 28))).put4 (b := (w.heap.size + 1)) (by simp) hS.1 hS.2.1 hS.2.2.1 hS.2.2.2.1 _ _ _ _
        go_wp2
        go_roundw
        case rel => exact ⟨1, by omega, by go_num, by rw [HAcc.out]; exact I1⟩
        case measure => simp [intOf]; omega
      · have HAcc := Lib.hid (acc_next xs ys k h0 (by have := HX.out; omega) (by have := HY.out; omega))
        have hk0 : ((k : Int) == 0) = false := by simp; omega
        generalize accQ xs ys k = AQ at I HAcc
        generalize xs.getD k 0 = xk at *
        generalize ys.getD k 0 = yk at *
        clear hx0 hy0
        go_wp2
        refine wp_region_last (fun w' => Known (w.alloc (.cells #[.int .i64 0, .int .i64 0, .int .i64 0, .int .i64 0] 28)) w' [((w.heap.size + 1), [.int .i64 AQ.x0, .int .i64 AQ.y0, .int .i64 AQ.x1, .int .i64 AQ.y1])]) _ _ (by rfl) (by kernel_rfl) (by kernel_rfl) (by rfl) (I.drew) ?_
        repeat (first
          | (refine PlanL.skip (by rfl) ?_; simp only [Act.put, List.setIfInBounds_toArray, List.set_cons_zero, List.set_cons_succ])
          | (refine PlanL.val (v := ?_) (by rfl) ?_ ?_; rotate_left; (focus (intro w' hS; have F := hS.2; simp only [KB, CellsAt, Nat.zero_add, Nat.reduceAdd, and_true] at F; have fx := (hS.1.cell (p := ⟨bx, ox + k, none⟩) hbx).trans hxk; have fy := (hS.1.cell (p := ⟨bw, oy + k, none⟩) hby).trans hyk; go_simp <;> with_reducible rfl)); try simp only [Act.put, List.setIfInBounds_toArray, List.set_cons_zero, List.set_cons_succ])
          | (refine PlanL.call (v := ?_) (f := ?_) (args := ?_) (by rfl) ?_ ?_ ?_; rotate_left 3; (focus (intro w' hS; have F := hS.2; simp only [KB, CellsAt, Nat.zero_add, Nat.reduceAdd, and_true] at F; have fx := (hS.1.cell (p := ⟨bx, ox + k, none⟩) hbx).trans hxk; have fy := (hS.1.cell (p := ⟨bw, oy + k, none⟩) hby).trans hyk; go_simp; (constructor <;> with_reducible rfl))); (focus (intro w' hS; first | ((with_reducible refine (least_r _ _ _).mono ?_); rintro e w'' ⟨rfl, rfl⟩; refine ⟨?_, hS⟩; with_reducible rfl) | ((with_reducible refine (most_r _ _ _).mono ?_); rintro e w'' ⟨rfl, rfl⟩; refine ⟨?_, hS⟩; with_reducible rfl) | fail)); try simp only [Act.put, List.setIfInBounds_toArray, List.set_cons_zero, List.set_cons_succ]))
        refine PlanL.nil ?_
        intro w' hS
        have F := hS.2; simp only [KB, CellsAt, Nat.zero_add, Nat.reduceAdd, and_true] at F; have fx := (hS.1.cell (p := ⟨bx, ox + k, none⟩) hbx).trans hxk; have fy := (hS.1.cell (p := ⟨bw, oy + k, none⟩) hby).trans hyk
        have I1 : Known (w.alloc (.cells #[.int .i64 0, .int .i64 0, .int .i64 0, .int .i64 0] 28)) _ [((w.heap.size + 1), [.int .i64 (stepQ AQ xk yk).x0, .int .i64 (stepQ AQ xk yk).y0, .int .i64 (stepQ AQ xk yk).x1, .int .i64 (stepQ AQ xk yk).y1])] := (Known.start (w.alloc (.cells #[.int .i64 0, .int .i64 0, .int .i64 0, .int .i64 0] 28))).put4 (b := (w.heap.size + 1)) (by simp) hS.1 hS.2.1 hS.2.2.1 hS.2.2.2.1 _ _ _ _
        go_wp2
        go_roundw
        case rel => exact ⟨k + 1, by omega, by go_num, by rw [HAcc.out]; exact I1⟩
        case measure => simp [intOf]; omega
    · obtain rfl : k = n := by omega
      have F := I.2
      simp only [KB, CellsAt, Nat.zero_add, Nat.reduceAdd, and_true] at F
      have z0 := (I.1.cell (p := ⟨w.heap.size, 0, none⟩) (by simp))
      have z1 := (I.1.cell (p := ⟨w.heap.size, 1, none⟩) (by simp))
      have z2 := (I.1.cell (p := ⟨w.heap.size, 2, none⟩) (by simp))
      have z3 := (I.1.cell (p := ⟨w.heap.size, 3, none⟩) (by simp))
      have zf := fun o => (I.1.frozen (p := ⟨w.heap.size, o, none⟩) (by simp))
      simp only [World.cell?_alloc_new, World.frozen?_alloc_new] at z0 z1 z2 z3 zf
      go_wp2
      refine bodyPost_ret (v := .agg #[.int .i64 (accQ xs ys k).x0, .int .i64 (accQ xs ys k).y0, .int .i64 (accQ xs ys k).x1, .int .i64 (accQ xs ys k).y1]) (by simp [results, Try.results32, go_sem, *]) rfl ⟨rfl, ?_⟩
      exact below_set4 (b := w.heap.size) ((below_a1 w _).trans (I.1.mono (by simp))) (Nat.le_refl _) _ _ _ _

end Go.Proofs.Ytmmdnhfonifhdaa

namespace Go.Proofs.Ytmmdnhfonifhdaa
open Go Go.RowKit

/-- The rows of all X, and of all Y, so far. -/
def HSt (w0 wr : World) (av bv : Value) (P : List Pt) : Prop :=
  wr.ownsRow w0.heap.size 3 1 av P.length (intCells (P.map (·.1))) ∧ wr.ownsRow w0.heap.size 3 1 bv P.length (intCells (P.map (·.2.1))) ∧ (∀ b ∈ blk av, b ∉ blk bv) ∧ Below w0.heap.size w0 wr
theorem HSt.step {w0 wr W0 W1 : World} {av bv v1 v2 : Value} {P P' : List Pt} {p : Pt} (h : HSt w0 wr av bv P) (hP : P' = P ++ [p]) (o1 : W1.ownsRow w0.heap.size 3 1 v1 (P.length + 1) (intCells (P.map (·.1)) ++ [.int .i64 p.1])) (o2 : W1.ownsRow w0.heap.size 3 1 v2 (P.length + 1) (intCells (P.map (·.2.1)) ++ [.int .i64 p.2.1]))
    (hsep : ∀ b ∈ blk v1, b ∉ blk v2) (hon : Only W0 W1 (blk av ++ blk bv)) (hb : Below wr.heap.size wr W0) : HSt w0 W1 v1 v2 P' := by
  subst hP
  refine ⟨?_, ?_, hsep, ?_⟩
  · rw [List.length_append, List.map_append]; unfold intCells at o1 ⊢; rw [List.map_append]; exact o1
  · rw [List.length_append, List.map_append]; unfold intCells at o2 ⊢; rw [List.map_append]; exact o2
  · have hs := h.2.2.2.size
    refine (h.2.2.2.trans (hb.mono hs)).trans (hon.to_below (Nat.le_trans hs hb.size) (fun b hm => ?_))
    rcases List.mem_append.1 hm with hm | hm
    · exact own_low2 h.1 b hm
    · exact own_low2 h.2.1 b hm
theorem cntO_flat (Ls : List (List Pt)) : Ls.flatten.length = cntO Ls := by simp [cntO, List.length_flatten]
theorem cntO_take (Ls : List (List Pt)) (k : Nat) : cntO (Ls.take k) ≤ cntO Ls := by
  have h : cntO Ls = cntO (Ls.take k) + cntO (Ls.drop k) := by
    unfold cntO
    rw [← List.sum_append, ← List.map_append, List.take_append_drop]
  omega
def boxO (Ls : List (List Pt)) : Q := accQ (Ls.flatten.map (·.1)) (Ls.flatten.map (·.2.1)) Ls.flatten.length
theorem fair_flat {Ls : List (List Pt)} (h : ∀ L ∈ Ls, mayC L = true) : Fair Ls.flatten := by
  intro p hp
  obtain ⟨L, hL, hp⟩ := List.mem_flatten.1 hp
  exact fair_of (h L hL) p hp
theorem hull_rows (w : World) (Ls : List (List Pt)) (wr : World) (av bv : Value) (hH : HSt (w.alloc (.cells #[.int .i64 0, .int .i64 0, .int .i64 0, .int .i64 0] 28)) wr av bv Ls.flatten) (hc : cntO Ls ≤ 4096) (hm : ∀ L ∈ Ls, mayC L = true) :
    Calls Try.prog 28 #[av, bv] wr fun e w' => e = .returned (.tuple #[.agg #[.int .i64 (boxO Ls).x0, .int .i64 (boxO Ls).y0, .int .i64 (boxO Ls).x1, .int .i64 (boxO Ls).y1], .int .i64 0]) ∧ Below wr.heap.size wr w' := by
  obtain ⟨A1, c1, rfl, l1, _⟩ := own_lists hH.1
  obtain ⟨A2, c2, rfl, l2, _⟩ := own_lists hH.2.1
  have hf := fair_flat hm
  have hlen := cntO_flat Ls
  rcases Nat.eq_zero_or_pos Ls.flatten.length with h0 | h0
  · have := hull_none A1 A2 c1 c2 wr
    unfold boxO accQ
    rw [if_pos h0, h0]
    exact this
  · have := hull_some A1 A2 Ls.flatten.length c1 c2 _ _ (Ls.flatten.map (·.1)) (Ls.flatten.map (·.2.1)) wr (List.length_map _) (List.length_map _) (by omega) h0 l1 l2 (Nat.le_refl _) (Nat.le_refl _)
      (by rw [List.all_map, List.all_eq_true]; exact fun p hp => (hf p hp).1) (by rw [List.all_map, List.all_eq_true]; exact fun p hp => (hf p hp).2)
    unfold boxO accQ
    rw [if_neg (by omega), List.take_of_length_le (Nat.le_of_eq (List.length_map _)), List.take_of_length_le (Nat.le_of_eq (List.length_map _))]
    exact this
theorem rhull_rows (w : World) (Ls : List (List Pt)) (wr : World) (av bv : Value) (hH : HSt (w.alloc (.cells #[.int .i64 0, .int .i64 0, .int .i64 0, .int .i64 0] 28)) wr av bv Ls.flatten) (hc : cntO Ls ≤ 4096) :
    Calls Try.prog 32 #[av, bv] wr fun e w' => e = .returned (.agg #[.int .i64 (boxO Ls).x0, .int .i64 (boxO Ls).y0, .int .i64 (boxO Ls).x1, .int .i64 (boxO Ls).y1]) ∧ Below wr.heap.size wr w' := by
  obtain ⟨A1, c1, rfl, l1, _⟩ := own_lists hH.1
  obtain ⟨A2, c2, rfl, l2, _⟩ := own_lists hH.2.1
  have hlen := cntO_flat Ls
  exact rhull_any A1 A2 Ls.flatten.length c1 c2 (Ls.flatten.map (·.1)) (Ls.flatten.map (·.2.1)) wr (List.length_map _) (List.length_map _) (by omega) l1 l2

set_option maxRecDepth 100000 in
set_option maxHeartbeats 4000000 in
theorem hull_any (B : Nat) (A : Option Addr) (c : Nat) (Ls : List (List Pt)) (w : World) (hB : B ≤ w.heap.size) (h : OutAt w B A Ls) (hs : Sm Ls) (hc : chkE Ls = 0) :
    Calls Try.prog 10 #[.slice A Ls.length c] w fun e w' => e = .returned (.tuple #[.agg #[.int .i64 (boxO Ls).x0, .int .i64 (boxO Ls).y0, .int .i64 (boxO Ls).x1, .int .i64 (boxO Ls).y1], .int .i64 0]) ∧ Below w.heap.size w w' := by
  have C1 := check_any B A c Ls (w.alloc (.cells #[.int .i64 0, .int .i64 0, .int .i64 0, .int .i64 0] 28)) (by simp; omega) (h.below ((Below.refl _ _).alloc hB _)) hs
  rw [hc] at C1
  obtain ⟨hc1, hc2, hc3⟩ := chk_zero hc
  have CH := fun (wr : World) (av bv : Value) (hH : HSt (w.alloc (.cells #[.int .i64 0, .int .i64 0, .int .i64 0, .int .i64 0] 28)) wr av bv Ls.flatten) => hull_rows w Ls wr av bv hH hc2 hc3
  have hn := hs.1
  have HM := Lib.hid hs.2
  have HL := Lib.hid h
  have HCN := Lib.hid hc2
  obtain ⟨n, hnn⟩ : ∃ n, n = Ls.length := ⟨_, rfl⟩
  rw [← hnn] at hn C1 ⊢
  have HN := Lib.hid hnn
  clear h hnn hs hc hc1 hc2 hc3
  generalize boxO Ls = Q0 at *
  go_enter Try.func10, Try.ntmps10
  go_wp2_with (first | (go_at_call 12; ((with_reducible refine (C1).mono ?_); rintro e w0 ⟨rfl, b0⟩)))
  go_loopw [5, 6, 19] (fun av bv i wr => ∃ k : Nat, k ≤ n ∧ i = .int .i64 k ∧ HSt (w.alloc (.cells #[.int .i64 0, .int .i64 0, .int .i64 0, .int .i64 0] 28)) wr av bv (Ls.take k).flatten) (fun _ _ i _ => n - (intOf i).toNat)
  case atStart => exact ⟨0, Nat.zero_le _, rfl, World.ownsRow_nil _ _ _ _, World.ownsRow_nil _ _ _ _, fun b hb => (nomatch hb), b0⟩
  case round =>
    obtain ⟨k, hk, rfl, hH⟩ := hrel
    clear b0 C1
    by_cases hlt : k < n
    · have d1 : decide ((k : Int) < (n : Int)) = true := by simp; omega
      obtain ⟨L, hL⟩ := at_some (L := Ls) (k := k) (by rw [← HN.out]; exact hlt)
      obtain ⟨b, o, Ai, ci, rfl, hbl, c0, hE⟩ := HL.out.at' k L hL
      have hbw : b < w.heap.size := by omega
      have HC : ∀ W, Below (w.alloc (.cells #[.int .i64 0, .int .i64 0, .int .i64 0, .int .i64 0] 28)).heap.size (w.alloc (.cells #[.int .i64 0, .int .i64 0, .int .i64 0, .int .i64 0] 28)) W → W.cell? ⟨b, o + k, none⟩ = some (.slice Ai L.length ci) ∧ b < W.heap.size := fun W hW => by
        have := hW.size
        refine ⟨((hW.cell (p := ⟨b, o + k, none⟩) (by simp; omega)).trans ?_).trans c0, by simp at this; omega⟩
        exact World.cell?_alloc_old _ _ _ (Nat.ne_of_lt hbw)
      obtain ⟨f0, f1⟩ := HC _ hH.2.2.2
      have hl : L.length ≤ 100000 := HM.out L (List.mem_of_getElem? hL)
      have HT := Lib.hid (show (Ls.take (k + 1)).flatten = (Ls.take k).flatten ++ L by rw [take_snoc1 hL]; simp)
      have HTL := Lib.hid (show (Ls.take k).flatten.length + L.length ≤ 4096 by
        have := HCN.out
        have e1 := cntO_flat (Ls.take (k + 1))
        have e2 := cntO_take Ls (k + 1)
        rw [HT.out, List.length_append] at e1
        omega)
      have HE := Lib.hid hE
      obtain ⟨m0, hm0⟩ : ∃ m0, m0 = L.length := ⟨_, rfl⟩
      rw [← hm0] at HC f0 hl
      have HM0 := Lib.hid hm0
      clear c0 hE hL hm0 HC
      generalize (Ls.take k).flatten = P at *
      go_wp2
      go_loopw [5, 6, 25] (fun av bv i wr => ∃ j : Nat, j ≤ m0 ∧ i = .int .i64 j ∧ HSt (w.alloc (.cells #[.int .i64 0, .int .i64 0, .int .i64 0, .int .i64 0] 28)) wr av bv (P ++ L.take j)) (fun _ _ i _ => m0 - (intOf i).toNat)
      case atStart => exact ⟨0, Nat.zero_le _, rfl, by simpa using hH⟩
      case round =>
        clear hH f0 f1
        obtain ⟨j, hj, rfl, hH⟩ := hrel
        by_cases hjm : j < m0
        · have d2 : decide ((j : Int) < (m0 : Int)) = true := by simp; omega
          obtain ⟨⟨px, py, pz⟩, hp⟩ := at_some (L := L) (k := j) (by rw [← HM0.out]; exact hjm)
          obtain ⟨s, u, rfl, hs, c0, c1, c2⟩ := lists_pt HE.out hp
          have hsw : s < w.heap.size := by omega
          have hw0 : ∀ i, wr.cell? ⟨s, i, none⟩ = w.cell? ⟨s, i, none⟩ := fun i => ((hH.2.2.2.cell (p := ⟨s, i, none⟩) (by simp; omega))).trans (World.cell?_alloc_old _ _ _ (Nat.ne_of_lt hsw))
          have g0 := (hw0 _).trans c0
          have g1 := (hw0 _).trans c1
          have g2 := (hw0 _).trans c2
          have g3 : s < wr.heap.size := by have := hH.2.2.2.size; simp at this; omega
          simp only at g0 g1 g2
          have HPJ := Lib.hid (show P ++ L.take (j + 1) = P ++ L.take j ++ [(px, py, pz)] by rw [take_snoc1 hp, List.append_assoc])
          have hm1 : (P ++ L.take j).length ≤ 1000000000 := by rw [List.length_append, List.length_take]; have := HTL.out; omega
          clear c0 c1 c2 hp hw0
          obtain ⟨av, hav⟩ : ∃ av, av = u5 := ⟨_, rfl⟩
          obtain ⟨bv, hbv⟩ : ∃ bv, bv = u6 := ⟨_, rfl⟩
          subst hav hbv
          go_wp2
          have HH := Lib.hid hH
          have hsep := hH.2.2.1
          have hwr := hH.2.2.2.size
          have hlt1 : ∀ b ∈ blk av, b < (wr.alloc (.cells #[.int .i64 px, .int .i64 py, .int .i64 pz] 43)).drew.heap.size := fun b hb => by have := blk_lt hH.1 b hb; show b < (wr.alloc _).heap.size; simp; omega
          have hlt2 : ∀ b ∈ blk bv, b < (wr.alloc (.cells #[.int .i64 px, .int .i64 py, .int .i64 pz] 43)).drew.heap.size := fun b hb => by have := blk_lt hH.2.1 b hb; show b < (wr.alloc _).heap.size; simp; omega
          have hlow1 : ∀ b ∈ blk av, (w.alloc (.cells #[.int .i64 0, .int .i64 0, .int .i64 0, .int .i64 0] 28)).heap.size ≤ b := own_low2 hH.1
          have hlow2 : ∀ b ∈ blk bv, (w.alloc (.cells #[.int .i64 0, .int .i64 0, .int .i64 0, .int .i64 0] 28)).heap.size ≤ b := own_low2 hH.2.1
          have hbase : (w.alloc (.cells #[.int .i64 0, .int .i64 0, .int .i64 0, .int .i64 0] 28)).heap.size ≤ (wr.alloc (.cells #[.int .i64 px, .int .i64 py, .int .i64 pz] 43)).drew.heap.size := by show _ ≤ (wr.alloc _).heap.size; simp at hwr ⊢; omega
          have KP : ∀ W, Only (wr.alloc (.cells #[.int .i64 px, .int .i64 py, .int .i64 pz] 43)).drew W (blk av ++ blk bv) → Blk W wr.heap.size 43 #[.int .i64 px, .int .i64 py, .int .i64 pz] := fun W hW =>
            ((Blk.new wr 43 #[.int .i64 px, .int .i64 py, .int .i64 pz]).below ((Below.refl _ _).drew)).only hW (fun hm => by
              rcases List.mem_append.1 hm with hm | hm
              · exact absurd (blk_lt hH.1 _ hm) (Nat.lt_irrefl _)
              · exact absurd (blk_lt hH.2.1 _ hm) (Nat.lt_irrefl _))
          have hown1 := own_stay HH.out.1 (Below.drew ((Below.refl _ _).alloc (Nat.le_refl _) (.cells #[.int .i64 px, .int .i64 py, .int .i64 pz] 43)))
          have hown2 := own_stay HH.out.2.1 (Below.drew ((Below.refl _ _).alloc (Nat.le_refl _) (.cells #[.int .i64 px, .int .i64 py, .int .i64 pz] 43)))
          obtain ⟨XS, hXS⟩ : ∃ XS, XS = intCells ((P ++ L.take j).map (·.1)) := ⟨_, rfl⟩
          obtain ⟨YS, hYS⟩ : ∃ YS, YS = intCells ((P ++ L.take j).map (·.2.1)) := ⟨_, rfl⟩
          obtain ⟨m, hm⟩ : ∃ m, m = (P ++ L.take j).length := ⟨_, rfl⟩
          rw [← hXS, ← hm] at hown1
          rw [← hYS, ← hm] at hown2
          rw [← hm] at hm1
          have HXS := Lib.hid hXS
          have HYS := Lib.hid hYS
          have HMM := Lib.hid hm
          clear hH hXS hYS hm
          refine wp_region_lanes (fun W => Only (wr.alloc (.cells #[.int .i64 px, .int .i64 py, .int .i64 pz] 43)).drew W (blk av ++ blk bv)) [0, 1, 2, 5, 6, 7] [3, 4] [8, 9] [10, 11] (by kernel_rfl) (by kernel_rfl) (Only.refl _ _) ?_
          repeat (first
            | (refine QuietL.val (o := ?_) (v := ?_) ?_ ?_ ?_ ?_ ?_; rotate_left 2; (focus (simp only [List.getElem?_toArray, List.getElem?_cons_succ, List.getElem?_cons_zero]; with_reducible rfl)); (focus (intro _ _ h; cases h)); (focus rfl); (focus (intro w' hJ; have y1 := (KP _ hJ).cell 0; have y2 := (KP _ hJ).cell 1; have y3 := (KP _ hJ).cell 2; have y4 := (KP _ hJ).lt; simp only [List.getElem?_toArray, List.getElem?_cons_zero, List.getElem?_cons_succ] at y1 y2 y3; go_simp <;> with_reducible rfl)); simp only [Act.put, List.setIfInBounds_toArray, List.set_cons_zero, List.set_cons_succ]))
          refine QuietL.nil ?_
          have HS2 : Apart ⟨29, 31, 32, 33, av, m, XS, px⟩ ⟨34, 36, 37, 38, bv, m, YS, py⟩ 46 := by
            exact ⟨(by show 32 < 46; decide), (by show 33 < 46; decide), (by show 37 < 46; decide), (by show 38 < 46; decide), (by show 32 ≠ 29 ∧ 32 ≠ 31 ∧ 32 ≠ 33 ∧ 33 ≠ 29 ∧ 33 ≠ 31; decide), (by show 37 ≠ 34 ∧ 37 ≠ 36 ∧ 37 ≠ 38 ∧ 38 ≠ 34 ∧ 38 ≠ 36; decide), (by show 32 ≠ 34 ∧ 32 ≠ 36 ∧ 32 ≠ 37 ∧ 32 ≠ 38 ∧ 33 ≠ 34 ∧ 33 ≠ 36 ∧ 33 ≠ 37 ∧ 33 ≠ 38; decide), (by show 37 ≠ 29 ∧ 37 ≠ 31 ∧ 37 ≠ 32 ∧ 37 ≠ 33 ∧ 38 ≠ 29 ∧ 38 ≠ 31 ∧ 38 ≠ 32 ∧ 38 ≠ 33; decide)⟩
          refine lanes_two (D1 := ⟨29, 31, 32, 33, av, m, XS, px⟩) (D2 := ⟨34, 36, 37, 38, bv, m, YS, py⟩) (base := (w.alloc (.cells #[.int .i64 0, .int .i64 0, .int .i64 0, .int .i64 0] 28)).heap.size) (w0 := (wr.alloc (.cells #[.int .i64 px, .int .i64 py, .int .i64 pz] 43)).drew) (G := blk av ++ blk bv) (F1 := blk av) (F2 := blk bv) ⟨⟨rfl, rfl, hown1, rfl⟩, ⟨rfl, rfl, hown2, rfl⟩, hsep, hlt1, hlt2, hlow1, hlow2, Only.refl _ _, fun b hb => List.mem_append_left _ hb, fun b hb => List.mem_append_right _ hb, hbase, rfl, rfl, fun _ _ _ _ _ => rfl⟩ HS2 hm1 hm1 rfl rfl rfl rfl rfl rfl rfl rfl rfl rfl rfl rfl rfl rfl rfl rfl (fun W h => h) ?_
          intro a' W' FF FF' T2
          obtain ⟨_, _, q1, v1, e1, e2, own1, hF1⟩ := T2.l1
          obtain ⟨_, _, q2, v2, e3, e4, own2, hF2⟩ := T2.l2
          have hact := act_is HS2 T2.size T2.defers T2.other e1 e2 e3 e4
          subst hact
          have hsep2 : ∀ b ∈ blk v1, b ∉ blk v2 := fun b h1 h2 => T2.sep b (by rw [hF1]; exact h1) (by rw [hF2]; exact h2)
          have hon := T2.only
          simp only at own1 own2
          clear T2 e1 e2 e3 e4 hF1 hF2 HS2
          simp only [Act.put, List.setIfInBounds_toArray, List.set_cons_zero, List.set_cons_succ]
          repeat (first
            | (refine QuietL.val (o := ?_) (v := ?_) ?_ ?_ ?_ ?_ ?_; rotate_left 2; (focus (simp only [List.getElem?_toArray, List.getElem?_cons_succ, List.getElem?_cons_zero]; with_reducible rfl)); (focus (intro _ _ h; cases h)); (focus rfl); (focus (intro w' hJ; skip; go_simp <;> with_reducible rfl)); simp only [Act.put, List.setIfInBounds_toArray, List.set_cons_zero, List.set_cons_succ]))
          refine QuietL.nil ?_
          go_wp2
          go_roundw
          case rel => exact ⟨j + 1, by omega, by go_num, HSt.step HH.out HPJ.out (by rw [← HMM.out, ← HXS.out]; exact own1) (by rw [← HMM.out, ← HYS.out]; exact own2) hsep2 hon (Below.drew ((Below.refl _ _).alloc (Nat.le_refl _) _))⟩
          case measure => simp [intOf]; omega
        · obtain rfl : j = m0 := by omega
          have d2 : decide ((j : Int) < (j : Int)) = false := by simp
          have HS := Lib.hid (show P ++ L.take j = P ++ L by rw [HM0.out, List.take_length])
          go_wp2
          go_roundw
          case rel => exact ⟨k + 1, by omega, by go_num, by rw [HT.out, ← HS.out]; exact hH⟩
          case measure => simp [intOf]; omega
    · obtain rfl : k = n := by omega
      have d1 : decide ((k : Int) < (k : Int)) = false := by simp
      have HS := Lib.hid (show (Ls.take k).flatten = Ls.flatten by rw [HN.out, List.take_length])
      rw [HS.out] at hH
      have CC := CH _ _ _ hH
      have zb := hH.2.2.2
      clear hH HS
      have z0 := (zb.cell (p := ⟨w.heap.size, 0, none⟩) (by simp))
      have z1 := (zb.cell (p := ⟨w.heap.size, 1, none⟩) (by simp))
      have z2 := (zb.cell (p := ⟨w.heap.size, 2, none⟩) (by simp))
      have z3 := (zb.cell (p := ⟨w.heap.size, 3, none⟩) (by simp))
      have zf := fun o => (zb.frozen (p := ⟨w.heap.size, o, none⟩) (by simp))
      have zs := zb.size
      simp only [World.cell?_alloc_new, World.frozen?_alloc_new] at z0 z1 z2 z3 zf
      simp only [World.size_alloc] at zs
      go_wp2_with (first | (go_at_call 28; ((with_reducible refine (CC).mono ?_); rintro e w9 ⟨rfl, b9⟩; have y0 := (b9.cell (p := ⟨w.heap.size, 0, none⟩) (by show w.heap.size < _; omega)).trans z0; have y1 := (b9.cell (p := ⟨w.heap.size, 1, none⟩) (by show w.heap.size < _; omega)).trans z1; have y2 := (b9.cell (p := ⟨w.heap.size, 2, none⟩) (by show w.heap.size < _; omega)).trans z2; have y3 := (b9.cell (p := ⟨w.heap.size, 3, none⟩) (by show w.heap.size < _; omega)).trans z3; have yf := fun o => (b9.frozen (p := ⟨w.heap.size, o, none⟩) (by show w.heap.size < _; omega)).trans (zf o))))
      refine bodyPost_ret (v := .tuple #[.agg #[.int .i64 Q0.x0, .int .i64 Q0.y0, .int .i64 Q0.x1, .int .i64 Q0.y1], .int .i64 0]) (by simp [results, Try.results10, go_sem, y0, y1, y2, y3]) rfl ⟨rfl, ?_⟩
      exact below_set4 (b := w.heap.size) (((below_a1 w _).trans (zb.mono (by simp))).trans (b9.mono (by omega))) (Nat.le_refl _) _ _ _ _
theorem hull_no (B : Nat) (A : Option Addr) (c : Nat) (Ls : List (List Pt)) (w : World) (hB : B ≤ w.heap.size) (h : OutAt w B A Ls) (hs : Sm Ls) (hc : chkE Ls ≠ 0) :
    Calls Try.prog 10 #[.slice A Ls.length c] w fun e w' => e = .returned (.tuple #[.agg #[.int .i64 0, .int .i64 0, .int .i64 0, .int .i64 0], .int .i64 (chkE Ls)]) ∧ Below w.heap.size w w' := by
  have C1 := check_any B A c Ls (w.alloc (.cells #[.int .i64 0, .int .i64 0, .int .i64 0, .int .i64 0] 28)) (by simp; omega) (h.below ((Below.refl _ _).alloc hB _)) hs
  clear h
  generalize chkE Ls = x at *
  have d1 : (x == 0) = false := by simpa using hc
  have d2 : (x != 0) = true := by simpa using hc
  go_enter Try.func10, Try.ntmps10
  go_wp2_with (first | (go_at_call 12; ((with_reducible refine (C1).mono ?_); rintro e w0 ⟨rfl, b0⟩; have z0 := (b0.cell (p := ⟨w.heap.size, 0, none⟩) (by simp)); have z1 := (b0.cell (p := ⟨w.heap.size, 1, none⟩) (by simp)); have z2 := (b0.cell (p := ⟨w.heap.size, 2, none⟩) (by simp)); have z3 := (b0.cell (p := ⟨w.heap.size, 3, none⟩) (by simp)); have zf := fun o => (b0.frozen (p := ⟨w.heap.size, o, none⟩) (by simp)); have zs := b0.size; simp only [World.cell?_alloc_new, World.frozen?_alloc_new] at z0 z1 z2 z3 zf; simp only [World.size_alloc] at zs)))
  refine bodyPost_ret (v := .tuple #[.agg #[.int .i64 0, .int .i64 0, .int .i64 0, .int .i64 0], .int .i64 x]) (by simp [results, Try.results10, go_sem, z0, z1, z2, z3]) rfl ⟨rfl, ?_⟩
  exact below_set4 (b := w.heap.size) ((below_a1 w _).trans (b0.mono (by simp))) (Nat.le_refl _) _ _ _ _

set_option maxRecDepth 100000 in
set_option maxHeartbeats 4000000 in
theorem rhullO_any (B : Nat) (A : Option Addr) (c : Nat) (Ls : List (List Pt)) (w : World) (hB : B ≤ w.heap.size) (h : OutAt w B A Ls) (hs : Sm Ls) (hc : chkE Ls = 0) :
    Calls Try.prog 15 #[.slice A Ls.length c] w fun e w' => e = .returned (.agg #[.int .i64 (boxO Ls).x0, .int .i64 (boxO Ls).y0, .int .i64 (boxO Ls).x1, .int .i64 (boxO Ls).y1]) ∧ Below w.heap.size w w' := by
  obtain ⟨hc1, hc2, hc3⟩ := chk_zero hc
  have CH := fun (wr : World) (av bv : Value) (hH : HSt (w.alloc (.cells #[.int .i64 0, .int .i64 0, .int .i64 0, .int .i64 0] 28)) wr av bv Ls.flatten) => rhull_rows w Ls wr av bv hH hc2
  have hn := hs.1
  have HM := Lib.hid hs.2
  have HL := Lib.hid h
  have HCN := Lib.hid hc2
  obtain ⟨n, hnn⟩ : ∃ n, n = Ls.length := ⟨_, rfl⟩
  rw [← hnn] at hn ⊢
  have HN := Lib.hid hnn
  clear h hnn hs hc hc1 hc2 hc3
  generalize boxO Ls = Q0 at *
  go_enter Try.func15, Try.ntmps15
  go_wp2
  go_loopw [3, 4, 5] (fun av bv i wr => ∃ k : Nat, k ≤ n ∧ i = .int .i64 k ∧ HSt (w.alloc (.cells #[.int .i64 0, .int .i64 0, .int .i64 0, .int .i64 0] 28)) wr av bv (Ls.take k).flatten) (fun _ _ i _ => n - (intOf i).toNat)
  case atStart => exact ⟨0, Nat.zero_le _, rfl, World.ownsRow_nil _ _ _ _, World.ownsRow_nil _ _ _ _, fun b hb => (nomatch hb), Below.refl _ _⟩
  case round =>
    obtain ⟨k, hk, rfl, hH⟩ := hrel
    by_cases hlt : k < n
    · have d1 : decide ((k : Int) < (n : Int)) = true := by simp; omega
      obtain ⟨L, hL⟩ := at_some (L := Ls) (k := k) (by rw [← HN.out]; exact hlt)
      obtain ⟨b, o, Ai, ci, rfl, hbl, c0, hE⟩ := HL.out.at' k L hL
      have hbw : b < w.heap.size := by omega
      have HC : ∀ W, Below (w.alloc (.cells #[.int .i64 0, .int .i64 0, .int .i64 0, .int .i64 0] 28)).heap.size (w.alloc (.cells #[.int .i64 0, .int .i64 0, .int .i64 0, .int .i64 0] 28)) W → W.cell? ⟨b, o + k, none⟩ = some (.slice Ai L.length ci) ∧ b < W.heap.size := fun W hW => by
        have := hW.size
        refine ⟨((hW.cell (p := ⟨b, o + k, none⟩) (by simp; omega)).trans ?_).trans c0, by simp at this; omega⟩
        exact World.cell?_alloc_old _ _ _ (Nat.ne_of_lt hbw)
      obtain ⟨f0, f1⟩ := HC _ hH.2.2.2
      have hl : L.length ≤ 100000 := HM.out L (List.mem_of_getElem? hL)
      have HT := Lib.hid (show (Ls.take (k + 1)).flatten = (Ls.take k).flatten ++ L by rw [take_snoc1 hL]; simp)
      have HTL := Lib.hid (show (Ls.take k).flatten.length + L.length ≤ 4096 by
        have := HCN.out
        have e1 := cntO_flat (Ls.take (k + 1))
        have e2 := cntO_take Ls (k + 1)
        rw [HT.out, List.length_append] at e1
        omega)
      have HE := Lib.hid hE
      obtain ⟨m0, hm0⟩ : ∃ m0, m0 = L.length := ⟨_, rfl⟩
      rw [← hm0] at HC f0 hl
      have HM0 := Lib.hid hm0
      clear c0 hE hL hm0
      generalize (Ls.take k).flatten = P at *
      go_wp2
      go_loopw [3, 4, 6] (fun av bv i wr => ∃ j : Nat, j ≤ m0 ∧ i = .int .i64 j ∧ HSt (w.alloc (.cells #[.int .i64 0, .int .i64 0, .int .i64 0, .int .i64 0] 28)) wr av bv (P ++ L.take j)) (fun _ _ i _ => m0 - (intOf i).toNat)
      case atStart => exact ⟨0, Nat.zero_le _, rfl, by simpa using hH⟩
      case round =>
        clear hH f0 f1
        obtain ⟨j, hj, rfl, hH⟩ := hrel
        obtain ⟨f0, f1⟩ := HC _ hH.2.2.2
        by_cases hjm : j < m0
        · have d2 : decide ((j : Int) < (m0 : Int)) = true := by simp; omega
          obtain ⟨⟨px, py, pz⟩, hp⟩ := at_some (L := L) (k := j) (by rw [← HM0.out]; exact hjm)
          obtain ⟨s, u, rfl, hs, c0, c1, c2⟩ := lists_pt HE.out hp
          have hsw : s < w.heap.size := by omega
          have hw0 : ∀ i, wr.cell? ⟨s, i, none⟩ = w.cell? ⟨s, i, none⟩ := fun i => ((hH.2.2.2.cell (p := ⟨s, i, none⟩) (by simp; omega))).trans (World.cell?_alloc_old _ _ _ (Nat.ne_of_lt hsw))
          have g0 := (hw0 _).trans c0
          have g1 := (hw0 _).trans c1
          have g2 := (hw0 _).trans c2
          have g3 : s < wr.heap.size := by have := hH.2.2.2.size; simp at this; omega
          simp only at g0 g1 g2
          have HPJ := Lib.hid (show P ++ L.take (j + 1) = P ++ L.take j ++ [(px, py, pz)] by rw [take_snoc1 hp, List.append_assoc])
          have hm1 : (P ++ L.take j).length ≤ 1000000000 := by rw [List.length_append, List.length_take]; have := HTL.out; omega
          clear c0 c1 c2 hp hw0
          obtain ⟨av, hav⟩ : ∃ av, av = u3 := ⟨_, rfl⟩
          obtain ⟨bv, hbv⟩ : ∃ bv, bv = u4 := ⟨_, rfl⟩
          subst hav hbv
          go_wp2
          have HH := Lib.hid hH
          have hsep := hH.2.2.1
          have hwr := hH.2.2.2.size
          have hlt1 : ∀ b ∈ blk av, b < wr.drew.heap.size := fun b hb => by have := blk_lt hH.1 b hb; exact this
          have hlt2 : ∀ b ∈ blk bv, b < wr.drew.heap.size := fun b hb => by have := blk_lt hH.2.1 b hb; exact this
          have hlow1 : ∀ b ∈ blk av, (w.alloc (.cells #[.int .i64 0, .int .i64 0, .int .i64 0, .int .i64 0] 28)).heap.size ≤ b := own_low2 hH.1
          have hlow2 : ∀ b ∈ blk bv, (w.alloc (.cells #[.int .i64 0, .int .i64 0, .int .i64 0, .int .i64 0] 28)).heap.size ≤ b := own_low2 hH.2.1
          have hbase : (w.alloc (.cells #[.int .i64 0, .int .i64 0, .int .i64 0, .int .i64 0] 28)).heap.size ≤ wr.drew.heap.size := by exact hwr
          have KI : ∀ W, Only wr.drew W (blk av ++ blk bv) → W.cell? ⟨b, o + k, none⟩ = some (.slice (some ⟨s, u, none⟩) m0 ci) ∧ b < W.heap.size ∧ W.cell? ⟨s, u + j * 3, none⟩ = some (.int .i64 px) ∧ W.cell? ⟨s, u + j * 3 + 1, none⟩ = some (.int .i64 py) ∧ W.cell? ⟨s, u + j * 3 + 2, none⟩ = some (.int .i64 pz) ∧ s < W.heap.size := fun W hW => by
            have hbl := hW.to_below (B := (w.alloc (.cells #[.int .i64 0, .int .i64 0, .int .i64 0, .int .i64 0] 28)).heap.size) hbase (fun x hx => by
              rcases List.mem_append.1 hx with hx | hx
              · exact hlow1 x hx
              · exact hlow2 x hx)
            have hz := hbl.size
            have e1 : wr.drew.heap.size = wr.heap.size := rfl
            have g4 := f1
            rw [World.size_alloc] at hwr
            exact ⟨(hbl.cell (p := ⟨b, o + k, none⟩) (by simp; omega)).trans f0, by omega, (hbl.cell (p := ⟨s, u + j * 3, none⟩) (by simp; omega)).trans g0, (hbl.cell (p := ⟨s, u + j * 3 + 1, none⟩) (by simp; omega)).trans g1, (hbl.cell (p := ⟨s, u + j * 3 + 2, none⟩) (by simp; omega)).trans g2, by omega⟩
          have hown1 := own_stay HH.out.1 (Below.drew (Below.refl _ _))
          have hown2 := own_stay HH.out.2.1 (Below.drew (Below.refl _ _))
          obtain ⟨XS, hXS⟩ : ∃ XS, XS = intCells ((P ++ L.take j).map (·.1)) := ⟨_, rfl⟩
          obtain ⟨YS, hYS⟩ : ∃ YS, YS = intCells ((P ++ L.take j).map (·.2.1)) := ⟨_, rfl⟩
          obtain ⟨m, hm⟩ : ∃ m, m = (P ++ L.take j).length := ⟨_, rfl⟩
          rw [← hXS, ← hm] at hown1
          rw [← hYS, ← hm] at hown2
          rw [← hm] at hm1
          have HXS := Lib.hid hXS
          have HYS := Lib.hid hYS
          have HMM := Lib.hid hm
          clear hH hXS hYS hm
          refine wp_region_lanes (fun W => Only wr.drew W (blk av ++ blk bv)) [0, 1, 2, 3, 4, 5, 6, 7, 8, 11, 12, 13, 14, 15, 16, 17, 18, 19] [9, 10] [20, 21] [22, 23] (by kernel_rfl) (by kernel_rfl) (Only.refl _ _) ?_
          repeat (first
            | (refine QuietL.val (o := ?_) (v := ?_) ?_ ?_ ?_ ?_ ?_; rotate_left 2; (focus (simp only [List.getElem?_toArray, List.getElem?_cons_succ, List.getElem?_cons_zero]; with_reducible rfl)); (focus (intro _ _ h; cases h)); (focus rfl); (focus (intro w' hJ; obtain ⟨y1, y2, y3, y4, y5, y6⟩ := KI _ hJ; go_simp <;> with_reducible rfl)); simp only [Act.put, List.setIfInBounds_toArray, List.set_cons_zero, List.set_cons_succ]))
          refine QuietL.nil ?_
          have HS2 : Apart ⟨22, 30, 31, 32, av, m, XS, px⟩ ⟨33, 41, 42, 43, bv, m, YS, py⟩ 47 := by
            exact ⟨(by show 31 < 47; decide), (by show 32 < 47; decide), (by show 42 < 47; decide), (by show 43 < 47; decide), (by show 31 ≠ 22 ∧ 31 ≠ 30 ∧ 31 ≠ 32 ∧ 32 ≠ 22 ∧ 32 ≠ 30; decide), (by show 42 ≠ 33 ∧ 42 ≠ 41 ∧ 42 ≠ 43 ∧ 43 ≠ 33 ∧ 43 ≠ 41; decide), (by show 31 ≠ 33 ∧ 31 ≠ 41 ∧ 31 ≠ 42 ∧ 31 ≠ 43 ∧ 32 ≠ 33 ∧ 32 ≠ 41 ∧ 32 ≠ 42 ∧ 32 ≠ 43; decide), (by show 42 ≠ 22 ∧ 42 ≠ 30 ∧ 42 ≠ 31 ∧ 42 ≠ 32 ∧ 43 ≠ 22 ∧ 43 ≠ 30 ∧ 43 ≠ 31 ∧ 43 ≠ 32; decide)⟩
          refine lanes_two (D1 := ⟨22, 30, 31, 32, av, m, XS, px⟩) (D2 := ⟨33, 41, 42, 43, bv, m, YS, py⟩) (base := (w.alloc (.cells #[.int .i64 0, .int .i64 0, .int .i64 0, .int .i64 0] 28)).heap.size) (w0 := wr.drew) (G := blk av ++ blk bv) (F1 := blk av) (F2 := blk bv) ⟨⟨rfl, rfl, hown1, rfl⟩, ⟨rfl, rfl, hown2, rfl⟩, hsep, hlt1, hlt2, hlow1, hlow2, Only.refl _ _, fun b hb => List.mem_append_left _ hb, fun b hb => List.mem_append_right _ hb, hbase, rfl, rfl, fun _ _ _ _ _ => rfl⟩ HS2 hm1 hm1 rfl rfl rfl rfl rfl rfl rfl rfl rfl rfl rfl rfl rfl rfl rfl rfl (fun W h => h) ?_
          intro a' W' FF FF' T2
          obtain ⟨_, _, q1, v1, e1, e2, own1, hF1⟩ := T2.l1
          obtain ⟨_, _, q2, v2, e3, e4, own2, hF2⟩ := T2.l2
          have hact := act_is HS2 T2.size T2.defers T2.other e1 e2 e3 e4
          subst hact
          have hsep2 : ∀ b ∈ blk v1, b ∉ blk v2 := fun b h1 h2 => T2.sep b (by rw [hF1]; exact h1) (by rw [hF2]; exact h2)
          have hon := T2.only
          simp only at own1 own2
          clear T2 e1 e2 e3 e4 hF1 hF2 HS2
          simp only [Act.put, List.setIfInBounds_toArray, List.set_cons_zero, List.set_cons_succ]
          repeat (first
            | (refine QuietL.val (o := ?_) (v := ?_) ?_ ?_ ?_ ?_ ?_; rotate_left 2; (focus (simp only [List.getElem?_toArray, List.getElem?_cons_succ, List.getElem?_cons_zero]; with_reducible rfl)); (focus (intro _ _ h; cases h)); (focus rfl); (focus (intro w' hJ; skip; go_simp <;> with_reducible rfl)); simp only [Act.put, List.setIfInBounds_toArray, List.set_cons_zero, List.set_cons_succ]))
          refine QuietL.nil ?_
          go_wp2
          go_roundw
          case rel => exact ⟨j + 1, by omega, by go_num, HSt.step HH.out HPJ.out (by rw [← HMM.out, ← HXS.out]; exact own1) (by rw [← HMM.out, ← HYS.out]; exact own2) hsep2 hon (Below.drew (Below.refl _ _))⟩
          case measure => simp [intOf]; omega
        · obtain rfl : j = m0 := by omega
          have d2 : decide ((j : Int) < (j : Int)) = false := by simp
          have HS := Lib.hid (show P ++ L.take j = P ++ L by rw [HM0.out, List.take_length])
          go_wp2
          go_roundw
          case rel => exact ⟨k + 1, by omega, by go_num, by rw [HT.out, ← HS.out]; exact hH⟩
          case measure => simp [intOf]; omega
    · obtain rfl : k = n := by omega
      have d1 : decide ((k : Int) < (k : Int)) = false := by simp
      have HS := Lib.hid (show (Ls.take k).flatten = Ls.flatten by rw [HN.out, List.take_length])
      rw [HS.out] at hH
      have CC := CH _ _ _ hH
      have zb := hH.2.2.2
      clear hH HS
      have z0 := (zb.cell (p := ⟨w.heap.size, 0, none⟩) (by simp))
      have z1 := (zb.cell (p := ⟨w.heap.size, 1, none⟩) (by simp))
      have z2 := (zb.cell (p := ⟨w.heap.size, 2, none⟩) (by simp))
      have z3 := (zb.cell (p := ⟨w.heap.size, 3, none⟩) (by simp))
      have zf := fun o => (zb.frozen (p := ⟨w.heap.size, o, none⟩) (by simp))
      have zs := zb.size
      simp only [World.cell?_alloc_new, World.frozen?_alloc_new] at z0 z1 z2 z3 zf
      simp only [World.size_alloc] at zs
      go_wp2_with (first | (go_at_call 32; ((with_reducible refine (CC).mono ?_); rintro e w9 ⟨rfl, b9⟩; have y0 := (b9.cell (p := ⟨w.heap.size, 0, none⟩) (by show w.heap.size < _; omega)).trans z0; have y1 := (b9.cell (p := ⟨w.heap.size, 1, none⟩) (by show w.heap.size < _; omega)).trans z1; have y2 := (b9.cell (p := ⟨w.heap.size, 2, none⟩) (by show w.heap.size < _; omega)).trans z2; have y3 := (b9.cell (p := ⟨w.heap.size, 3, none⟩) (by show w.heap.size < _; omega)).trans z3; have yf := fun o => (b9.frozen (p := ⟨w.heap.size, o, none⟩) (by show w.heap.size < _; omega)).trans (zf o))))
      refine bodyPost_ret (v := .agg #[.int .i64 Q0.x0, .int .i64 Q0.y0, .int .i64 Q0.x1, .int .i64 Q0.y1]) (by simp [results, Try.results15, go_sem, y0, y1, y2, y3]) rfl ⟨rfl, ?_⟩
      exact below_set4 (b := w.heap.size) (((below_a1 w _).trans (zb.mono (by simp))).trans (b9.mono (by omega))) (Nat.le_refl _) _ _ _ _

end Go.Proofs.Ytmmdnhfonifhdaa

namespace Go.Proofs.Ytmmdnhfonifhdaa
open Go.RowKit

/-- the facts of a world in which the call's own matrix lies -/
def In1M (w wx : World) (a b c d : Int) : Prop := Below w.heap.size w wx ∧ w.heap.size < wx.heap.size ∧ (wx.cell? ⟨w.heap.size, 0, none⟩ = some (.int .i64 a) ∧ wx.cell? ⟨w.heap.size, 1, none⟩ = some (.int .i64 b) ∧ wx.cell? ⟨w.heap.size, 2, none⟩ = some (.int .i64 c) ∧ wx.cell? ⟨w.heap.size, 3, none⟩ = some (.int .i64 d))
theorem In1mk (w : World) (a b c d : Int) : In1M w (w.alloc (.cells #[.int .i64 a, .int .i64 b, .int .i64 c, .int .i64 d] 52)) a b c d := by
  refine ⟨below_a1 _ _, by simp, ?_, ?_, ?_, ?_⟩ <;> go_simp
theorem In1nx {w wx wy : World} {a b c d : Int} (h : In1M w wx a b c d) (b' : Below wx.heap.size wx wy) : In1M w wy a b c d := by
  obtain ⟨h0, h1, hA⟩ := h
  exact ⟨below_next h0 b', lt_next b' h1, at_next (A := ⟨a, b, c, d⟩) b' h1 hA⟩

def apU (a b c d x y : Int) : Int := if apE a b c d x y = 0 then apX a c x y else 0
def apV (a b c d x y : Int) : Int := if apE a b c d x y = 0 then apX b d x y else 0

theorem apply_any (a b c d x y : Int) (w : World) :
    Calls Try.prog 65 #[.agg #[.int .i64 a, .int .i64 b, .int .i64 c, .int .i64 d], .int .i64 x, .int .i64 y] w fun e w' =>
      e = .returned (.tuple #[.int .i64 (apU a b c d x y), .int .i64 (apV a b c d x y), .int .i64 (apE a b c d x y)]) ∧ Below w.heap.size w w' := by
  unfold apU apV apE
  cases hm : fitM a b c d
  · exact apply_arg a b c d x y w hm
  · cases hx : (mayB x && mayB y)
    · exact apply_over a b c d x y w hm hx
    · cases hr : (mayB (apX a c x y) && mayB (apX b d x y))
      · exact apply_rest a b c d x y w hm hx false hr
      · exact apply_rest a b c d x y w hm hx true hr

def detV (a b c d : Int) : Int := if fitM a b c d then a * d - b * c else 0

end Go.Proofs.Ytmmdnhfonifhdaa
