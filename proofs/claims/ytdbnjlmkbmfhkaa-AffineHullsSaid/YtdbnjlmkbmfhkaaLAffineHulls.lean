/- AffineHulls: the hull of any points is the document's; for every two lists of ints. -/
import Derived.Test.YtdbnjlmkbmfhkaaRHull
import Derived.Test.YtdbnjlmkbmfhkaaLives2
import Derived.Test.YtdbnjlmkbmfhkaaOpenInts
import Derived.Test.YtdbnjlmkbmfhkaaLaw4
namespace Go.Proofs.Ytdbnjlmkbmfhkaa.affineHulls
open Go.ChangeShapes Go.WideShapes Go.ChangeAt Go.RowKit

theorem Try.cellsInt : Try.prog.cellsOf 3 = 1 := by kernel_rfl
theorem intInfo : (Try.prog.info? 3).map (fun i => (i.zero, i.size, i.bytes)) = some (some (.int .i64 0), 1, 8) := by kernel_rfl

theorem walk_long (A A2 : Option Addr) (n c n2 c2 : Nat) (w : World) (m1 : n ≤ 9223372036854775807) (m2 : n2 ≤ 9223372036854775807) (h : 5000 < n ∨ 5000 < n2) :
    Calls Try.prog 8 #[.slice A n c, .slice A2 n2 c2] w fun e w' => e = .returned (.bool true) ∧ Below w.heap.size w w' := by
  have LV := fun w => lives2 w
  by_cases h1 : 5000 < n
  · have d1 : decide ((5000 : Int) < n) = true := by simp; omega
    clear h h1
    go_enter Try.func8, Try.ntmps8
    go_wp2_with (first | (go_at_call 14; ((with_reducible refine (LV _).mono ?_); rintro e w' ⟨rfl, b⟩)))
    go_ret
    exact ⟨rfl, b⟩
  · have d1 : decide ((5000 : Int) < n) = false := by simp; omega
    have d2 : decide ((5000 : Int) < n2) = true := by simp; omega
    clear h h1
    go_enter Try.func8, Try.ntmps8
    go_wp2_with (first | (go_at_call 14; ((with_reducible refine (LV _).mono ?_); rintro e w' ⟨rfl, b⟩)))
    go_ret
    exact ⟨rfl, b⟩

set_option maxHeartbeats 4000000 in
theorem walk_differ (A A2 : Option Addr) (n c n2 c2 : Nat) (xs ys : List Int) (w : World) (hx : xs.length = n) (hy : ys.length = n2) (h1 : n ≤ 5000) (h2 : n2 ≤ 5000) (lx : Lists w w.heap.size A (intCells xs)) (ly : Lists w w.heap.size A2 (intCells ys)) (hne : n ≠ n2) :
    Calls Try.prog 8 #[.slice A n c, .slice A2 n2 c2] w fun e w' => e = .returned (.bool true) ∧ Below w.heap.size w w' := by
  have LV := fun w => lives2 w
  obtain ⟨i0, hi, hz0, hz1, hz2⟩ := info_parts intInfo
  have d1 : decide ((5000 : Int) < n) = false := by simp; omega
  have d2 : decide ((5000 : Int) < n2) = false := by simp; omega
  have d3 : ((n : Int) != (n2 : Int)) = true := by simp; omega
  have q1 := fun w => eqB_run 0 0 0 0 0 0 0 0 w
  have q2 := fun x y w => eqB_guard 0 0 0 0 0 0 0 0 x y w
  rw [show eq4 0 0 0 0 0 0 0 0 = true from rfl] at q1
  go_enter Try.func8, Try.ntmps8
  go_wp2_with (first | (at_builtin; refine wpList_append_src _ rfl (.tmp 18) (.tmp 19) 50 rfl w.heap.size 3 i0 (.int .i64 0) 1 8 Try.underlying50 hi hz0 hz1 hz2 rfl (by decide) (.slice (some ⟨w.heap.size, 0, none⟩) 0 0) 0 [] rfl ⟨rfl, .inr ⟨w.heap.size, 0, #[], rfl, Nat.le_refl _, heap_alloc_new w _, Nat.le_refl _, Nat.zero_le _, rfl, rfl⟩⟩ w.heap.size A n c (intCells xs) rfl (lx.alloc (Nat.le_refl _) _) (by rw [intCells_len]; omega) (intCells_one _) (by simp only [maxLen]; omega) (by omega) (by simp) ?_; intro v1 w1 hown1 hg1 hat1; rw [Nat.zero_add, List.nil_append] at hown1; obtain ⟨A1, k1, rfl, l1, _⟩ := own_lists hown1; have b1 : Below w.heap.size w w1 := ((Below.refl _ _).alloc (Nat.le_refl _) _).grown hg1 (by simp) (fun j hj => by cases hj; exact Nat.le_refl _); clear hown1 hg1 hat1) | (at_builtin; refine wpList_append_src _ rfl (.tmp 21) (.tmp 22) 50 rfl w1.heap.size 3 i0 (.int .i64 0) 1 8 Try.underlying50 hi hz0 hz1 hz2 rfl (by decide) (.slice (some ⟨w1.heap.size, 0, none⟩) 0 0) 0 [] rfl ⟨rfl, .inr ⟨w1.heap.size, 0, #[], rfl, Nat.le_refl _, heap_alloc_new w1 _, Nat.le_refl _, Nat.zero_le _, rfl, rfl⟩⟩ w.heap.size A2 n2 c2 (intCells ys) rfl ((ly.below b1).alloc b1.size _) (by rw [intCells_len]; omega) (intCells_one _) (by simp only [maxLen]; omega) (by omega) (by simp) ?_; intro v2 w2 hown2 hg2 hat2; rw [Nat.zero_add, List.nil_append] at hown2; obtain ⟨A3, k2, rfl, l2, _⟩ := own_lists hown2; have b2 : Below w1.heap.size w1 w2 := ((Below.refl _ _).alloc (Nat.le_refl _) _).grown hg2 (by simp) (fun j hj => by cases hj; exact Nat.le_refl _); have l1 := (l1.below b2).more b2.size; have I : Known w w2 [] := ((Known.start w).next (b1.mono (Nat.le_refl _))).next b2; clear hown2 hg2 hat2) | (go_at_call 35; ((refine (hull_differ A1 A3 n k1 n2 k2 w2 (by omega)).mono ?_); rintro e wh ⟨rfl, b⟩; have I : Known w wh [] := I.next b)) | (go_at_call 14; ((with_reducible refine (LV _).mono ?_); rintro e wl ⟨rfl, b⟩; have I : Known w wl [(wh.heap.size, [.int .i64 0, .int .i64 0, .int .i64 0, .int .i64 0])] := (I.new _ _).next b; (try clear F); have F := I.2; simp only [KB, CellsAt, Nat.zero_add, Nat.reduceAdd, and_true] at F)))
  go_ret
  exact ⟨rfl, I.1⟩

theorem down {w0 w : World} {l : List (Nat × List Value)} (h : Known w0 w l) : Below w0.heap.size w0 w := h.1

theorem all_getD (zs : List Int) (k : Nat) (h : k < zs.length) (ha : zs.all mayB = true) : mayB (zs.getD k 0) = true := by
  rw [List.all_eq_true] at ha
  have : zs.getD k 0 ∈ zs := by simp [List.getD, h]
  exact ha _ this

set_option maxHeartbeats 8000000 in
theorem walk_over (A A2 : Option Addr) (n c c2 : Nat) (xs ys : List Int) (w : World) (hx : xs.length = n) (hy : ys.length = n) (h1 : n ≤ 5000) (lx : Lists w w.heap.size A (intCells xs)) (ly : Lists w w.heap.size A2 (intCells ys)) (hall : (xs.all mayB && ys.all mayB) = false) : Calls Try.prog 8 #[.slice A n c, .slice A2 n c2] w fun e w' => e = .returned (.bool true) ∧ Below w.heap.size w w' := by
  have LV := fun w => lives2 w
  obtain ⟨i0, hi, hz0, hz1, hz2⟩ := info_parts intInfo
  have d1 : decide ((5000 : Int) < n) = false := by simp; omega
  have d3 : ((n : Int) != (n : Int)) = false := by simp
  have q1 := fun w => eqB_run 0 0 0 0 0 0 0 0 w
  have q2 := fun x y w => eqB_guard 0 0 0 0 0 0 0 0 x y w
  rw [show eq4 0 0 0 0 0 0 0 0 = true from rfl] at q1
  have HX := Lib.hid hx
  have HY := Lib.hid hy
  have HLX := Lib.hid lx
  have HLY := Lib.hid ly
  have HALL := Lib.hid hall
  have hn0 : 0 < n := by
    rcases Nat.eq_zero_or_pos n with h | h
    · have e1 : xs = [] := List.eq_nil_of_length_eq_zero (by omega)
      have e2 : ys = [] := List.eq_nil_of_length_eq_zero (by omega)
      subst e1 e2
      cases hall
    · exact h
  have HU : ∀ (A1 A3 : Option Addr) (k1 k2 : Nat) (w2 : World), Lists w2 w2.heap.size A1 (intCells xs) → Lists w2 w2.heap.size A3 (intCells ys) → Calls Try.prog 35 #[.slice A1 n k1, .slice A3 n k2] w2 (fun e w' => e = .returned (.tuple #[.agg #[.int .i64 0, .int .i64 0, .int .i64 0, .int .i64 0], .int .i64 10]) ∧ Below w2.heap.size w2 w') :=
    fun A1 A3 k1 k2 w2 l1 l2 => hull_over A1 A3 n k1 k2 w2.heap.size w2.heap.size xs ys w2 hx hy (by omega) l1 l2 (Nat.le_refl _) (Nat.le_refl _) hall
  clear hall hx hy
  go_enter Try.func8, Try.ntmps8
  go_wp2_with (first | (at_builtin; refine wpList_append_src _ rfl (.tmp 18) (.tmp 19) 50 rfl w.heap.size 3 i0 (.int .i64 0) 1 8 Try.underlying50 hi hz0 hz1 hz2 rfl (by decide) (.slice (some ⟨w.heap.size, 0, none⟩) 0 0) 0 [] rfl ⟨rfl, .inr ⟨w.heap.size, 0, #[], rfl, Nat.le_refl _, heap_alloc_new w _, Nat.le_refl _, Nat.zero_le _, rfl, rfl⟩⟩ w.heap.size A n c (intCells xs) rfl (lx.alloc (Nat.le_refl _) _) (by rw [intCells_len, Nat.mul_one]; first | exact HX.out | exact HY.out) (intCells_one _) (by simp only [maxLen]; omega) (by omega) (by simp) ?_; intro v1 w1 hown1 hg1 hat1; rw [Nat.zero_add, List.nil_append] at hown1; obtain ⟨A1, k1, rfl, l1, _⟩ := own_lists hown1; have b1 : Below w.heap.size w w1 := ((Below.refl _ _).alloc (Nat.le_refl _) _).grown hg1 (by simp) (fun j hj => by cases hj; exact Nat.le_refl _); clear hown1 hg1 hat1) | (at_builtin; refine wpList_append_src _ rfl (.tmp 21) (.tmp 22) 50 rfl w1.heap.size 3 i0 (.int .i64 0) 1 8 Try.underlying50 hi hz0 hz1 hz2 rfl (by decide) (.slice (some ⟨w1.heap.size, 0, none⟩) 0 0) 0 [] rfl ⟨rfl, .inr ⟨w1.heap.size, 0, #[], rfl, Nat.le_refl _, heap_alloc_new w1 _, Nat.le_refl _, Nat.zero_le _, rfl, rfl⟩⟩ w.heap.size A2 n c2 (intCells ys) rfl ((ly.below b1).alloc b1.size _) (by rw [intCells_len, Nat.mul_one]; first | exact HX.out | exact HY.out) (intCells_one _) (by simp only [maxLen]; omega) (by omega) (by simp) ?_; intro v2 w2 hown2 hg2 hat2; rw [Nat.zero_add, List.nil_append] at hown2; obtain ⟨A3, k2, rfl, l2, _⟩ := own_lists hown2; have b2 : Below w1.heap.size w1 w2 := ((Below.refl _ _).alloc (Nat.le_refl _) _).grown hg2 (by simp) (fun j hj => by cases hj; exact Nat.le_refl _); have l1 := (l1.below b2).more b2.size; have I : Known w w2 [] := ((Known.start w).next (b1.mono (Nat.le_refl _))).next b2; clear hown2 hg2 hat2) | (go_at_call 35; ((refine (HU A1 A3 k1 k2 w2 l1 l2).mono ?_); rintro e wh ⟨rfl, b⟩; have I : Known w wh [] := I.next b)) | (go_at_call 14; ((with_reducible refine (LV _).mono ?_); rintro e wl ⟨rfl, b⟩; have I : Known w wl [(wh.heap.size, [.int .i64 0, .int .i64 0, .int .i64 0, .int .i64 0])] := (I.new _ _).next b; (try clear F); have F := I.2; simp only [KB, CellsAt, Nat.zero_add, Nat.reduceAdd, and_true] at F)))
  go_loop [7] (fun i => ∃ k : Nat, k ≤ n ∧ i = .int .i64 k ∧ Hid ((xs.take k).all mayB = true ∧ (ys.take k).all mayB = true)) (fun i => n - (intOf i).toNat)
  case atStart => exact ⟨0, Nat.zero_le _, rfl, Lib.hid ⟨rfl, rfl⟩⟩
  case round =>
    obtain ⟨k, hk, rfl, HA⟩ := hrel
    have hlt : k < n := by
      rcases Nat.lt_or_ge k n with h | h
      · exact h
      · have h1 := HA.out
        rw [List.take_of_length_le (by have := HX.out; omega), List.take_of_length_le (by have := HY.out; omega)] at h1
        have h2 := HALL.out
        rw [h1.1, h1.2] at h2
        cases h2
    obtain ⟨bx, ox, hA, hbx, hcx⟩ := lists_ints HLX.out (by have := HX.out; omega)
    obtain ⟨bw, oy, hA2, hby, hcy⟩ := lists_ints HLY.out (by have := HY.out; omega)
    subst hA hA2
    have hxk := (I.1.cell (p := ⟨bx, ox + k, none⟩) hbx).trans (hcx k (by have := HX.out; omega))
    have hyk := (I.1.cell (p := ⟨bw, oy + k, none⟩) hby).trans (hcy k (by have := HY.out; omega))
    clear hcx hcy
    have hs1 := all_take_snoc mayB xs k (by have := HX.out; omega)
    have hs2 := all_take_snoc mayB ys k (by have := HY.out; omega)
    rw [HA.out.1] at hs1
    rw [HA.out.2] at hs2
    have HS1 := Lib.hid hs1
    have HS2 := Lib.hid hs2
    clear hs1 hs2
    generalize xs.getD k 0 = xk at *
    generalize ys.getD k 0 = yk at *
    have X := fun w => may_ref xk w
    have Y := fun w => may_ref yk w
    cases hmx : mayB xk
    · rw [hmx] at X
      clear hmx Y HS1 HS2
      have Y := X
      go_wp2_with (first | (go_at_call 13; ((with_reducible refine (X _).mono ?_); rintro e w' ⟨rfl, rfl⟩)) | (go_at_call 13; ((with_reducible refine (Y _).mono ?_); rintro e w' ⟨rfl, rfl⟩)))
      go_ret
      exact ⟨rfl, I.1⟩
    · cases hmy : mayB yk
      · rw [hmx] at X
        rw [hmy] at Y
        clear hmx hmy HS1 HS2
        go_wp2_with (first | (go_at_call 13; ((with_reducible refine (X _).mono ?_); rintro e w' ⟨rfl, rfl⟩)) | (go_at_call 13; ((with_reducible refine (Y _).mono ?_); rintro e w' ⟨rfl, rfl⟩)))
        go_ret
        exact ⟨rfl, I.1⟩
      · have HN := Lib.hid (p := (xs.take (k + 1)).all mayB = true ∧ (ys.take (k + 1)).all mayB = true) ⟨by rw [HS1.out, hmx]; rfl, by rw [HS2.out, hmy]; rfl⟩
        rw [hmx] at X
        rw [hmy] at Y
        clear hmx hmy HS1 HS2
        go_wp2_with (first | (go_at_call 13; ((with_reducible refine (X _).mono ?_); rintro e w' ⟨rfl, rfl⟩)) | (go_at_call 13; ((with_reducible refine (Y _).mono ?_); rintro e w' ⟨rfl, rfl⟩)))
        go_round
        case rel => exact ⟨k + 1, by omega, by go_num, HN⟩
        case measure => simp [intOf]; omega

set_option maxHeartbeats 8000000 in
theorem walk_fine (A A2 : Option Addr) (n c c2 : Nat) (xs ys : List Int) (w : World) (hx : xs.length = n) (hy : ys.length = n) (h1 : n ≤ 5000) (lx : Lists w w.heap.size A (intCells xs)) (ly : Lists w w.heap.size A2 (intCells ys)) (hmx : xs.all mayB = true) (hmy : ys.all mayB = true) : Calls Try.prog 8 #[.slice A n c, .slice A2 n c2] w fun e w' => e = .returned (.bool true) ∧ Below w.heap.size w w' := by
  have LV := fun w => lives2 w
  obtain ⟨i0, hi, hz0, hz1, hz2⟩ := info_parts intInfo
  have d1 : decide ((5000 : Int) < n) = false := by simp; omega
  have d3 : ((n : Int) != (n : Int)) = false := by simp
  have HX := Lib.hid hx
  have HY := Lib.hid hy
  have HLX := Lib.hid lx
  have HLY := Lib.hid ly
  have HMX := Lib.hid hmx
  have HMY := Lib.hid hmy
  obtain ⟨HQ, hHQ⟩ : ∃ Z : Q, Z = accQ xs ys n := ⟨_, rfl⟩
  have HU : ∀ (A1 A3 : Option Addr) (k1 k2 : Nat) (w2 : World), Lists w2 w2.heap.size A1 (intCells xs) → Lists w2 w2.heap.size A3 (intCells ys) → Calls Try.prog 35 #[.slice A1 n k1, .slice A3 n k2] w2 (fun e w' => e = .returned (.tuple #[.agg #[.int .i64 HQ.x0, .int .i64 HQ.y0, .int .i64 HQ.x1, .int .i64 HQ.y1], .int .i64 0]) ∧ Below w2.heap.size w2 w') := fun A1 A3 k1 k2 w2 l1 l2 => by
    rw [hHQ]
    rcases Nat.eq_zero_or_pos n with h0 | h0
    · subst h0
      exact hull_none A1 A3 k1 k2 w2
    · have := hull_some A1 A3 n k1 k2 w2.heap.size w2.heap.size xs ys w2 hx hy (by omega) h0 l1 l2 (Nat.le_refl _) (Nat.le_refl _) hmx hmy
      unfold accQ
      rw [if_neg (by omega), List.take_of_length_le (by omega), List.take_of_length_le (by omega)]
      exact this
  have RH : ∀ (w2 : World), Below w.heap.size w w2 → Calls Try.prog 36 #[.slice A n c, .slice A2 n c2] w2 (fun e w' => e = .returned (.agg #[.int .i64 HQ.x0, .int .i64 HQ.y0, .int .i64 HQ.x1, .int .i64 HQ.y1]) ∧ Below w2.heap.size w2 w') := fun w2 hb => by
    rw [hHQ]
    exact rhull_any A A2 n c c2 xs ys w2 hx hy (by omega) ((lx.below hb).more hb.size) ((ly.below hb).more hb.size)
  have q1 := fun w => eqB_run HQ.x0 HQ.y0 HQ.x1 HQ.y1 HQ.x0 HQ.y0 HQ.x1 HQ.y1 w
  have q2 := fun x y w => eqB_guard HQ.x0 HQ.y0 HQ.x1 HQ.y1 HQ.x0 HQ.y0 HQ.x1 HQ.y1 x y w
  rw [show eq4 HQ.x0 HQ.y0 HQ.x1 HQ.y1 HQ.x0 HQ.y0 HQ.x1 HQ.y1 = true by unfold eq4; simp] at q1
  clear hHQ hx hy hmx hmy
  go_enter Try.func8, Try.ntmps8
  go_wp2_with (first | (at_builtin; refine wpList_append_src _ rfl (.tmp 18) (.tmp 19) 50 rfl w.heap.size 3 i0 (.int .i64 0) 1 8 Try.underlying50 hi hz0 hz1 hz2 rfl (by decide) (.slice (some ⟨w.heap.size, 0, none⟩) 0 0) 0 [] rfl ⟨rfl, .inr ⟨w.heap.size, 0, #[], rfl, Nat.le_refl _, heap_alloc_new w _, Nat.le_refl _, Nat.zero_le _, rfl, rfl⟩⟩ w.heap.size A n c (intCells xs) rfl (lx.alloc (Nat.le_refl _) _) (by rw [intCells_len, Nat.mul_one]; first | exact HX.out | exact HY.out) (intCells_one _) (by simp only [maxLen]; omega) (by omega) (by simp) ?_; intro v1 w1 hown1 hg1 hat1; rw [Nat.zero_add, List.nil_append] at hown1; obtain ⟨A1, k1, rfl, l1, _⟩ := own_lists hown1; have b1 : Below w.heap.size w w1 := ((Below.refl _ _).alloc (Nat.le_refl _) _).grown hg1 (by simp) (fun j hj => by cases hj; exact Nat.le_refl _); clear hown1 hg1 hat1) | (at_builtin; refine wpList_append_src _ rfl (.tmp 21) (.tmp 22) 50 rfl w1.heap.size 3 i0 (.int .i64 0) 1 8 Try.underlying50 hi hz0 hz1 hz2 rfl (by decide) (.slice (some ⟨w1.heap.size, 0, none⟩) 0 0) 0 [] rfl ⟨rfl, .inr ⟨w1.heap.size, 0, #[], rfl, Nat.le_refl _, heap_alloc_new w1 _, Nat.le_refl _, Nat.zero_le _, rfl, rfl⟩⟩ w.heap.size A2 n c2 (intCells ys) rfl ((ly.below b1).alloc b1.size _) (by rw [intCells_len, Nat.mul_one]; first | exact HX.out | exact HY.out) (intCells_one _) (by simp only [maxLen]; omega) (by omega) (by simp) ?_; intro v2 w2 hown2 hg2 hat2; rw [Nat.zero_add, List.nil_append] at hown2; obtain ⟨A3, k2, rfl, l2, _⟩ := own_lists hown2; have b2 : Below w1.heap.size w1 w2 := ((Below.refl _ _).alloc (Nat.le_refl _) _).grown hg2 (by simp) (fun j hj => by cases hj; exact Nat.le_refl _); have l1 := (l1.below b2).more b2.size; have I : Known w w2 [] := ((Known.start w).next (b1.mono (Nat.le_refl _))).next b2; clear hown2 hg2 hat2) | (go_at_call 35; ((refine (HU A1 A3 k1 k2 w2 l1 l2).mono ?_); rintro e wh ⟨rfl, b⟩; have I : Known w wh [] := I.next b)) | (go_at_call 14; ((with_reducible refine (LV _).mono ?_); rintro e wl ⟨rfl, b⟩; have I : Known w wl [(wh.heap.size, [.int .i64 HQ.x0, .int .i64 HQ.y0, .int .i64 HQ.x1, .int .i64 HQ.y1])] := (I.new _ _).next b; (try clear F); have F := I.2; simp only [KB, CellsAt, Nat.zero_add, Nat.reduceAdd, and_true] at F)))
  go_loop [7] (fun i => ∃ k : Nat, k ≤ n ∧ i = .int .i64 k) (fun i => n - (intOf i).toNat)
  case atStart => exact ⟨0, Nat.zero_le _, rfl⟩
  case round =>
    obtain ⟨k, hk, rfl⟩ := hrel
    by_cases hlt : k < n
    · obtain ⟨bx, ox, hA, hbx, hcx⟩ := lists_ints HLX.out (by have := HX.out; omega)
      obtain ⟨bw, oy, hA2, hby, hcy⟩ := lists_ints HLY.out (by have := HY.out; omega)
      subst hA hA2
      have hxk := (I.1.cell (p := ⟨bx, ox + k, none⟩) hbx).trans (hcx k (by have := HX.out; omega))
      have hyk := (I.1.cell (p := ⟨bw, oy + k, none⟩) hby).trans (hcy k (by have := HY.out; omega))
      clear hcx hcy
      have X := fun w => may_ref (xs.getD k 0) w
      have Y := fun w => may_ref (ys.getD k 0) w
      rw [all_getD xs k (by have := HX.out; omega) HMX.out] at X
      rw [all_getD ys k (by have := HY.out; omega) HMY.out] at Y
      generalize xs.getD k 0 = xk at *
      generalize ys.getD k 0 = yk at *
      clear RH
      go_wp2_with (first | (go_at_call 13; ((with_reducible refine (X _).mono ?_); rintro e w' ⟨rfl, rfl⟩)) | (go_at_call 13; ((with_reducible refine (Y _).mono ?_); rintro e w' ⟨rfl, rfl⟩)))
      go_round
      case rel => exact ⟨k + 1, by omega, by go_num⟩
      case measure => simp [intOf]; omega
    · go_wp2
      refine wp_region_plan (fun w' => Known w w' [(wh.heap.size, [.int .i64 HQ.x0, .int .i64 HQ.y0, .int .i64 HQ.x1, .int .i64 HQ.y1])]) _ rfl (by kernel_rfl) (by kernel_rfl) (I.drew) ?_
      (try clear F)
      repeat (first
        | (refine PlanL.skip (by rfl) ?_; simp only [Act.put, List.setIfInBounds_toArray, List.set_cons_zero, List.set_cons_succ])
        | (refine PlanL.val (v := ?_) (by rfl) ?_ ?_; rotate_left; (focus (intro w' hS; have F := hS.2; simp only [KB, CellsAt, Nat.zero_add, Nat.reduceAdd, and_true] at F; go_simp <;> with_reducible rfl)); try simp only [Act.put, List.setIfInBounds_toArray, List.set_cons_zero, List.set_cons_succ])
        | (refine PlanL.call (v := ?_) (f := ?_) (args := ?_) (by rfl) ?_ ?_ ?_; rotate_left 3; (focus (intro w' hS; have F := hS.2; simp only [KB, CellsAt, Nat.zero_add, Nat.reduceAdd, and_true] at F; go_simp; (constructor <;> with_reducible rfl))); (focus (intro w' hS; first | ((with_reducible refine (RH _ (down hS)).mono ?_); rintro e w'' ⟨rfl, b⟩; refine ⟨?_, Known.next hS b⟩; with_reducible rfl))); try simp only [Act.put, List.setIfInBounds_toArray, List.set_cons_zero, List.set_cons_succ]))
      refine PlanL.nil ?_
      intro w' I
      have F := I.2
      simp only [KB, CellsAt, Nat.zero_add, Nat.reduceAdd, and_true] at F
      go_wp2
      go_ret
      exact ⟨rfl, I.1⟩

theorem walk (W : World) (A : Option Addr) (n c : Nat) (xs : List Int) (hx : xs.length = n) (hc : n ≤ c) (m1 : c ≤ maxLen) (lx : Lists W W.heap.size A (intCells xs)) (A2 : Option Addr) (n2 c2 : Nat) (ys : List Int) (hy : ys.length = n2) (hc2 : n2 ≤ c2) (m2 : c2 ≤ maxLen) (ly : Lists W W.heap.size A2 (intCells ys)) :
    Calls Try.prog 8 #[.slice A n c, .slice A2 n2 c2] W fun e w' => e = .returned (.bool true) ∧ Below W.heap.size W w' := by
  unfold maxLen at m1 m2
  by_cases h : 5000 < n ∨ 5000 < n2
  · exact walk_long A A2 n c n2 c2 W (by omega) (by omega) h
  · by_cases hne : n = n2
    · subst hne
      cases hall : (xs.all mayB && ys.all mayB)
      · exact walk_over A A2 n c c2 xs ys W hx hy (by omega) lx ly hall
      · rw [Bool.and_eq_true] at hall
        exact walk_fine A A2 n c c2 xs ys W hx hy (by omega) lx ly hall.1 hall.2
    · exact walk_differ A A2 n c n2 c2 xs ys W hx hy (by omega) (by omega) lx ly hne

set_option linter.unusedVariables false in
set_option maxRecDepth 100000 in
theorem lifted (os : Os) (started : os.Started) (H : Type) (enc : TypeId × Value → H) :
    ReturnsInHanded {} Try.checked os 8 .any (Rows.affineHullsSpec.pre6 enc Try.prog Try.f8 Rows.affineHullsRow.domain false) (Rows.affineHullsSpec.post enc Try.prog Try.f8 false true false false) := by
  refine returnsInHanded_of_change (C := Try.checked) Try.own started (by kernel_rfl) Try.func8
    (ChangeSpec.witness6 (enc := enc) (C := Try.checked) false ⟨#[], #[.slice none 0 0, .slice none 0 0], []⟩ 8 (by kernel_rfl) (by kernel_rfl) (by kernel_rfl) (by kernel_rfl)) ?_
  intro W base args ds gs before hval0 hW hcnd _
  have hval : ∀ (j : Nat) t v, Try.f8.params[j]? = some t → args[j]? = some v → Value.okWide Try.prog W .any base t v := hval0
  have hW' := hW
  obtain ⟨p, q, hA0, hV, rfl, hfz, hnd⟩ := hW
  have hA : DataW.TrodAll enc Try.prog W 0 (fun _ => true) true Try.f8.params.toList args.toList ds p := hA0
  rw [Try.params8] at hA hval
  obtain ⟨v0, vs0, d0, ds0, p0, q0, hargs, rfl, rfl, h0, r0⟩ := trodAll_cons hA
  obtain ⟨v1, vs1, d1, ds1, p1, q1, rfl, rfl, rfl, h1, r1⟩ := trodAll_cons r0
  obtain ⟨rfl, rfl, rfl⟩ := trodAll_nil r1
  obtain rfl : args = #[v0, v1] := by cases args; simp_all
  obtain ⟨rfl, rfl⟩ := trodVars_none hV
  obtain ⟨A0, n0, c0, zs0, rfl, z0, nc0, m0, L0, wf0⟩ := open_list_int Try.underlying50 Try.underlying3 Try.cellsInt (hval 0 50 v0 rfl rfl) h0
  obtain ⟨A1, n1, c1, zs1, rfl, z1, nc1, m1, L1, wf1⟩ := open_list_int Try.underlying50 Try.underlying3 Try.cellsInt (hval 1 50 v1 rfl rfl) h1
  clear hA0 hval0
  simp only [List.append_nil] at hW'
  refine (walk W A0 n0 c0 zs0 z0 nc0 m0 L0 A1 n1 c1 zs1 z1 nc1 m1 L1).mono fun e W' ⟨he, hg⟩ => ?_
  subst he
  exact ⟨_, rfl, law_post Try.laidOut rfl Try.underlying4 (by kernel_rfl) rfl rfl rfl rfl hW' hg⟩

theorem over : Rows.affineHullsRow.holds Try.pinned (OpenSpec.ofChange Rows.affineHullsSpec) :=
  OpenClaim.holds_of_wide 8 Try.f8 rfl rfl rfl rfl rfl rfl rfl ⟨rfl, rfl, rfl, rfl, rfl⟩ rfl rfl rfl rfl rfl (by kernel_rfl) Try.func8 (by kernel_rfl)
    (of_decide_eq_true (by kernel_rfl)) (by unfold Func.isWrapper; first | (rw [if_pos (by decide +kernel)]; kernel_rfl) | (rw [if_neg (by decide +kernel)]; exact ⟨rfl, rfl⟩))
    (fun os started H enc _ => lifted os started H enc)

theorem proved : Rows.AffineHullsSaid :=
  over

end Go.Proofs.Ytdbnjlmkbmfhkaa.affineHulls
