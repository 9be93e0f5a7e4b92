/- StackRolls: numbers that are rolled by j places, and back, are as they were; n times by one, too; no condition but what the row prints. -/
import Derived.Test.YtdnmhjlodmicoaaCSt6

namespace Go.Proofs.Ytdnmhjlodmicoaa.stackRolls
open Go Go.ChangeShapes Go.WideShapes Go.ChangeAt Go.RowKit
set_option linter.unusedVariables false
set_option linter.unusedSimpArgs false

variable {W : World}
set_option maxRecDepth 100000 in
set_option maxHeartbeats 1000000 in
theorem rfail0 (A : Option Addr) (n c : Nat) (j : Int) (h0 :  n > 40) : Calls Try.prog 5 #[.slice A n c, .int .i64 j] W fun e w' => e = .returned (.bool true) ∧ Below W.heap.size W w' := by
  have d0 : decide ((n : Int) > 40) = true := by simp; omega
  have d0b : decide ((40 : Int) < (n : Int)) = true := by simp; omega
  have d0c : decide (40 < n) = true := by simp; omega
  clear h0
  go_enter Try.func5, Try.ntmps5
  go_wp2_with (first | (go_at_call 9; ((with_reducible refine (lives17 _).mono ?_); rintro e w1 ⟨rfl, b1⟩)))
  go_ret
  exact ⟨rfl, b1⟩
set_option maxRecDepth 100000 in
set_option maxHeartbeats 1000000 in
theorem rfail1 (A : Option Addr) (n c : Nat) (j : Int) (h0 : ¬ n > 40) (h1 :  n < 1) : Calls Try.prog 5 #[.slice A n c, .int .i64 j] W fun e w' => e = .returned (.bool true) ∧ Below W.heap.size W w' := by
  have d0 : decide ((n : Int) > 40) = false := by simp; omega
  have d0b : decide ((40 : Int) < (n : Int)) = false := by simp; omega
  have d0c : decide (40 < n) = false := by simp; omega
  have d1 : decide ((n : Int) < 1) = true := by simp; omega
  have d1b : decide (n < 1) = true := by simp; omega
  have d1c : decide (n = 0) = true := by simp; omega
  clear h0 h1
  go_enter Try.func5, Try.ntmps5
  go_wp2_with (first | (go_at_call 9; ((with_reducible refine (lives17 _).mono ?_); rintro e w1 ⟨rfl, b1⟩)))
  go_ret
  exact ⟨rfl, b1⟩
set_option maxRecDepth 100000 in
set_option maxHeartbeats 1000000 in
theorem rfail2 (A : Option Addr) (n c : Nat) (j : Int) (h0 : ¬ n > 40) (h1 : ¬ n < 1) (h2 :  j < -1000) : Calls Try.prog 5 #[.slice A n c, .int .i64 j] W fun e w' => e = .returned (.bool true) ∧ Below W.heap.size W w' := by
  have d0 : decide ((n : Int) > 40) = false := by simp; omega
  have d0b : decide ((40 : Int) < (n : Int)) = false := by simp; omega
  have d0c : decide (40 < n) = false := by simp; omega
  have d1 : decide ((n : Int) < 1) = false := by simp; omega
  have d1b : decide (n < 1) = false := by simp; omega
  have d1c : decide (n = 0) = false := by simp; omega
  have d2 : decide (j < -1000) = true := by simpa using h2
  clear h0 h1 h2
  go_enter Try.func5, Try.ntmps5
  go_wp2_with (first | (go_at_call 9; ((with_reducible refine (lives17 _).mono ?_); rintro e w1 ⟨rfl, b1⟩)))
  go_ret
  exact ⟨rfl, b1⟩
set_option maxRecDepth 100000 in
set_option maxHeartbeats 1000000 in
theorem rfail3 (A : Option Addr) (n c : Nat) (j : Int) (h0 : ¬ n > 40) (h1 : ¬ n < 1) (h2 : ¬ j < -1000) (h3 :  j > 1000) : Calls Try.prog 5 #[.slice A n c, .int .i64 j] W fun e w' => e = .returned (.bool true) ∧ Below W.heap.size W w' := by
  have d0 : decide ((n : Int) > 40) = false := by simp; omega
  have d0b : decide ((40 : Int) < (n : Int)) = false := by simp; omega
  have d0c : decide (40 < n) = false := by simp; omega
  have d1 : decide ((n : Int) < 1) = false := by simp; omega
  have d1b : decide (n < 1) = false := by simp; omega
  have d1c : decide (n = 0) = false := by simp; omega
  have d2 : decide (j < -1000) = false := by simpa using h2
  have d3 : decide (j > 1000) = true := by simpa using h3
  have d3b : decide (1000 < j) = true := by simpa using h3
  clear h0 h1 h2 h3
  go_enter Try.func5, Try.ntmps5
  go_wp2_with (first | (go_at_call 9; ((with_reducible refine (lives17 _).mono ?_); rintro e w1 ⟨rfl, b1⟩)))
  go_ret
  exact ⟨rfl, b1⟩

theorem push_yes (q : Nat) (nv : Value) (L St ds : List Int) (x : Int) (w : World) (h : Sk w q nv L St ds) (hx : mayB x = true) (hl : L.length < 48) :
    Calls Try.prog 10 #[.pointer (some ⟨q, 0, none⟩), .int .i64 x] w (Did q nv w 0 (L ++ [x]) St ds) := by
  have h1 := push_any q nv L St ds x w h
  unfold pushE pushL at h1
  rwa [if_pos hx, if_pos hx, if_neg (by omega), if_neg (by omega)] at h1
theorem mul_may (n : Nat) (h : n ≤ 40) : mayB ((n : Int) * 65536) = true := by unfold mayB; simp; omega
theorem j_may (j : Int) (h1 : -1000 ≤ j) (h2 : j ≤ 1000) : mayB (j * 65536) = true := by unfold mayB; simp; omega
theorem rot_may {L : List Int} {j : Int} (h : ∀ x ∈ L, mayB x = true) : ∀ x ∈ rot L j, mayB x = true := fun x hx => by
  unfold rot at hx
  obtain ⟨k, hk, rfl⟩ := List.mem_map.1 hx
  have hk := List.mem_range.1 hk
  have h0 := Int.emod_nonneg ((k : Int) - j) (show (L.length : Int) ≠ 0 by omega)
  have h1 := Int.emod_lt_of_pos ((k : Int) - j) (show (0 : Int) < (L.length : Int) by omega)
  exact h _ (mem_getD (by omega))
/-- One push of the count, one of how far, and the turn. -/
theorem p1 (q : Nat) (nv : Value) (C : List Int) (n : Nat) (w : World) (h : Sk w q nv C (List.replicate 32 0) []) (hn : C.length = n) (h40 : n ≤ 40) :
    Calls Try.prog 10 #[.pointer (some ⟨q, 0, none⟩), .int .i64 ((n : Int) * 65536)] w (Did q nv w 0 (C ++ [((n : Int) * 65536)]) (List.replicate 32 0) []) := push_yes q nv C (List.replicate 32 0) [] ((n : Int) * 65536) w h (mul_may n h40) (by omega)
theorem p2 (q : Nat) (nv : Value) (C : List Int) (n : Nat) (y : Int) (w : World) (h : Sk w q nv (C ++ [((n : Int) * 65536)]) (List.replicate 32 0) []) (hn : C.length = n) (h40 : n ≤ 40) (hy : mayB y = true) :
    Calls Try.prog 10 #[.pointer (some ⟨q, 0, none⟩), .int .i64 y] w (Did q nv w 0 (C ++ [((n : Int) * 65536), y]) (List.replicate 32 0) []) := by
  have h1 := push_yes q nv (C ++ [((n : Int) * 65536)]) (List.replicate 32 0) [] y w h hy (by rw [List.length_append]; simp; omega)
  rwa [List.append_assoc] at h1
theorem p3 (q : Nat) (nv : Value) (C : List Int) (n : Nat) (y j : Int) (w : World) (h : Sk w q nv (C ++ [((n : Int) * 65536), y]) (List.replicate 32 0) []) (hn : C.length = n) (hj : y / 65536 = j) :
    Calls Try.prog 14 #[.pointer (some ⟨q, 0, none⟩), .int .i64 30] w (Did q nv w 0 (rot C j) (List.replicate 32 0) []) := by
  have h1 := cd_roll q nv [] (List.replicate 32 0) [] ((n : Int) * 65536) y C w h (by rw [hn]; omega)
  rwa [hj, List.nil_append] at h1
set_option maxRecDepth 100000 in
set_option maxHeartbeats 8000000 in
theorem rgood (A : Option Addr) (n c : Nat) (L : List Int) (j : Int) (hLn : L.length = n) (hl : Lists W W.heap.size A (intCells L)) (h40 : n ≤ 40) (h1 : 1 ≤ n) (hj1 : -1000 ≤ j) (hj2 : j ≤ 1000) : Calls Try.prog 5 #[.slice A n c, .int .i64 j] W fun e w' => e = .returned (.bool true) ∧ Below W.heap.size W w' := by
  have HL := Lib.hid hl
  have d0 : decide ((n : Int) > 40) = false := by simp; omega
  have d0b : decide ((40 : Int) < (n : Int)) = false := by simp; omega
  have d0c : decide (40 < n) = false := by simp; omega
  have d1 : decide ((n : Int) < 1) = false := by simp; omega
  have d1b : decide (n < 1) = false := by simp; omega
  have d1c : decide (n = 0) = false := by simp; omega
  have d2 : decide (j < -1000) = false := by simp; omega
  have d3 : decide (j > 1000) = false := by simp; omega
  have d3b : decide (1000 < j) = false := by simp; omega
  have HLN := Lib.hid hLn
  clear hl h1
  go_enter Try.func5, Try.ntmps5
  go_wp2
  go_loopw [5] (fun iv wr => ∃ k : Nat, k ≤ n ∧ iv = .int .i64 (k : Nat) ∧ W = wr ∧ Hid (∀ x ∈ L.take k, mayB x = true)) (fun iv _ => n - (intOf iv).toNat)
  case atStart => exact ⟨0, Nat.zero_le _, rfl, rfl, Lib.hid (by simp)⟩
  case round =>
    obtain ⟨k, hk, rfl, rfl, HM⟩ := hrel
    by_cases hlt : k < n
    · have q1 : decide ((k : Int) < (n : Int)) = true := by simp; omega
      obtain ⟨x, hx⟩ : ∃ x, L[k]? = some x := ⟨L[k]'(by rw [hLn]; exact hlt), List.getElem?_eq_getElem _⟩
      have hne : intCells L ≠ [] := by intro e; have h1 := congrArg List.length e; rw [intCells_len, hLn, List.length_nil] at h1; omega
      obtain ⟨b5, o5, hA, hb5, hc5⟩ := HL.out.plain hne
      subst hA
      have yk := hc5 k (.int .i64 x) (by simp [intCells, hx])
      have CM := fun w => may_ref x w
      clear hne hc5
      cases hm : mayB x
      · rw [hm] at CM
        clear hx hm
        go_wp2_with (first | (go_at_call 22; ((with_reducible refine (CM _).mono ?_); rintro e w4 ⟨rfl, rfl⟩)) | (go_at_call 9; ((with_reducible refine (lives17 _).mono ?_); rintro e w1 ⟨rfl, b1⟩)))
        go_ret
        exact ⟨rfl, b1⟩
      · rw [hm] at CM
        have HM2 := Lib.hid (show ∀ x ∈ L.take (k + 1), mayB x = true from fun z hz => by
          rw [List.take_add_one, hx] at hz
          rcases List.mem_append.1 hz with h | h
          · exact HM.out z h
          · simp at h; rw [h]; exact hm)
        clear hx hm
        go_wp2_with (first | (go_at_call 22; ((with_reducible refine (CM _).mono ?_); rintro e w4 ⟨rfl, rfl⟩)))
        go_roundw
        case rel => exact ⟨k + 1, by omega, by go_num, by first | rfl | trivial, HM2⟩
        case measure => simp [intOf]; omega
    · obtain rfl : n = k := by omega
      have q1 : decide ((n : Int) < (n : Int)) = false := by simp
      have hmay : ∀ x ∈ L, mayB x = true := by have h := HM.out; rwa [List.take_of_length_le (by omega)] at h
      have CO := of_any W.heap.size A c L W (Nat.le_refl _) HL.out hmay (by omega)
      rw [hLn] at CO
      have HMAY := Lib.hid hmay
      clear hmay HM hk
      go_wp2_with (first
        | (go_at_call 23; ((with_reducible refine (CO).mono ?_); rintro e w1 ⟨q, nv, rfl, hs, hb, hq⟩))
        | (go_at_call 9; ((with_reducible refine (lives17 _).mono ?_); rintro e w2 ⟨rfl, b2⟩); have hs := hs.below b2; have hb := hb.trans (b2.mono hb.size)))
      have HS := Lib.hid hs
      have HB := Lib.hid hb
      have HLJ := Lib.hid (And.intro hj1 hj2)
      clear hs hb
      obtain ⟨j0, hj0⟩ : ∃ j0, j0 = j := ⟨_, rfl⟩
      have HJ0 := Lib.hid hj0
      clear hj0
      go_loopw [1, 8] (fun jv iv wr => ∃ (nv : Value) (C : List Int) (jj : Int), jv = .int .i64 jj ∧ ((iv = .int .i64 0 ∧ Hid (C = L ∧ jj = j0)) ∨ (iv = .int .i64 1 ∧ Hid (C = rot L j0 ∧ jj = -j0)) ∨ (iv = .int .i64 2 ∧ Hid (C = L ∧ jj = j0))) ∧ Hid (Sk wr q nv C (List.replicate 32 0) []) ∧ Hid (Below W.heap.size W wr)) (fun _ iv _ => 2 - (intOf iv).toNat)
      case atStart => exact ⟨nv, L, j, rfl, .inl ⟨rfl, Lib.hid ⟨rfl, HJ0.out.symm⟩⟩, HS, HB⟩
      case round =>
        obtain ⟨nv, C, jj, rfl, hways, HK, HB⟩ := hrel
        have hjj0 := HJ0.out
        have hj := HLJ.out
        rcases hways with ⟨rfl, HC⟩ | ⟨rfl, HC⟩ | ⟨rfl, HC⟩
        · have hC : C.length = n := by rw [HC.out.1]; exact HLN.out
          have hb1 : -1000 ≤ jj := by rw [HC.out.2]; omega
          have hb2 : jj ≤ 1000 := by rw [HC.out.2]; omega
          have hjj : jj * 65536 / 65536 = jj := by omega
          have hy := j_may jj hb1 hb2
          have hs := HK.out
          have hb := HB.out
          have HC2 := Lib.hid (show rot C jj = rot L j0 ∧ -jj = -j0 by rw [HC.out.1, HC.out.2]; exact ⟨rfl, rfl⟩)
          clear hjj0 hj
          go_wp2_with (first | (go_at_call 10; (with_reducible refine (p1 q _ C n _ hs hC h40).mono ?_); rintro e w2 ⟨rfl, nv2, hs2, hm2⟩; have hb := hb.trans (hm2.to_below hs.own hq hs.lt); have hs := hs2) | (go_at_call 10; (with_reducible refine (p2 q _ C n (jj * 65536) _ hs hC h40 hy).mono ?_); rintro e w2 ⟨rfl, nv2, hs2, hm2⟩; have hb := hb.trans (hm2.to_below hs.own hq hs.lt); have hs := hs2) | (go_at_call 14; (with_reducible refine (p3 q _ C n (jj * 65536) jj _ hs hC hjj).mono ?_); rintro e w2 ⟨rfl, nv2, hs2, hm2⟩; have hb := hb.trans (hm2.to_below hs.own hq hs.lt); have hs := hs2))
          have HS2 := Lib.hid hs
          have HB2 := Lib.hid hb
          clear hs hb
          go_roundw
          case rel => exact ⟨_, rot C jj, -jj, by go_num, .inr (.inl ⟨by go_num, HC2⟩), HS2, HB2⟩
          case measure => simp [intOf]
        · have hC : C.length = n := by rw [HC.out.1, rot_len]; exact HLN.out
          have hb1 : -1000 ≤ jj := by rw [HC.out.2]; omega
          have hb2 : jj ≤ 1000 := by rw [HC.out.2]; omega
          have hjj : jj * 65536 / 65536 = jj := by omega
          have hy := j_may jj hb1 hb2
          have hs := HK.out
          have hb := HB.out
          have HC2 := Lib.hid (show rot C jj = L ∧ -jj = j0 by
            rw [HC.out.1, HC.out.2, rot_rot, show j0 + -j0 = 0 by omega, rot_zero]
            exact ⟨rfl, by omega⟩)
          clear hjj0 hj
          go_wp2_with (first | (go_at_call 10; (with_reducible refine (p1 q _ C n _ hs hC h40).mono ?_); rintro e w2 ⟨rfl, nv2, hs2, hm2⟩; have hb := hb.trans (hm2.to_below hs.own hq hs.lt); have hs := hs2) | (go_at_call 10; (with_reducible refine (p2 q _ C n (jj * 65536) _ hs hC h40 hy).mono ?_); rintro e w2 ⟨rfl, nv2, hs2, hm2⟩; have hb := hb.trans (hm2.to_below hs.own hq hs.lt); have hs := hs2) | (go_at_call 14; (with_reducible refine (p3 q _ C n (jj * 65536) jj _ hs hC hjj).mono ?_); rintro e w2 ⟨rfl, nv2, hs2, hm2⟩; have hb := hb.trans (hm2.to_below hs.own hq hs.lt); have hs := hs2))
          have HS2 := Lib.hid hs
          have HB2 := Lib.hid hb
          clear hs hb
          go_roundw
          case rel => exact ⟨_, rot C jj, -jj, by go_num, .inr (.inr ⟨by go_num, HC2⟩), HS2, HB2⟩
          case measure => simp [intOf]
        · have hs := HK.out
          rw [HC.out.1] at hs
          have hb := HB.out
          clear hjj0 hj
          go_wp2_with (first | (go_at_call 20; ((with_reducible refine (all_any _ _ _ _ _ _ hs).mono ?_); rintro e w3 ⟨va, rfl, owna, ba⟩); rw [hLn] at owna; obtain ⟨Aa, ca, rfl, hla, hca⟩ := own_lists owna; have hs := hs.below ba; have hb := hb.trans (ba.mono hb.size)) | (go_at_call 18; ((with_reducible refine (sameInts_lists Aa A n ca c L _ hla (HL.out.below hb |>.more hb.size) hLn (by omega)).mono ?_); rintro e w4 ⟨rfl, b4⟩); have hs := hs.below b4; have hb := hb.trans (b4.mono hb.size)))
          have HS2 := Lib.hid (show Sk _ q _ (rot L ((0 : Nat) : Int)) (List.replicate 32 0) [] by rw [show ((0 : Nat) : Int) = 0 from rfl, rot_zero]; exact hs)
          have HB2 := Lib.hid hb
          clear hs hb owna hla
          go_loopw [9] (fun iv wr => ∃ (k : Nat) (nv : Value), k ≤ n ∧ iv = .int .i64 (k : Nat) ∧ Hid (Sk wr q nv (rot L ((k : Nat) : Int)) (List.replicate 32 0) []) ∧ Hid (Below W.heap.size W wr)) (fun iv _ => n - (intOf iv).toNat)
          case atStart => exact ⟨0, _, Nat.zero_le _, rfl, HS2, HB2⟩
          case round =>
            obtain ⟨k, nv, hk, rfl, HK, HB⟩ := hrel
            by_cases hlt : k < n
            · have q1 : decide ((k : Int) < (n : Int)) = true := by simp; omega
              obtain ⟨C, hCC⟩ : ∃ C, C = rot L ((k : Nat) : Int) := ⟨_, rfl⟩
              rw [← hCC] at HK
              have hC : C.length = n := by rw [hCC, rot_len]; exact HLN.out
              have HC2 := Lib.hid (show rot C 1 = rot L ((k + 1 : Nat) : Int) by rw [hCC, rot_rot]; congr 1)
              obtain ⟨jj, hj1'⟩ : ∃ jj : Int, jj = 1 := ⟨_, rfl⟩
              have hjj : (65536 : Int) / 65536 = jj := by rw [hj1']; decide
              have hy : mayB 65536 = true := by decide
              have hs := HK.out
              have hb := HB.out
              have HJJ := Lib.hid hj1'
              clear hCC hj1'
              go_wp2_with (first | (go_at_call 10; (with_reducible refine (p1 q _ C n _ hs hC h40).mono ?_); rintro e w2 ⟨rfl, nv2, hs2, hm2⟩; have hb := hb.trans (hm2.to_below hs.own hq hs.lt); have hs := hs2) | (go_at_call 10; (with_reducible refine (p2 q _ C n 65536 _ hs hC h40 hy).mono ?_); rintro e w2 ⟨rfl, nv2, hs2, hm2⟩; have hb := hb.trans (hm2.to_below hs.own hq hs.lt); have hs := hs2) | (go_at_call 14; (with_reducible refine (p3 q _ C n 65536 jj _ hs hC hjj).mono ?_); rintro e w2 ⟨rfl, nv2, hs2, hm2⟩; have hb := hb.trans (hm2.to_below hs.own hq hs.lt); have hs := hs2))
              have HS3 := Lib.hid (show Sk _ q _ (rot L ((k + 1 : Nat) : Int)) (List.replicate 32 0) [] by rw [← HC2.out, ← HJJ.out]; exact hs)
              have HB3 := Lib.hid hb
              clear hs hb
              go_roundw
              case rel => exact ⟨k + 1, _, by omega, by go_num, HS3, HB3⟩
              case measure => simp [intOf]; omega
            · obtain rfl : n = k := by omega
              have q1 : decide ((n : Int) < (n : Int)) = false := by simp
              have hs := HK.out
              rw [rot_full L ((n : Nat) : Int) (by rw [HLN.out]; simp)] at hs
              have hb := HB.out
              go_wp2_with (first | (go_at_call 20; ((with_reducible refine (all_any _ _ _ _ _ _ hs).mono ?_); rintro e w3 ⟨va, rfl, owna, ba⟩); rw [hLn] at owna; obtain ⟨Aa, ca, rfl, hla, hca⟩ := own_lists owna; have hs := hs.below ba; have hb := hb.trans (ba.mono hb.size)) | (go_at_call 18; ((with_reducible refine (sameInts_lists Aa A n ca c L _ hla (HL.out.below hb |>.more hb.size) hLn (by omega)).mono ?_); rintro e w4 ⟨rfl, b4⟩); have hs := hs.below b4; have hb := hb.trans (b4.mono hb.size)))
              go_ret
              exact ⟨rfl, hb⟩
theorem walk (A : Option Addr) (c : Nat) (L : List Int) (_ : L.length ≤ c) (_ : c ≤ maxLen) (hl : Lists W W.heap.size A (intCells L)) (j : Int) (_ : (Lit.int .i64 j).wf = true) : Calls Try.prog 5 #[.slice A L.length c, .int .i64 j] W fun e w' => e = .returned (.bool true) ∧ Below W.heap.size W w' := by
  by_cases h0 : L.length > 40
  · exact rfail0 A L.length c j h0
  by_cases h1 : L.length < 1
  · exact rfail1 A L.length c j h0 h1
  by_cases h2 : j < -1000
  · exact rfail2 A L.length c j h0 h1 h2
  by_cases h3 : j > 1000
  · exact rfail3 A L.length c j h0 h1 h2 h3
  exact rgood A L.length c L j rfl hl (by omega) (by omega) (by omega) (by omega)

set_option linter.unusedVariables false in
set_option maxRecDepth 100000 in
theorem lifted (os : Os) (started : os.Started) (H : Type) (enc : TypeId × Value → H) :
    ReturnsInHanded {} Try.checked os 5 .any (Rows.stackRollsSpec.pre6 enc Try.prog Try.f5 Rows.stackRollsRow.domain false) (Rows.stackRollsSpec.post enc Try.prog Try.f5 false true false false) := by
  refine returnsInHanded_of_change (C := Try.checked) Try.own started (by kernel_rfl) Try.func5
    (ChangeSpec.witness6 (enc := enc) (C := Try.checked) false ⟨#[], #[.slice none 0 0, .int .i64 0], []⟩ 8 (by kernel_rfl) (by kernel_rfl) (by kernel_rfl) (by kernel_rfl)) ?_
  intro W base args ds gs before hval0 hW hcnd _
  have hval : ∀ (j : Nat) t v, Try.f5.params[j]? = some t → args[j]? = some v → Value.okWide Try.prog W .any base t v := hval0
  have hW' := hW
  obtain ⟨p, q, hA0, hV, rfl, hfz, hnd⟩ := hW
  have hA : DataW.TrodAll enc Try.prog W 0 (fun _ => true) true Try.f5.params.toList args.toList ds p := hA0
  rw [Try.params5] at hA hval
  obtain ⟨v0, vs0, d0, ds0, p0, q0, hargs, rfl, rfl, h0, r0⟩ := trodAll_cons hA
  obtain ⟨v1, vs1, d1, ds1, p1, q1, rfl, rfl, rfl, h1, r1⟩ := trodAll_cons r0
  obtain ⟨rfl, rfl, rfl⟩ := trodAll_nil r1
  obtain rfl : args = #[v0, v1] := by cases args; simp_all
  obtain ⟨rfl, rfl⟩ := trodVars_none hV
  obtain ⟨A0, n0, c0, L0, rfl, rfl, k0, m0, l0, w0⟩ := open_list_int Try.underlying22 Try.underlying3 (by kernel_rfl) (hval 0 22 v0 rfl rfl) h0
  obtain ⟨a1, rfl, rfl, rfl, w1⟩ := open_int Try.underlying3 (hval 1 3 v1 rfl rfl) h1
  clear hA0 hval0
  simp only [List.append_nil] at hW'
  refine (walk (W := W) A0 c0 L0 k0 m0 l0 a1 w1).mono fun e W' ⟨he, hg⟩ => ?_
  subst he
  exact ⟨_, rfl, law_post Try.laidOut rfl Try.underlying4 (by kernel_rfl) rfl rfl rfl rfl hW' hg⟩

theorem over : Rows.stackRollsRow.holds Try.pinned (OpenSpec.ofChange Rows.stackRollsSpec) :=
  OpenClaim.holds_of_wide 5 Try.f5 rfl rfl rfl rfl rfl rfl rfl ⟨rfl, rfl, rfl, rfl, rfl⟩ rfl rfl rfl rfl rfl (by kernel_rfl) Try.func5 (by kernel_rfl)
    (of_decide_eq_true (by kernel_rfl)) (by unfold Func.isWrapper; first | (rw [if_pos (by decide +kernel)]; kernel_rfl) | (rw [if_neg (by decide +kernel)]; exact ⟨rfl, rfl⟩))
    (fun os started H enc _ => lifted os started H enc)

theorem proved : Rows.StackRollsSaid :=
  over

end Go.Proofs.Ytdnmhjlodmicoaa.stackRolls
