/- The table of metrics, put: its bytes. -/
import Derived.Test.YtdbhfigdojkceaaMet4
namespace Go.Proofs.Ytdbhfigdojkceaa
open Go Go.RowKit

theorem posM_mono (m j n : Nat) (h : j ≤ n) : posM m j ≤ posM m n := by unfold posM; omega

set_option maxRecDepth 100000 in
set_option maxHeartbeats 1000000 in
theorem mput_ok (k : Nat) (B : Nat) (A : Option Addr) (c : Nat) (L : List (Int × Int)) (w : World) (hB : B ≤ w.heap.size) (hL : Lists w B A (metCells L)) (hcap : L.length ≤ c) (hc : cmB L.length ((k : Int) + 1) = true) (hm : L.all okMet = true) (ha : ((L.drop (k + 1)).all fun q => q.1 == lastAdv L (k + 1)) = true) :
    Calls Try.prog 9 #[.slice A L.length c, .int .i64 ((k : Int) + 1)] w (Gave w (putM L (k + 1))) := by
  have C := fun w => counts_any L.length ((k : Int) + 1) true hc w
  have hc' := cmB_true hc
  obtain ⟨⟨x, y⟩, hx⟩ : ∃ x, L[k]? = some x := ⟨L[k]'(by omega), List.getElem?_eq_getElem _⟩
  obtain ⟨hx', hy'⟩ := metCells_at L k x y hx
  obtain ⟨b, o, hA, hbl, hcl⟩ := hL.plain (by intro e; rw [e] at hx'; simp at hx')
  subst hA
  have g0 := hcl (k * 2) _ hx'
  have hk : k < L.length := by omega
  have D := fun W (hb : Below w.heap.size w W) => hasMet_any 28 #[] (fun q => !okMet q) false B _ c L (by rw [← List.not_all_eq_any_not, hm]; rfl) W (Nat.le_trans hB hb.size) (hL.below (hb.mono hB)) (by omega) (enters_of Try.func28 (by kernel_rfl) rfl) (fun W a b _ => tooLarge_any a b W)
  have hsh : lastAdv L (k + 1) = x := by unfold lastAdv; rw [List.getD_eq_getElem?_getD, Nat.add_sub_cancel, hx]; rfl
  rw [hsh] at ha
  have D2 := fun W (hb : Below w.heap.size w W) p (hp : W.cell? ⟨p, 0, none⟩ = some (.int .i64 x)) (hlt : p < W.heap.size) => mput_rest x k B b o L false (by rw [← List.not_all_eq_any_not, ha]; rfl) p W hp hlt (Nat.le_trans hB hb.size) (hL.below (hb.mono hB)) (by omega)
  have HC := Lib.hid hcl
  clear hL
  clear hm hc hcl hx hx' hy' ha hsh
  obtain ⟨n, hnn⟩ : ∃ n, n = L.length := ⟨_, rfl⟩
  rw [← hnn] at hcap hk hc' C D D2 ⊢
  have C3 := fun w => metricsLen_any n (k + 1) (by omega) (by omega) w
  have hRb : posM (k + 1) n ≤ 262140 := by unfold posM; omega
  obtain ⟨R, hRR⟩ : ∃ R, R = posM (k + 1) n := ⟨_, rfl⟩
  rw [← hRR] at C3 hRb
  rw [Int.natCast_succ] at C3
  have HR := Lib.hid hRR.symm
  have HN := Lib.hid hnn
  clear hRR hnn
  have d1 : (0 : Int) ≤ (k : Int) := by omega
  have d2 : (k : Int) < (n : Int) := by omega
  have d3 : (0 : Int) ≤ (k : Int) + 1 := by omega
  have d4 : (k : Int) + 1 ≤ (n : Int) := by omega
  have d5 : (n : Int) ≤ (c : Int) := by omega
  by_cases hck : c = k + 1
  · subst hck
    go_enter Try.func9, Try.ntmps9
    go_wp2_with (first | (go_at_call 25; ((with_reducible refine (C _).mono ?_); rintro e w1 ⟨rfl, b1⟩; have g1 := (b1.cell (p := ⟨b, o + k * 2, none⟩) (Nat.lt_of_lt_of_le hbl hB)).trans g0)) | (go_at_call 27; ((with_reducible refine (D _ (b1.alloc b1.size _)).mono ?_); rintro e w2 ⟨rfl, b2⟩; have BW : Below w.heap.size w w2 := (b1.alloc b1.size _).trans (b2.mono (by have := b1.size; simp <;> omega)))) | (go_at_call 27; ((refine (D2 _ BW w1.heap.size ((b2.cell (p := ⟨w1.heap.size, 0, none⟩) (by simp)).trans (by simp)) (by have := b2.size; simp at this; omega) _ _ _ (by omega) (by first | exact .inr (by omega) | exact .inl rfl)).mono ?_); rintro e w3 ⟨rfl, b3⟩)) | (go_at_call 30; ((with_reducible refine (C3 _).mono ?_); rintro e w' ⟨rfl, rfl⟩)) | (go_at_call 29; ((with_reducible refine (wsTo w _ R (BW.trans (b3.mono BW.size))).mono ?_); rintro e w4 ⟨pw, rfl, hws, b4⟩)))
    clear C D D2 C3 g1 b1 b2 BW b3 b4
    go_loopw [39] (fun i wr => ∃ j : Nat, j ≤ n ∧ i = .int .i64 j ∧ WS w wr pw R (putM (L.take j) (k + 1))) (fun i _ => n - (intOf i).toNat)
    case atStart => exact ⟨0, Nat.zero_le _, rfl, hws⟩
    case round =>
      obtain ⟨j, hj, rfl, hw⟩ := hrel
      clear hws
      by_cases hlt : j < n
      · have e1 : decide ((j : Int) < (n : Int)) = true := by simp; omega
        obtain ⟨⟨x1, y1⟩, hx1⟩ : ∃ x, L[j]? = some x := ⟨L[j]'(by rw [← HN.out]; exact hlt), List.getElem?_eq_getElem _⟩
        obtain ⟨hp1, hp2⟩ := metCells_at L j x1 y1 hx1
        have f0 := (hw.old.cell (p := ⟨b, o + j * 2, none⟩) (Nat.lt_of_lt_of_le hbl hB)).trans (HC.out (j * 2) _ hp1)
        have f1 := (hw.old.cell (p := ⟨b, o + (j * 2 + 1), none⟩) (Nat.lt_of_lt_of_le hbl hB)).trans (HC.out (j * 2 + 1) _ hp2)
        rw [← Nat.add_assoc] at f1
        have hlen : (putM (L.take j) (k + 1)).length = posM (k + 1) j := by rw [putM_len, List.length_take]; congr 1; have := HN.out; omega
        have hs := posM_succ (k + 1) j
        have hmono := posM_mono (k + 1) (j + 1) n hlt
        unfold bearPos at hs
        rw [HR.out] at hmono
        have hsnoc := putM_snoc (L.take j) (k + 1) x1 y1
        rw [← take_snoc0 hx1, List.length_take, show min j L.length = j by have := HN.out; omega] at hsnoc
        have HS := Lib.hid hsnoc
        clear hsnoc hp1 hp2 hx1
        by_cases hjm : j < k + 1
        · rw [if_pos hjm] at hs
          have e2 : decide ((j : Int) < (k : Int) + 1) = true := by simp; omega
          go_wp2_with (first | (go_at_call 31; ((with_reducible refine (wsU16 w _ pw R _ x1 (hw.alloc _) (by omega) (by omega)).mono ?_); rintro e w5 ⟨rfl, h5, safe, hz5⟩; have f2 := (safe wr.heap.size 51 _ (by decide) (by decide) (by decide) (Blk.new wr _ _)).cell 1)) | (go_at_call 32; ((with_reducible refine (wsI16 w _ pw R _ y1 h5 (by simp [be2]; omega) (by omega)).mono ?_); rintro e w6 ⟨rfl, h6, safe6, hz6⟩)))
          go_roundw
          case rel => exact ⟨j + 1, by omega, by go_num, by rw [HS.out, if_pos hjm, ← List.append_assoc]; exact h6⟩
          case measure => simp [intOf]; omega
        · exfalso; omega
      · have e1 : decide ((j : Int) < (n : Int)) = false := by simp; omega
        rw [List.take_of_length_le (by have := HN.out; omega)] at hw
        go_wp2_with (first | (go_at_call 33; ((with_reducible refine (wsDone w _ pw R _ hw (by omega)).mono ?_); rintro e w7 ⟨A7, c7, rfl, h7, b7⟩)))
        go_ret2
        exact ⟨A7, c7, rfl, h7, b7⟩
  · go_enter Try.func9, Try.ntmps9
    go_wp2_with (first | (go_at_call 25; ((with_reducible refine (C _).mono ?_); rintro e w1 ⟨rfl, b1⟩; have g1 := (b1.cell (p := ⟨b, o + k * 2, none⟩) (Nat.lt_of_lt_of_le hbl hB)).trans g0)) | (go_at_call 27; ((with_reducible refine (D _ (b1.alloc b1.size _)).mono ?_); rintro e w2 ⟨rfl, b2⟩; have BW : Below w.heap.size w w2 := (b1.alloc b1.size _).trans (b2.mono (by have := b1.size; simp <;> omega)))) | (go_at_call 27; ((refine (D2 _ BW w1.heap.size ((b2.cell (p := ⟨w1.heap.size, 0, none⟩) (by simp)).trans (by simp)) (by have := b2.size; simp at this; omega) _ _ _ (by omega) (by first | exact .inr (by omega) | exact .inl rfl)).mono ?_); rintro e w3 ⟨rfl, b3⟩)) | (go_at_call 30; ((with_reducible refine (C3 _).mono ?_); rintro e w' ⟨rfl, rfl⟩)) | (go_at_call 29; ((with_reducible refine (wsTo w _ R (BW.trans (b3.mono BW.size))).mono ?_); rintro e w4 ⟨pw, rfl, hws, b4⟩)))
    clear C D D2 C3 g1 b1 b2 BW b3 b4
    go_loopw [39] (fun i wr => ∃ j : Nat, j ≤ n ∧ i = .int .i64 j ∧ WS w wr pw R (putM (L.take j) (k + 1))) (fun i _ => n - (intOf i).toNat)
    case atStart => exact ⟨0, Nat.zero_le _, rfl, hws⟩
    case round =>
      obtain ⟨j, hj, rfl, hw⟩ := hrel
      clear hws
      by_cases hlt : j < n
      · have e1 : decide ((j : Int) < (n : Int)) = true := by simp; omega
        obtain ⟨⟨x1, y1⟩, hx1⟩ : ∃ x, L[j]? = some x := ⟨L[j]'(by rw [← HN.out]; exact hlt), List.getElem?_eq_getElem _⟩
        obtain ⟨hp1, hp2⟩ := metCells_at L j x1 y1 hx1
        have f0 := (hw.old.cell (p := ⟨b, o + j * 2, none⟩) (Nat.lt_of_lt_of_le hbl hB)).trans (HC.out (j * 2) _ hp1)
        have f1 := (hw.old.cell (p := ⟨b, o + (j * 2 + 1), none⟩) (Nat.lt_of_lt_of_le hbl hB)).trans (HC.out (j * 2 + 1) _ hp2)
        rw [← Nat.add_assoc] at f1
        have hlen : (putM (L.take j) (k + 1)).length = posM (k + 1) j := by rw [putM_len, List.length_take]; congr 1; have := HN.out; omega
        have hs := posM_succ (k + 1) j
        have hmono := posM_mono (k + 1) (j + 1) n hlt
        unfold bearPos at hs
        rw [HR.out] at hmono
        have hsnoc := putM_snoc (L.take j) (k + 1) x1 y1
        rw [← take_snoc0 hx1, List.length_take, show min j L.length = j by have := HN.out; omega] at hsnoc
        have HS := Lib.hid hsnoc
        clear hsnoc hp1 hp2 hx1
        by_cases hjm : j < k + 1
        · rw [if_pos hjm] at hs
          have e2 : decide ((j : Int) < (k : Int) + 1) = true := by simp; omega
          go_wp2_with (first | (go_at_call 31; ((with_reducible refine (wsU16 w _ pw R _ x1 (hw.alloc _) (by omega) (by omega)).mono ?_); rintro e w5 ⟨rfl, h5, safe, hz5⟩; have f2 := (safe wr.heap.size 51 _ (by decide) (by decide) (by decide) (Blk.new wr _ _)).cell 1)) | (go_at_call 32; ((with_reducible refine (wsI16 w _ pw R _ y1 h5 (by simp [be2]; omega) (by omega)).mono ?_); rintro e w6 ⟨rfl, h6, safe6, hz6⟩)))
          go_roundw
          case rel => exact ⟨j + 1, by omega, by go_num, by rw [HS.out, if_pos hjm, ← List.append_assoc]; exact h6⟩
          case measure => simp [intOf]; omega
        · rw [if_neg hjm] at hs
          have e2 : decide ((j : Int) < (k : Int) + 1) = false := by simp; omega
          go_wp2_with (first | (go_at_call 32; ((with_reducible refine (wsI16 w _ pw R _ y1 (hw.alloc _) (by omega) (by omega)).mono ?_); rintro e w6 ⟨rfl, h6, safe6, hz6⟩)))
          go_roundw
          case rel => exact ⟨j + 1, by omega, by go_num, by rw [HS.out, if_neg hjm]; exact h6⟩
          case measure => simp [intOf]; omega
      · have e1 : decide ((j : Int) < (n : Int)) = false := by simp; omega
        rw [List.take_of_length_le (by have := HN.out; omega)] at hw
        go_wp2_with (first | (go_at_call 33; ((with_reducible refine (wsDone w _ pw R _ hw (by omega)).mono ?_); rintro e w7 ⟨A7, c7, rfl, h7, b7⟩)))
        go_ret2
        exact ⟨A7, c7, rfl, h7, b7⟩

end Go.Proofs.Ytdbhfigdojkceaa
