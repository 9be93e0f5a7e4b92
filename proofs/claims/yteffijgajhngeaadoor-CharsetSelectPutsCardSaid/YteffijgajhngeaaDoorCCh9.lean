/- Part 10 of the proof: ChR, ChR0, ChR1, ChR2, ChRb, ChS, ChLaid. -/
import Derived.ProofKit
import Derived.LaidMore
import Derived.OpenShut
import Derived.Stop.Joined
import Derived.Test.YteffijgajhngeaaDoorCCh8

namespace Go.Proofs.YteffijgajhngeaaDoor
open Go Go.RowKit
set_option linter.unusedVariables false
set_option linter.unusedSimpArgs false

set_option maxRecDepth 100000 in
theorem rfind_any (n B : Nat) (A : Option Addr) (c : Nat) (L : List Int) (x : Int) (w : World) (hL : Lists w B A (intCells L)) (hnn : L.length = n) (hn : n ≤ 1099511627776) :
    Calls Tryd.prog 11 #[.slice A n c, .int .i64 x] w fun e w' => e = .returned (.int .i64 (idxI L x)) ∧ w' = w := by
  have HL := Lib.hid hL
  have HN := Lib.hid hnn
  clear hL hnn
  go_enter Tryd.func11, Tryd.ntmps11
  go_wp2
  go_loopw [5] (fun i wr => ∃ k : Nat, k ≤ n ∧ i = .int .i64 k ∧ Hid (k ≤ idxG L x) ∧ wr = w) (fun i _ => n - (intOf i).toNat)
  case atStart => exact ⟨0, Nat.zero_le _, rfl, Lib.hid (Nat.zero_le _), rfl⟩
  case round =>
    obtain ⟨k, hk, rfl, hg, rfl⟩ := hrel
    by_cases hlt : k < n
    · have d1 : decide ((k : Int) < (n : Int)) = true := by simp; omega
      obtain ⟨y, hy⟩ : ∃ y, L[k]? = some y := ⟨L[k]'(by rw [HN.out]; exact hlt), List.getElem?_eq_getElem _⟩
      obtain ⟨b, o, rfl, hb, hc⟩ := HL.out.plain (by intro e; have h2 := congrArg List.length e; rw [intCells_len, HN.out] at h2; simp at h2; omega)
      have g0 := hc k (.int .i64 y) (by unfold intCells; rw [List.getElem?_map, hy]; rfl)
      clear hc
      by_cases hyx : y = x
      · subst hyx
        have hq := idxG_at hy hg.out
        have HQ := Lib.hid (show idxI L y = (k : Int) by unfold idxI; rw [← hq, if_pos (by rw [HN.out]; exact hlt)])
        clear hq hy
        go_wp2
        go_ret
        exact ⟨ret_int HQ.out.symm, rfl⟩
      · have hs := Lib.hid (idxG_step hy hg.out hyx)
        have d2 : (y == x) = false := by simpa using hyx
        clear hy
        go_wp2
        go_roundw
        case rel => exact ⟨k + 1, by omega, by go_num, hs, by first | rfl | trivial⟩
        case measure => simp [intOf]; omega
    · obtain rfl : k = n := by omega
      have d1 : decide ((k : Int) < (k : Int)) = false := by simp
      have HQ := Lib.hid (show idxI L x = -1 by unfold idxI; rw [if_neg]; have := hg.out; rw [HN.out]; omega)
      go_wp2
      go_ret
      exact ⟨ret_int HQ.out.symm, rfl⟩
set_option maxRecDepth 100000 in
set_option maxHeartbeats 2000000 in
theorem sameInts_eq (n B : Nat) (A A2 : Option Addr) (c c2 : Nat) (L : List Int) (w : World) (hB : B ≤ w.heap.size) (hL : Lists w B A (intCells L)) (hL2 : Lists w B A2 (intCells L)) (hnn : L.length = n) (hn : n ≤ 1099511627776) :
    Calls Tryd.prog 12 #[.slice A n c, .slice A2 n c2] w fun e w' => e = .returned (.bool true) ∧ Below w.heap.size w w' := by
  have HL := Lib.hid hL
  have HL2 := Lib.hid hL2
  have HN := Lib.hid hnn
  clear hL hL2 hnn
  go_enter Tryd.func12, Tryd.ntmps12
  go_wp2
  go_loopw [5] (fun i wr => ∃ k : Nat, k ≤ n ∧ i = .int .i64 k ∧ Below w.heap.size w wr) (fun i _ => n - (intOf i).toNat)
  case atStart => exact ⟨0, Nat.zero_le _, rfl, Below.refl _ _⟩
  case round =>
    obtain ⟨k, hk, rfl, hbe⟩ := hrel
    by_cases hlt : k < n
    · have d1 : decide ((k : Int) < (n : Int)) = true := by simp; omega
      obtain ⟨y, hy⟩ : ∃ y, L[k]? = some y := ⟨L[k]'(by rw [HN.out]; exact hlt), List.getElem?_eq_getElem _⟩
      have hne : intCells L ≠ [] := by intro e; have h2 := congrArg List.length e; rw [intCells_len, HN.out] at h2; simp at h2; omega
      obtain ⟨b, o, rfl, hb, hc⟩ := HL.out.plain hne
      obtain ⟨b2, o2, rfl, hb2, hc2⟩ := HL2.out.plain hne
      have hy2 : (intCells L)[k]? = some (.int .i64 y) := by unfold intCells; rw [List.getElem?_map, hy]; rfl
      have HC := Lib.hid (show ∀ V, Below w.heap.size w V → V.cell? ⟨b, o + k, none⟩ = some (.int .i64 y) ∧ V.cell? ⟨b2, o2 + k, none⟩ = some (.int .i64 y) from fun V hV => ⟨(hV.cell (p := ⟨b, o + k, none⟩) (Nat.lt_of_lt_of_le hb hB)).trans (hc k _ hy2), (hV.cell (p := ⟨b2, o2 + k, none⟩) (Nat.lt_of_lt_of_le hb2 hB)).trans (hc2 k _ hy2)⟩)
      have n3 : (k : Int) < (n : Int) := by omega
      have hI : Below w.heap.size w wr.drew := hbe.drew
      clear hc hc2 hy hy2 hne
      go_wp2
      refine wp_region_chain (fun V => Below w.heap.size w V) [(0, false), (1, false), (2, false), (3, false), (4, false), (5, false), (6, false), (7, false), (8, false)] (by kernel_rfl) (by kernel_rfl) (hI) ?_
      repeat (first
        | (refine ChainL.skip (o := ?_) ?_ ?_ ?_; rotate_left; (focus (first | (simp only [List.getElem?_toArray, List.getElem?_cons_succ, List.getElem?_cons_zero]; with_reducible rfl) | (simp only [List.getElem?_toArray, List.getElem?_cons_zero]; with_reducible rfl))); (focus rfl); simp only [Act.put, List.setIfInBounds_toArray, List.set_cons_zero, List.set_cons_succ])
        | (refine ChainL.val (o := ?_) (v := ?_) ?_ ?_ ?_ ?_ ?_; rotate_left 2; (focus (first | (simp only [List.getElem?_toArray, List.getElem?_cons_succ, List.getElem?_cons_zero]; with_reducible rfl) | (simp only [List.getElem?_toArray, List.getElem?_cons_zero]; with_reducible rfl))); (focus (intro _ _ h; cases h)); (focus rfl); (focus (intro w' hI; obtain ⟨y1, y2⟩ := HC.out _ hI; go_simp <;> with_reducible rfl)); simp only [Act.put, List.setIfInBounds_toArray, List.set_cons_zero, List.set_cons_succ]))
      refine ChainL.nil ?_
      go_wp2
      go_roundw
      case rel => exact ⟨k + 1, by omega, by go_num, hI⟩
      case measure => simp [intOf]; omega
    · obtain rfl : k = n := by omega
      have d1 : decide ((k : Int) < (k : Int)) = false := by simp
      go_wp2
      go_ret
      exact ⟨rfl, hbe⟩
theorem goC_mono (E : List Value) (f n : Nat) : ∀ m k (L L' : List Int) (k' : Nat), goC E f n m k L = some (L', k') → k ≤ k'
  | 0, k, L, L', k', h => by injection h with h; injection h with h1 h2; omega
  | m + 1, k, L, L', k', h => by
    unfold goC at h
    split at h
    · injection h with h; injection h with h1 h2; omega
    · split at h
      · cases h
      · have := goC_mono E f n m _ _ L' k' h
        omega
theorem fin_far {E : List Value} {f n m k : Nat} {L : List Int} (h : E.length < k) : finC E (goC E f n m k L) = none := by
  generalize hg : goC E f n m k L = r
  match r, hg with
  | none, _ => rfl
  | some (L', k'), hg =>
    have := goC_mono E f n m k L L' k' hg
    unfold finC
    simp only
    rw [if_neg (by omega)]
def RfC (w : World) (r : Option (List Int)) (e : Ending) (w' : World) : Prop := match r with
  | some L => ∃ A c, e = .returned (.tuple #[.slice A L.length c, .bool true]) ∧ Hid (Lists w' w'.heap.size A (intCells L)) ∧ Below w.heap.size w w'
  | none => e = .returned (.tuple #[.slice none 0 0, .bool false]) ∧ Below w.heap.size w w'
theorem intCells_snoc1 (L : List Int) (a : Nat) : intCells (L ++ runC a (0 + 1)) = intCells L ++ [.int .i64 (a : Int)] := by simp [intCells, runC]
theorem rsn_inC {bs : List Value} {m k v : Nat} (h : k + m ≤ bs.length) : rsn bs m k v = v := by unfold rsn; rw [if_pos h]
end Go.Proofs.YteffijgajhngeaaDoor

namespace Go.Proofs.YteffijgajhngeaaDoor
open Go Go.RowKit
set_option linter.unusedVariables false
set_option linter.unusedSimpArgs false
set_option maxRecDepth 100000 in
set_option maxHeartbeats 4000000 in
theorem rld_0 (A : Option Addr) (c n N : Nat) (E : List Value) (w : World) (hE : Lists w w.heap.size A E) (h8 : Bytes8 E) (hc : n ≤ c) (hc2 : c ≤ 9223372036854775807) (hm : n ≤ 140737488355328) (hL : E.length = n) (hN1 : 1 ≤ N) (hN2 : N ≤ 5000) (hx : rsn E 1 0 (rdn E 1 0) = 0) (h1 : 1 ≤ n) (R : Option (List Int)) (hR : finC E (goC E 0 N N 1 [0]) = R) :
    Calls Tryd.prog 9 #[.slice A n c, .int .i64 (N : Nat)] w (RfC w R) := by
  have al : Below w.heap.size w (w.alloc (.cells #[.slice A n c, .int .i64 0, .bool false] 54)) := (Below.refl _ _).alloc (Nat.le_refl _) _
  have r0 : RR (w.alloc (.cells #[.slice A n c, .int .i64 0, .bool false] 54)) w.heap.size w.heap.size E 0 := .inl ⟨Nat.zero_le _, A, c, by rw [hL]; exact Blk.new _ _ _, hE.below al, h8, Nat.zero_le _, by omega, hc2, by omega, Nat.le_refl _⟩
  have CI : ∀ W, RR W w.heap.size w.heap.size E 0 → Calls Tryd.prog 29 #[.pointer (some ⟨w.heap.size, 0, none⟩), .int .i64 1] W (RReadS W w.heap.size w.heap.size E (0 + 1) (0 : Nat)) := fun W r => by have k := rr_un _ _ E (0) 1 W r (by decide) (by decide); rw [hx] at k; exact k
  have hno : R = none → ∀ W, Below w.heap.size w W → RfC w R (.returned (.tuple #[.slice none 0 0, .bool false])) W := fun h W hb => by rw [h]; exact ⟨rfl, hb⟩
  have hyes : ∀ L, R = some L → ∀ A c W, Lists W W.heap.size A (intCells L) → Below w.heap.size w W → RfC w R (.returned (.tuple #[.slice A L.length c, .bool true])) W := fun L h A c W hl hb => by rw [h]; exact ⟨A, c, rfl, Lib.hid hl, hb⟩
  have HNO := Lib.hid hno
  have HY := Lib.hid hyes
  have HL := Lib.hid hL
  have HF := Lib.hid (show decide (n < 1) = false by simp; omega)
  have HR := Lib.hid hR
  have H8 := Lib.hid h8
  clear hE hL hx h8 hR hno hyes
  obtain ⟨i0, hi, hz0, hz1, hz2⟩ := info_parts intInfoC
  go_enter Tryd.func9, Tryd.ntmps9
  go_wp2_with (first | (go_at_call 29; ((with_reducible refine (CI _ r0).mono ?_); rintro e w1 ⟨rfl, r1, o1⟩; have B1 := al.trans (o1.to_below al.size (by simp)); have s1 := o1.size; simp only [World.size_alloc] at s1; have fl := r1.flag; rw [HL.out, HF.out] at fl)))
  have own0 := own_base (ownC_one w1 0 w1.heap.size rfl) (show w.heap.size + 1 ≤ w1.heap.size by omega)
  have r40 := r1.below ((Below.refl _ _).alloc (Nat.le_refl _) (.cells #[.int .i64 0] 3))
  have B40 := B1.alloc B1.size (.cells #[.int .i64 0] 3)
  have hs40 : w.heap.size + 1 ≤ (w1.alloc (.cells #[.int .i64 0] 3)).heap.size := by rw [World.size_alloc]; omega
  generalize w1.alloc (.cells #[.int .i64 0] 3) = w40 at *
  have HO0 := Lib.hid own0
  have HR0 := Lib.hid r40
  have HB0 := Lib.hid B40
  clear r0 r1 o1 al B1 CI own0 r40 B40 fl
  go_loopw [8] (fun nv wr => ∃ (mm k : Nat) (L : List Int), Hid (finC E (goC E 0 N mm k L) = R) ∧ k ≤ n ∧ N ≤ L.length + mm ∧ 1 ≤ L.length ∧ L.length ≤ N ∧ wr.ownsRow (w.heap.size + 1) 3 1 nv L.length (intCells L) ∧ RR wr w.heap.size w.heap.size E k ∧ Below w.heap.size w wr ∧ w.heap.size + 1 ≤ wr.heap.size) (fun nv _ => N - sLenC nv)
  case atStart => exact ⟨N, 1, [0], HR, h1, by simp, by simp, hN1, HO0.out, HR0.out, HB0.out, hs40⟩
  case round =>
    obtain ⟨mm, k, L, hgo, hkn, hfu, hl1, hln, hown, hr, hbe, hsB⟩ := hrel
    obtain ⟨ll, hll⟩ : ∃ ll, L.length = ll := ⟨_, rfl⟩
    rw [hll] at hown hfu hl1 hln
    have HLL := Lib.hid hll
    have HBE := Lib.hid hbe
    obtain ⟨A9, c9, rfl, hl9, hc9⟩ := own_lists hown
    have HL9 := Lib.hid hl9
    clear hll hbe hl9
    by_cases hlt : ll < N
    · have d1 : (ll : Int) < (N : Int) := by omega
      obtain ⟨mm1, rfl⟩ : ∃ x, mm = x + 1 := ⟨mm - 1, by omega⟩
      obtain ⟨a, ha⟩ : ∃ a, firstC E k = a := ⟨_, rfl⟩
      obtain ⟨bb, hb⟩ : ∃ bb, moreC E 0 k = bb := ⟨_, rfl⟩
      have HAA := Lib.hid ha
      have HBB := Lib.hid hb
      have hab : a < 65536 := by rw [← ha]; exact firstC_lt H8.out k
      have hbb : bb < 65536 := by rw [← hb]; exact moreC_lt H8.out 0 k (by decide)
      have CA : ∀ W, RR W w.heap.size w.heap.size E k → Calls Tryd.prog 29 #[.pointer (some ⟨w.heap.size, 0, none⟩), .int .i64 2] W (RReadS W w.heap.size w.heap.size E (k + 2) (a : Nat)) := fun W r => by
        have h := rr_un _ _ E k 2 W r (by decide) (by decide)
        rw [rdn_two, show rsn E 2 k (rd2 E k) = a from HAA.out] at h
        exact h
      skip
      have hbad := goC_bad (E := E) (f := 0) (n := N) (m := mm1) (k := k) (L := L) (by rw [HLL.out]; exact hlt)
      have hmore := goC_more (E := E) (f := 0) (n := N) (m := mm1) (k := k) (L := L) (by rw [HLL.out]; exact hlt)
      rw [ha, hb, HLL.out] at hbad hmore
      have hg := hgo.out
      have e5 : IntKind.i64.wrap ((a : Int) + (bb : Int)) = (a : Int) + (bb : Int) := IntWalk.i64_in _ (by omega)
      clear ha hb
      by_cases hbd : N - ll ≤ bb ∨ 65535 < a + bb
      · exfalso
        have hb0 : bb = 0 := by rw [← HBB.out]; unfold moreC rsn; split <;> rfl
        omega
      · cases hfl : decide (n < k + 2 + 0)
        · have HFL := Lib.hid hfl
          have hkn2 : k + 2 + 0 ≤ n := by have := of_decide_eq_false hfl; omega
          have HMO := Lib.hid (show finC E (goC E 0 N mm1 (k + 2 + 0) (L ++ runC a (bb + 1))) = R by rw [← hmore hbd]; exact hg)
          have t1 : ¬ (a : Int) + (bb : Int) > 65535 := by omega
          have t2 : ¬ (N : Int) - (ll : Int) ≤ (bb : Int) := by omega
          have hle : ll + bb + 1 ≤ N := by omega
          have hab2 : a + bb ≤ 65535 := by omega
          clear hbad hmore hg hbd hfl
          have hb0 : bb = 0 := by rw [← HBB.out]; unfold moreC rsn; split <;> rfl
          subst hb0
          have t1b : ¬ (a : Int) > 65535 := by omega
          have t2b : ¬ (N : Int) - (ll : Int) ≤ 0 := by omega
          go_wp2_with (first | (go_at_call 29; ((with_reducible refine (CA _ hr).mono ?_); rintro e w3 ⟨rfl, r3, o3⟩; have r4 : RR w3 w.heap.size w.heap.size E (k + 2 + 0) := r3; have o34 := o3; have BB := HBE.out.trans (o34.to_below HBE.out.size (by simp)); have fl := r4.flag; rw [HL.out, HFL.out] at fl)))
          have ow5 := own_only hown o34 (fun b hb e => by have := ownC_low hown b hb; simp at e; omega)
          have HO5 := Lib.hid ow5
          have HR5 := Lib.hid r4
          have HB5 := Lib.hid BB
          have hs5 := o34.size
          clear hown ow5 r4 BB hr r3 o3 o34 CA fl
          go_loopw [8, 11] (fun nv iv w6 => ∃ i : Nat, i ≤ 0 + 1 ∧ iv = .int .i64 (i : Nat) ∧ w6.ownsRow (w.heap.size + 1) 3 1 nv (ll + i) (intCells (L ++ runC a i)) ∧ RR w6 w.heap.size w.heap.size E (k + 2 + 0) ∧ Below w.heap.size w w6 ∧ w.heap.size + 1 ≤ w6.heap.size) (fun _ iv _ => 0 + 1 - (intOf iv).toNat)
          case atStart => exact ⟨0, by omega, rfl, by simpa [runC] using HO5.out, HR5.out, HB5.out, by omega⟩
          case round =>
            obtain ⟨i, hib, rfl, hown5, hr6, hb6, hs6⟩ := hrel
            by_cases hi2 : i ≤ 0
            · have l1 : (i : Int) ≤ (0 : Int) := by omega
              have e6 : IntKind.i64.wrap ((a : Int) + (i : Int)) = (a : Int) + (i : Int) := IntWalk.i64_in _ (by omega)
              have HSN := Lib.hid (show intCells (L ++ runC a (i + 1)) = intCells (L ++ runC a i) ++ [.int .i64 ((a : Int) + (i : Int))] by rw [runC_snoc, ← List.append_assoc, intCells_snocC]; simp)
              have hlow6 := ownC_low hown5
              obtain rfl : i = 0 := by omega
              have hown6 : wr.ownsRow (w.heap.size + 1) 3 1 u8 ll (intCells L) := by simpa [runC] using hown5
              have HS2 := Lib.hid (show intCells (L ++ runC a (0 + 1)) = intCells L ++ [.int .i64 (a : Int)] by rw [intCells_snoc1])
              clear hown5 HSN e6
              go_wp2_with (first | (at_builtin; refine wpList_append_src _ rfl (.tmp 60) (.tmp 64) 24 rfl (w.heap.size + 1) 3 i0 (.int .i64 0) 1 8 Tryd.underlying24 hi hz0 hz1 hz2 rfl (by decide) u8 ll (intCells L) rfl (own_only hown6 ((Only.refl wr []).alloc (.cells #[.int .i64 (a : Int)] 3)) (fun _ _ h => (nomatch h))) (wr.heap.size + 1) (some ⟨wr.heap.size, 0, none⟩) 1 1 [.int .i64 (a : Int)] (by rfl) (lists_row wr [.int .i64 (a : Int)] 3) rfl (by simp [Value.oneCell']) (by simp only [maxLen]; omega) (by omega) (by simp; omega) ?_; intro v7 w7 own7 hg7 hat7; have o67 : Only wr w7 (blk u8) := ((Only.refl wr (blk u8)).alloc _).grown hg7 (fun b hb => .inl (by have hb' : u8.ownBlock = some b := hb; simp [blk, hb']))))
              go_roundw
              case rel => exact ⟨0 + 1, by omega, by first | rfl | go_num, by rw [HS2.out]; exact own7, hr6.other o67 (fun hm => by have := hlow6 _ hm; omega) (fun b hb => by have := hlow6 b hb; omega), hb6.trans (o67.to_below hb6.size (fun b hb => by have := hlow6 b hb; omega)), Nat.le_trans hs6 o67.size⟩
              case measure => first | (simp [intOf]; done) | (simp [intOf]; omega)
            · obtain rfl : i = 0 + 1 := by omega
              have l1 : ¬ ((0 + 1 : Nat) : Int) ≤ (0 : Int) := by omega
              have l2 : ¬ (0 : Int) + 1 ≤ (0 : Int) := by omega
              obtain ⟨A7, c7, rfl, hl7, hc7⟩ := own_lists hown5
              clear hl7 hc7
              go_wp2
              go_roundw
              case rel => exact ⟨mm1, k + 2 + 0, L ++ runC a (0 + 1), HMO, by omega, by rw [List.length_append, runC_len, HLL.out]; omega, by rw [List.length_append, runC_len, HLL.out]; omega, by rw [List.length_append, runC_len, HLL.out]; omega, by rw [List.length_append, runC_len, HLL.out]; exact hown5, hr6, hb6, hs6⟩
              case measure => simp [sLenC]; omega
        · have HFL := Lib.hid hfl
          have HBad := Lib.hid (show R = none by rw [← hg, hmore hbd]; exact fin_far (by rw [HL.out]; have := of_decide_eq_true hfl; omega))
          clear hbad hmore hg hbd hfl
          have hb0 : bb = 0 := by rw [← HBB.out]; unfold moreC rsn; split <;> rfl
          subst hb0
          go_wp2_with (first | (go_at_call 29; ((with_reducible refine (CA _ hr).mono ?_); rintro e w3 ⟨rfl, r3, o3⟩; have r4 : RR w3 w.heap.size w.heap.size E (k + 2 + 0) := r3; have o34 := o3; have BB := HBE.out.trans (o34.to_below HBE.out.size (by simp)); have fl := r4.flag; rw [HL.out, HFL.out] at fl)))
          exact bodyPost_ret (v := .tuple #[.slice none 0 0, .bool false]) (by simp [results, Tryd.results9, go_sem]) rfl (HNO.out HBad.out _ BB)
    · have d1 : ¬ (ll : Int) < (N : Int) := by omega
      obtain rfl : ll = N := by omega
      have HR2 := Lib.hid (show R = some L by rw [← hgo.out, goC_end (by rw [HLL.out]; exact Nat.le_refl _)]; unfold finC; simp only; rw [if_pos (by rw [HL.out]; exact hkn)])
      have HF2 := Lib.hid (HY.out L HR2.out A9 c9 wr HL9.out HBE.out)
      rw [HLL.out] at HF2
      go_wp2
      exact bodyPost_ret (v := .tuple #[.slice A9 ll c9, .bool true]) (by simp [results, Tryd.results9, go_sem]) rfl HF2.out
end Go.Proofs.YteffijgajhngeaaDoor

namespace Go.Proofs.YteffijgajhngeaaDoor
open Go Go.RowKit
set_option linter.unusedVariables false
set_option linter.unusedSimpArgs false
set_option maxRecDepth 100000 in
set_option maxHeartbeats 4000000 in
theorem rld_1 (A : Option Addr) (c n N : Nat) (E : List Value) (w : World) (hE : Lists w w.heap.size A E) (h8 : Bytes8 E) (hc : n ≤ c) (hc2 : c ≤ 9223372036854775807) (hm : n ≤ 140737488355328) (hL : E.length = n) (hN1 : 1 ≤ N) (hN2 : N ≤ 5000) (hx : rsn E 1 0 (rdn E 1 0) = 1) (h1 : 1 ≤ n) (R : Option (List Int)) (hR : finC E (goC E 1 N N 1 [0]) = R) :
    Calls Tryd.prog 9 #[.slice A n c, .int .i64 (N : Nat)] w (RfC w R) := by
  have al : Below w.heap.size w (w.alloc (.cells #[.slice A n c, .int .i64 0, .bool false] 54)) := (Below.refl _ _).alloc (Nat.le_refl _) _
  have r0 : RR (w.alloc (.cells #[.slice A n c, .int .i64 0, .bool false] 54)) w.heap.size w.heap.size E 0 := .inl ⟨Nat.zero_le _, A, c, by rw [hL]; exact Blk.new _ _ _, hE.below al, h8, Nat.zero_le _, by omega, hc2, by omega, Nat.le_refl _⟩
  have CI : ∀ W, RR W w.heap.size w.heap.size E 0 → Calls Tryd.prog 29 #[.pointer (some ⟨w.heap.size, 0, none⟩), .int .i64 1] W (RReadS W w.heap.size w.heap.size E (0 + 1) (1 : Nat)) := fun W r => by have k := rr_un _ _ E (0) 1 W r (by decide) (by decide); rw [hx] at k; exact k
  have hno : R = none → ∀ W, Below w.heap.size w W → RfC w R (.returned (.tuple #[.slice none 0 0, .bool false])) W := fun h W hb => by rw [h]; exact ⟨rfl, hb⟩
  have hyes : ∀ L, R = some L → ∀ A c W, Lists W W.heap.size A (intCells L) → Below w.heap.size w W → RfC w R (.returned (.tuple #[.slice A L.length c, .bool true])) W := fun L h A c W hl hb => by rw [h]; exact ⟨A, c, rfl, Lib.hid hl, hb⟩
  have HNO := Lib.hid hno
  have HY := Lib.hid hyes
  have HL := Lib.hid hL
  have HF := Lib.hid (show decide (n < 1) = false by simp; omega)
  have HR := Lib.hid hR
  have H8 := Lib.hid h8
  clear hE hL hx h8 hR hno hyes
  obtain ⟨i0, hi, hz0, hz1, hz2⟩ := info_parts intInfoC
  go_enter Tryd.func9, Tryd.ntmps9
  go_wp2_with (first | (go_at_call 29; ((with_reducible refine (CI _ r0).mono ?_); rintro e w1 ⟨rfl, r1, o1⟩; have B1 := al.trans (o1.to_below al.size (by simp)); have s1 := o1.size; simp only [World.size_alloc] at s1; have fl := r1.flag; rw [HL.out, HF.out] at fl)))
  have own0 := own_base (ownC_one w1 0 w1.heap.size rfl) (show w.heap.size + 1 ≤ w1.heap.size by omega)
  have r40 := r1.below ((Below.refl _ _).alloc (Nat.le_refl _) (.cells #[.int .i64 0] 3))
  have B40 := B1.alloc B1.size (.cells #[.int .i64 0] 3)
  have hs40 : w.heap.size + 1 ≤ (w1.alloc (.cells #[.int .i64 0] 3)).heap.size := by rw [World.size_alloc]; omega
  generalize w1.alloc (.cells #[.int .i64 0] 3) = w40 at *
  have HO0 := Lib.hid own0
  have HR0 := Lib.hid r40
  have HB0 := Lib.hid B40
  clear r0 r1 o1 al B1 CI own0 r40 B40 fl
  go_loopw [8] (fun nv wr => ∃ (mm k : Nat) (L : List Int), Hid (finC E (goC E 1 N mm k L) = R) ∧ k ≤ n ∧ N ≤ L.length + mm ∧ 1 ≤ L.length ∧ L.length ≤ N ∧ wr.ownsRow (w.heap.size + 1) 3 1 nv L.length (intCells L) ∧ RR wr w.heap.size w.heap.size E k ∧ Below w.heap.size w wr ∧ w.heap.size + 1 ≤ wr.heap.size) (fun nv _ => N - sLenC nv)
  case atStart => exact ⟨N, 1, [0], HR, h1, by simp, by simp, hN1, HO0.out, HR0.out, HB0.out, hs40⟩
  case round =>
    obtain ⟨mm, k, L, hgo, hkn, hfu, hl1, hln, hown, hr, hbe, hsB⟩ := hrel
    obtain ⟨ll, hll⟩ : ∃ ll, L.length = ll := ⟨_, rfl⟩
    rw [hll] at hown hfu hl1 hln
    have HLL := Lib.hid hll
    have HBE := Lib.hid hbe
    obtain ⟨A9, c9, rfl, hl9, hc9⟩ := own_lists hown
    have HL9 := Lib.hid hl9
    clear hll hbe hl9
    by_cases hlt : ll < N
    · have d1 : (ll : Int) < (N : Int) := by omega
      obtain ⟨mm1, rfl⟩ : ∃ x, mm = x + 1 := ⟨mm - 1, by omega⟩
      obtain ⟨a, ha⟩ : ∃ a, firstC E k = a := ⟨_, rfl⟩
      obtain ⟨bb, hb⟩ : ∃ bb, moreC E 1 k = bb := ⟨_, rfl⟩
      have HAA := Lib.hid ha
      have HBB := Lib.hid hb
      have hab : a < 65536 := by rw [← ha]; exact firstC_lt H8.out k
      have hbb : bb < 65536 := by rw [← hb]; exact moreC_lt H8.out 1 k (by decide)
      have CA : ∀ W, RR W w.heap.size w.heap.size E k → Calls Tryd.prog 29 #[.pointer (some ⟨w.heap.size, 0, none⟩), .int .i64 2] W (RReadS W w.heap.size w.heap.size E (k + 2) (a : Nat)) := fun W r => by
        have h := rr_un _ _ E k 2 W r (by decide) (by decide)
        rw [rdn_two, show rsn E 2 k (rd2 E k) = a from HAA.out] at h
        exact h
      have CB : ∀ W, RR W w.heap.size w.heap.size E (k + 2) → Calls Tryd.prog 29 #[.pointer (some ⟨w.heap.size, 0, none⟩), .int .i64 1] W (RReadS W w.heap.size w.heap.size E (k + 2 + 1) (bb : Nat)) := fun W r => by have h := rr_un _ _ E (k + 2) 1 W r (by decide) (by decide); rw [show rsn E 1 (k + 2) (rdn E 1 (k + 2)) = bb from HBB.out] at h; exact h
      have hbad := goC_bad (E := E) (f := 1) (n := N) (m := mm1) (k := k) (L := L) (by rw [HLL.out]; exact hlt)
      have hmore := goC_more (E := E) (f := 1) (n := N) (m := mm1) (k := k) (L := L) (by rw [HLL.out]; exact hlt)
      rw [ha, hb, HLL.out] at hbad hmore
      have hg := hgo.out
      have e5 : IntKind.i64.wrap ((a : Int) + (bb : Int)) = (a : Int) + (bb : Int) := IntWalk.i64_in _ (by omega)
      clear ha hb
      by_cases hbd : N - ll ≤ bb ∨ 65535 < a + bb
      · have HBad := Lib.hid (show R = none by rw [← hg, hbad hbd]; rfl)
        clear hbad hmore hg
        cases hfl : decide (n < k + 2 + 1)
        · have HFL := Lib.hid hfl
          by_cases h2 : 65535 < a + bb
          · have t1 : (a : Int) + (bb : Int) > 65535 := by omega
            clear hbd h2 hfl
            skip
            skip
            go_wp2_with (first | (go_at_call 29; ((with_reducible refine (CA _ hr).mono ?_); rintro e w3 ⟨rfl, r3, o3⟩)) | (go_at_call 29; ((with_reducible refine (CB _ r3).mono ?_); rintro e w4 ⟨rfl, r4, o4⟩; have o34 := o3.trans o4 (fun b hb => .inl hb); have BB := HBE.out.trans (o34.to_below HBE.out.size (by simp)); have fl := r4.flag; rw [HL.out, HFL.out] at fl)))
            exact bodyPost_ret (v := .tuple #[.slice none 0 0, .bool false]) (by simp [results, Tryd.results9, go_sem]) rfl (HNO.out HBad.out _ BB)
          · have t1 : ¬ (a : Int) + (bb : Int) > 65535 := by omega
            have t2 : (N : Int) - (ll : Int) ≤ (bb : Int) := by omega
            clear hbd h2 hfl
            skip
            skip
            skip
            go_wp2_with (first | (go_at_call 29; ((with_reducible refine (CA _ hr).mono ?_); rintro e w3 ⟨rfl, r3, o3⟩)) | (go_at_call 29; ((with_reducible refine (CB _ r3).mono ?_); rintro e w4 ⟨rfl, r4, o4⟩; have o34 := o3.trans o4 (fun b hb => .inl hb); have BB := HBE.out.trans (o34.to_below HBE.out.size (by simp)); have fl := r4.flag; rw [HL.out, HFL.out] at fl)))
            exact bodyPost_ret (v := .tuple #[.slice none 0 0, .bool false]) (by simp [results, Tryd.results9, go_sem]) rfl (HNO.out HBad.out _ BB)
        · have HFL := Lib.hid hfl
          clear hbd hfl
          skip
          go_wp2_with (first | (go_at_call 29; ((with_reducible refine (CA _ hr).mono ?_); rintro e w3 ⟨rfl, r3, o3⟩)) | (go_at_call 29; ((with_reducible refine (CB _ r3).mono ?_); rintro e w4 ⟨rfl, r4, o4⟩; have o34 := o3.trans o4 (fun b hb => .inl hb); have BB := HBE.out.trans (o34.to_below HBE.out.size (by simp)); have fl := r4.flag; rw [HL.out, HFL.out] at fl)))
          exact bodyPost_ret (v := .tuple #[.slice none 0 0, .bool false]) (by simp [results, Tryd.results9, go_sem]) rfl (HNO.out HBad.out _ BB)
      · cases hfl : decide (n < k + 2 + 1)
        · have HFL := Lib.hid hfl
          have hkn2 : k + 2 + 1 ≤ n := by have := of_decide_eq_false hfl; omega
          have HMO := Lib.hid (show finC E (goC E 1 N mm1 (k + 2 + 1) (L ++ runC a (bb + 1))) = R by rw [← hmore hbd]; exact hg)
          have t1 : ¬ (a : Int) + (bb : Int) > 65535 := by omega
          have t2 : ¬ (N : Int) - (ll : Int) ≤ (bb : Int) := by omega
          have hle : ll + bb + 1 ≤ N := by omega
          have hab2 : a + bb ≤ 65535 := by omega
          clear hbad hmore hg hbd hfl
          skip
          skip
          skip
          go_wp2_with (first | (go_at_call 29; ((with_reducible refine (CA _ hr).mono ?_); rintro e w3 ⟨rfl, r3, o3⟩)) | (go_at_call 29; ((with_reducible refine (CB _ r3).mono ?_); rintro e w4 ⟨rfl, r4, o4⟩; have o34 := o3.trans o4 (fun b hb => .inl hb); have BB := HBE.out.trans (o34.to_below HBE.out.size (by simp)); have fl := r4.flag; rw [HL.out, HFL.out] at fl)))
          have ow5 := own_only hown o34 (fun b hb e => by have := ownC_low hown b hb; simp at e; omega)
          have HO5 := Lib.hid ow5
          have HR5 := Lib.hid r4
          have HB5 := Lib.hid BB
          have hs5 := o34.size
          clear hown ow5 r4 BB hr r3 o3 o34 CA fl CB o4
          go_loopw [8, 11] (fun nv iv w6 => ∃ i : Nat, i ≤ bb + 1 ∧ iv = .int .i64 (i : Nat) ∧ w6.ownsRow (w.heap.size + 1) 3 1 nv (ll + i) (intCells (L ++ runC a i)) ∧ RR w6 w.heap.size w.heap.size E (k + 2 + 1) ∧ Below w.heap.size w w6 ∧ w.heap.size + 1 ≤ w6.heap.size) (fun _ iv _ => bb + 1 - (intOf iv).toNat)
          case atStart => exact ⟨0, by omega, rfl, by simpa [runC] using HO5.out, HR5.out, HB5.out, by omega⟩
          case round =>
            obtain ⟨i, hib, rfl, hown5, hr6, hb6, hs6⟩ := hrel
            by_cases hi2 : i ≤ bb
            · have l1 : (i : Int) ≤ (bb : Int) := by omega
              have e6 : IntKind.i64.wrap ((a : Int) + (i : Int)) = (a : Int) + (i : Int) := IntWalk.i64_in _ (by omega)
              have HSN := Lib.hid (show intCells (L ++ runC a (i + 1)) = intCells (L ++ runC a i) ++ [.int .i64 ((a : Int) + (i : Int))] by rw [runC_snoc, ← List.append_assoc, intCells_snocC]; simp)
              have hlow6 := ownC_low hown5
              go_wp2_with (first | (at_builtin; refine wpList_append_src _ rfl (.tmp 60) (.tmp 64) 24 rfl (w.heap.size + 1) 3 i0 (.int .i64 0) 1 8 Tryd.underlying24 hi hz0 hz1 hz2 rfl (by decide) u8 (ll + i) (intCells (L ++ runC a i)) rfl (own_only hown5 ((Only.refl wr []).alloc (.cells #[.int .i64 ((a : Int) + (i : Int))] 3)) (fun _ _ h => (nomatch h))) (wr.heap.size + 1) (some ⟨wr.heap.size, 0, none⟩) 1 1 [.int .i64 ((a : Int) + (i : Int))] (by rfl) (lists_row wr [.int .i64 ((a : Int) + (i : Int))] 3) rfl (by simp [Value.oneCell']) (by simp only [maxLen]; omega) (by omega) (by simp; omega) ?_; intro v7 w7 own7 hg7 hat7; have o67 : Only wr w7 (blk u8) := ((Only.refl wr (blk u8)).alloc _).grown hg7 (fun b hb => .inl (by have hb' : u8.ownBlock = some b := hb; simp [blk, hb']))))
              go_roundw
              case rel => exact ⟨i + 1, by omega, by first | rfl | go_num, by rw [HSN.out]; exact own7, hr6.other o67 (fun hm => by have := hlow6 _ hm; omega) (fun b hb => by have := hlow6 b hb; omega), hb6.trans (o67.to_below hb6.size (fun b hb => by have := hlow6 b hb; omega)), Nat.le_trans hs6 o67.size⟩
              case measure => simp [intOf]; omega
            · obtain rfl : i = bb + 1 := by omega
              have l1 : ¬ ((bb + 1 : Nat) : Int) ≤ (bb : Int) := by omega
              have l2 : ¬ (bb : Int) + 1 ≤ (bb : Int) := by omega
              obtain ⟨A7, c7, rfl, hl7, hc7⟩ := own_lists hown5
              clear hl7 hc7
              go_wp2
              go_roundw
              case rel => exact ⟨mm1, k + 2 + 1, L ++ runC a (bb + 1), HMO, by omega, by rw [List.length_append, runC_len, HLL.out]; omega, by rw [List.length_append, runC_len, HLL.out]; omega, by rw [List.length_append, runC_len, HLL.out]; omega, by rw [List.length_append, runC_len, HLL.out]; exact hown5, hr6, hb6, hs6⟩
              case measure => simp [sLenC]; omega
        · have HFL := Lib.hid hfl
          have HBad := Lib.hid (show R = none by rw [← hg, hmore hbd]; exact fin_far (by rw [HL.out]; have := of_decide_eq_true hfl; omega))
          clear hbad hmore hg hbd hfl
          skip
          go_wp2_with (first | (go_at_call 29; ((with_reducible refine (CA _ hr).mono ?_); rintro e w3 ⟨rfl, r3, o3⟩)) | (go_at_call 29; ((with_reducible refine (CB _ r3).mono ?_); rintro e w4 ⟨rfl, r4, o4⟩; have o34 := o3.trans o4 (fun b hb => .inl hb); have BB := HBE.out.trans (o34.to_below HBE.out.size (by simp)); have fl := r4.flag; rw [HL.out, HFL.out] at fl)))
          exact bodyPost_ret (v := .tuple #[.slice none 0 0, .bool false]) (by simp [results, Tryd.results9, go_sem]) rfl (HNO.out HBad.out _ BB)
    · have d1 : ¬ (ll : Int) < (N : Int) := by omega
      obtain rfl : ll = N := by omega
      have HR2 := Lib.hid (show R = some L by rw [← hgo.out, goC_end (by rw [HLL.out]; exact Nat.le_refl _)]; unfold finC; simp only; rw [if_pos (by rw [HL.out]; exact hkn)])
      have HF2 := Lib.hid (HY.out L HR2.out A9 c9 wr HL9.out HBE.out)
      rw [HLL.out] at HF2
      go_wp2
      exact bodyPost_ret (v := .tuple #[.slice A9 ll c9, .bool true]) (by simp [results, Tryd.results9, go_sem]) rfl HF2.out
end Go.Proofs.YteffijgajhngeaaDoor

namespace Go.Proofs.YteffijgajhngeaaDoor
open Go Go.RowKit
set_option linter.unusedVariables false
set_option linter.unusedSimpArgs false
set_option maxRecDepth 100000 in
set_option maxHeartbeats 4000000 in
theorem rld_2 (A : Option Addr) (c n N : Nat) (E : List Value) (w : World) (hE : Lists w w.heap.size A E) (h8 : Bytes8 E) (hc : n ≤ c) (hc2 : c ≤ 9223372036854775807) (hm : n ≤ 140737488355328) (hL : E.length = n) (hN1 : 1 ≤ N) (hN2 : N ≤ 5000) (hx : rsn E 1 0 (rdn E 1 0) = 2) (h1 : 1 ≤ n) (R : Option (List Int)) (hR : finC E (goC E 2 N N 1 [0]) = R) :
    Calls Tryd.prog 9 #[.slice A n c, .int .i64 (N : Nat)] w (RfC w R) := by
  have al : Below w.heap.size w (w.alloc (.cells #[.slice A n c, .int .i64 0, .bool false] 54)) := (Below.refl _ _).alloc (Nat.le_refl _) _
  have r0 : RR (w.alloc (.cells #[.slice A n c, .int .i64 0, .bool false] 54)) w.heap.size w.heap.size E 0 := .inl ⟨Nat.zero_le _, A, c, by rw [hL]; exact Blk.new _ _ _, hE.below al, h8, Nat.zero_le _, by omega, hc2, by omega, Nat.le_refl _⟩
  have CI : ∀ W, RR W w.heap.size w.heap.size E 0 → Calls Tryd.prog 29 #[.pointer (some ⟨w.heap.size, 0, none⟩), .int .i64 1] W (RReadS W w.heap.size w.heap.size E (0 + 1) (2 : Nat)) := fun W r => by have k := rr_un _ _ E (0) 1 W r (by decide) (by decide); rw [hx] at k; exact k
  have hno : R = none → ∀ W, Below w.heap.size w W → RfC w R (.returned (.tuple #[.slice none 0 0, .bool false])) W := fun h W hb => by rw [h]; exact ⟨rfl, hb⟩
  have hyes : ∀ L, R = some L → ∀ A c W, Lists W W.heap.size A (intCells L) → Below w.heap.size w W → RfC w R (.returned (.tuple #[.slice A L.length c, .bool true])) W := fun L h A c W hl hb => by rw [h]; exact ⟨A, c, rfl, Lib.hid hl, hb⟩
  have HNO := Lib.hid hno
  have HY := Lib.hid hyes
  have HL := Lib.hid hL
  have HF := Lib.hid (show decide (n < 1) = false by simp; omega)
  have HR := Lib.hid hR
  have H8 := Lib.hid h8
  clear hE hL hx h8 hR hno hyes
  obtain ⟨i0, hi, hz0, hz1, hz2⟩ := info_parts intInfoC
  go_enter Tryd.func9, Tryd.ntmps9
  go_wp2_with (first | (go_at_call 29; ((with_reducible refine (CI _ r0).mono ?_); rintro e w1 ⟨rfl, r1, o1⟩; have B1 := al.trans (o1.to_below al.size (by simp)); have s1 := o1.size; simp only [World.size_alloc] at s1; have fl := r1.flag; rw [HL.out, HF.out] at fl)))
  have own0 := own_base (ownC_one w1 0 w1.heap.size rfl) (show w.heap.size + 1 ≤ w1.heap.size by omega)
  have r40 := r1.below ((Below.refl _ _).alloc (Nat.le_refl _) (.cells #[.int .i64 0] 3))
  have B40 := B1.alloc B1.size (.cells #[.int .i64 0] 3)
  have hs40 : w.heap.size + 1 ≤ (w1.alloc (.cells #[.int .i64 0] 3)).heap.size := by rw [World.size_alloc]; omega
  generalize w1.alloc (.cells #[.int .i64 0] 3) = w40 at *
  have HO0 := Lib.hid own0
  have HR0 := Lib.hid r40
  have HB0 := Lib.hid B40
  clear r0 r1 o1 al B1 CI own0 r40 B40 fl
  go_loopw [8] (fun nv wr => ∃ (mm k : Nat) (L : List Int), Hid (finC E (goC E 2 N mm k L) = R) ∧ k ≤ n ∧ N ≤ L.length + mm ∧ 1 ≤ L.length ∧ L.length ≤ N ∧ wr.ownsRow (w.heap.size + 1) 3 1 nv L.length (intCells L) ∧ RR wr w.heap.size w.heap.size E k ∧ Below w.heap.size w wr ∧ w.heap.size + 1 ≤ wr.heap.size) (fun nv _ => N - sLenC nv)
  case atStart => exact ⟨N, 1, [0], HR, h1, by simp, by simp, hN1, HO0.out, HR0.out, HB0.out, hs40⟩
  case round =>
    obtain ⟨mm, k, L, hgo, hkn, hfu, hl1, hln, hown, hr, hbe, hsB⟩ := hrel
    obtain ⟨ll, hll⟩ : ∃ ll, L.length = ll := ⟨_, rfl⟩
    rw [hll] at hown hfu hl1 hln
    have HLL := Lib.hid hll
    have HBE := Lib.hid hbe
    obtain ⟨A9, c9, rfl, hl9, hc9⟩ := own_lists hown
    have HL9 := Lib.hid hl9
    clear hll hbe hl9
    by_cases hlt : ll < N
    · have d1 : (ll : Int) < (N : Int) := by omega
      obtain ⟨mm1, rfl⟩ : ∃ x, mm = x + 1 := ⟨mm - 1, by omega⟩
      obtain ⟨a, ha⟩ : ∃ a, firstC E k = a := ⟨_, rfl⟩
      obtain ⟨bb, hb⟩ : ∃ bb, moreC E 2 k = bb := ⟨_, rfl⟩
      have HAA := Lib.hid ha
      have HBB := Lib.hid hb
      have hab : a < 65536 := by rw [← ha]; exact firstC_lt H8.out k
      have hbb : bb < 65536 := by rw [← hb]; exact moreC_lt H8.out 2 k (by decide)
      have CA : ∀ W, RR W w.heap.size w.heap.size E k → Calls Tryd.prog 29 #[.pointer (some ⟨w.heap.size, 0, none⟩), .int .i64 2] W (RReadS W w.heap.size w.heap.size E (k + 2) (a : Nat)) := fun W r => by
        have h := rr_un _ _ E k 2 W r (by decide) (by decide)
        rw [rdn_two, show rsn E 2 k (rd2 E k) = a from HAA.out] at h
        exact h
      have CB : ∀ W, RR W w.heap.size w.heap.size E (k + 2) → Calls Tryd.prog 29 #[.pointer (some ⟨w.heap.size, 0, none⟩), .int .i64 2] W (RReadS W w.heap.size w.heap.size E (k + 2 + 2) (bb : Nat)) := fun W r => by have h := rr_un _ _ E (k + 2) 2 W r (by decide) (by decide); rw [show rsn E 2 (k + 2) (rdn E 2 (k + 2)) = bb from HBB.out] at h; exact h
      have hbad := goC_bad (E := E) (f := 2) (n := N) (m := mm1) (k := k) (L := L) (by rw [HLL.out]; exact hlt)
      have hmore := goC_more (E := E) (f := 2) (n := N) (m := mm1) (k := k) (L := L) (by rw [HLL.out]; exact hlt)
      rw [ha, hb, HLL.out] at hbad hmore
      have hg := hgo.out
      have e5 : IntKind.i64.wrap ((a : Int) + (bb : Int)) = (a : Int) + (bb : Int) := IntWalk.i64_in _ (by omega)
      clear ha hb
      by_cases hbd : N - ll ≤ bb ∨ 65535 < a + bb
      · have HBad := Lib.hid (show R = none by rw [← hg, hbad hbd]; rfl)
        clear hbad hmore hg
        cases hfl : decide (n < k + 2 + 2)
        · have HFL := Lib.hid hfl
          by_cases h2 : 65535 < a + bb
          · have t1 : (a : Int) + (bb : Int) > 65535 := by omega
            clear hbd h2 hfl
            skip
            skip
            go_wp2_with (first | (go_at_call 29; ((with_reducible refine (CA _ hr).mono ?_); rintro e w3 ⟨rfl, r3, o3⟩)) | (go_at_call 29; ((with_reducible refine (CB _ r3).mono ?_); rintro e w4 ⟨rfl, r4, o4⟩; have o34 := o3.trans o4 (fun b hb => .inl hb); have BB := HBE.out.trans (o34.to_below HBE.out.size (by simp)); have fl := r4.flag; rw [HL.out, HFL.out] at fl)))
            exact bodyPost_ret (v := .tuple #[.slice none 0 0, .bool false]) (by simp [results, Tryd.results9, go_sem]) rfl (HNO.out HBad.out _ BB)
          · have t1 : ¬ (a : Int) + (bb : Int) > 65535 := by omega
            have t2 : (N : Int) - (ll : Int) ≤ (bb : Int) := by omega
            clear hbd h2 hfl
            skip
            skip
            skip
            go_wp2_with (first | (go_at_call 29; ((with_reducible refine (CA _ hr).mono ?_); rintro e w3 ⟨rfl, r3, o3⟩)) | (go_at_call 29; ((with_reducible refine (CB _ r3).mono ?_); rintro e w4 ⟨rfl, r4, o4⟩; have o34 := o3.trans o4 (fun b hb => .inl hb); have BB := HBE.out.trans (o34.to_below HBE.out.size (by simp)); have fl := r4.flag; rw [HL.out, HFL.out] at fl)))
            exact bodyPost_ret (v := .tuple #[.slice none 0 0, .bool false]) (by simp [results, Tryd.results9, go_sem]) rfl (HNO.out HBad.out _ BB)
        · have HFL := Lib.hid hfl
          clear hbd hfl
          skip
          go_wp2_with (first | (go_at_call 29; ((with_reducible refine (CA _ hr).mono ?_); rintro e w3 ⟨rfl, r3, o3⟩)) | (go_at_call 29; ((with_reducible refine (CB _ r3).mono ?_); rintro e w4 ⟨rfl, r4, o4⟩; have o34 := o3.trans o4 (fun b hb => .inl hb); have BB := HBE.out.trans (o34.to_below HBE.out.size (by simp)); have fl := r4.flag; rw [HL.out, HFL.out] at fl)))
          exact bodyPost_ret (v := .tuple #[.slice none 0 0, .bool false]) (by simp [results, Tryd.results9, go_sem]) rfl (HNO.out HBad.out _ BB)
      · cases hfl : decide (n < k + 2 + 2)
        · have HFL := Lib.hid hfl
          have hkn2 : k + 2 + 2 ≤ n := by have := of_decide_eq_false hfl; omega
          have HMO := Lib.hid (show finC E (goC E 2 N mm1 (k + 2 + 2) (L ++ runC a (bb + 1))) = R by rw [← hmore hbd]; exact hg)
          have t1 : ¬ (a : Int) + (bb : Int) > 65535 := by omega
          have t2 : ¬ (N : Int) - (ll : Int) ≤ (bb : Int) := by omega
          have hle : ll + bb + 1 ≤ N := by omega
          have hab2 : a + bb ≤ 65535 := by omega
          clear hbad hmore hg hbd hfl
          skip
          skip
          skip
          go_wp2_with (first | (go_at_call 29; ((with_reducible refine (CA _ hr).mono ?_); rintro e w3 ⟨rfl, r3, o3⟩)) | (go_at_call 29; ((with_reducible refine (CB _ r3).mono ?_); rintro e w4 ⟨rfl, r4, o4⟩; have o34 := o3.trans o4 (fun b hb => .inl hb); have BB := HBE.out.trans (o34.to_below HBE.out.size (by simp)); have fl := r4.flag; rw [HL.out, HFL.out] at fl)))
          have ow5 := own_only hown o34 (fun b hb e => by have := ownC_low hown b hb; simp at e; omega)
          have HO5 := Lib.hid ow5
          have HR5 := Lib.hid r4
          have HB5 := Lib.hid BB
          have hs5 := o34.size
          clear hown ow5 r4 BB hr r3 o3 o34 CA fl CB o4
          go_loopw [8, 11] (fun nv iv w6 => ∃ i : Nat, i ≤ bb + 1 ∧ iv = .int .i64 (i : Nat) ∧ w6.ownsRow (w.heap.size + 1) 3 1 nv (ll + i) (intCells (L ++ runC a i)) ∧ RR w6 w.heap.size w.heap.size E (k + 2 + 2) ∧ Below w.heap.size w w6 ∧ w.heap.size + 1 ≤ w6.heap.size) (fun _ iv _ => bb + 1 - (intOf iv).toNat)
          case atStart => exact ⟨0, by omega, rfl, by simpa [runC] using HO5.out, HR5.out, HB5.out, by omega⟩
          case round =>
            obtain ⟨i, hib, rfl, hown5, hr6, hb6, hs6⟩ := hrel
            by_cases hi2 : i ≤ bb
            · have l1 : (i : Int) ≤ (bb : Int) := by omega
              have e6 : IntKind.i64.wrap ((a : Int) + (i : Int)) = (a : Int) + (i : Int) := IntWalk.i64_in _ (by omega)
              have HSN := Lib.hid (show intCells (L ++ runC a (i + 1)) = intCells (L ++ runC a i) ++ [.int .i64 ((a : Int) + (i : Int))] by rw [runC_snoc, ← List.append_assoc, intCells_snocC]; simp)
              have hlow6 := ownC_low hown5
              go_wp2_with (first | (at_builtin; refine wpList_append_src _ rfl (.tmp 60) (.tmp 64) 24 rfl (w.heap.size + 1) 3 i0 (.int .i64 0) 1 8 Tryd.underlying24 hi hz0 hz1 hz2 rfl (by decide) u8 (ll + i) (intCells (L ++ runC a i)) rfl (own_only hown5 ((Only.refl wr []).alloc (.cells #[.int .i64 ((a : Int) + (i : Int))] 3)) (fun _ _ h => (nomatch h))) (wr.heap.size + 1) (some ⟨wr.heap.size, 0, none⟩) 1 1 [.int .i64 ((a : Int) + (i : Int))] (by rfl) (lists_row wr [.int .i64 ((a : Int) + (i : Int))] 3) rfl (by simp [Value.oneCell']) (by simp only [maxLen]; omega) (by omega) (by simp; omega) ?_; intro v7 w7 own7 hg7 hat7; have o67 : Only wr w7 (blk u8) := ((Only.refl wr (blk u8)).alloc _).grown hg7 (fun b hb => .inl (by have hb' : u8.ownBlock = some b := hb; simp [blk, hb']))))
              go_roundw
              case rel => exact ⟨i + 1, by omega, by first | rfl | go_num, by rw [HSN.out]; exact own7, hr6.other o67 (fun hm => by have := hlow6 _ hm; omega) (fun b hb => by have := hlow6 b hb; omega), hb6.trans (o67.to_below hb6.size (fun b hb => by have := hlow6 b hb; omega)), Nat.le_trans hs6 o67.size⟩
              case measure => simp [intOf]; omega
            · obtain rfl : i = bb + 1 := by omega
              have l1 : ¬ ((bb + 1 : Nat) : Int) ≤ (bb : Int) := by omega
              have l2 : ¬ (bb : Int) + 1 ≤ (bb : Int) := by omega
              obtain ⟨A7, c7, rfl, hl7, hc7⟩ := own_lists hown5
              clear hl7 hc7
              go_wp2
              go_roundw
              case rel => exact ⟨mm1, k + 2 + 2, L ++ runC a (bb + 1), HMO, by omega, by rw [List.length_append, runC_len, HLL.out]; omega, by rw [List.length_append, runC_len, HLL.out]; omega, by rw [List.length_append, runC_len, HLL.out]; omega, by rw [List.length_append, runC_len, HLL.out]; exact hown5, hr6, hb6, hs6⟩
              case measure => simp [sLenC]; omega
        · have HFL := Lib.hid hfl
          have HBad := Lib.hid (show R = none by rw [← hg, hmore hbd]; exact fin_far (by rw [HL.out]; have := of_decide_eq_true hfl; omega))
          clear hbad hmore hg hbd hfl
          skip
          go_wp2_with (first | (go_at_call 29; ((with_reducible refine (CA _ hr).mono ?_); rintro e w3 ⟨rfl, r3, o3⟩)) | (go_at_call 29; ((with_reducible refine (CB _ r3).mono ?_); rintro e w4 ⟨rfl, r4, o4⟩; have o34 := o3.trans o4 (fun b hb => .inl hb); have BB := HBE.out.trans (o34.to_below HBE.out.size (by simp)); have fl := r4.flag; rw [HL.out, HFL.out] at fl)))
          exact bodyPost_ret (v := .tuple #[.slice none 0 0, .bool false]) (by simp [results, Tryd.results9, go_sem]) rfl (HNO.out HBad.out _ BB)
    · have d1 : ¬ (ll : Int) < (N : Int) := by omega
      obtain rfl : ll = N := by omega
      have HR2 := Lib.hid (show R = some L by rw [← hgo.out, goC_end (by rw [HLL.out]; exact Nat.le_refl _)]; unfold finC; simp only; rw [if_pos (by rw [HL.out]; exact hkn)])
      have HF2 := Lib.hid (HY.out L HR2.out A9 c9 wr HL9.out HBE.out)
      rw [HLL.out] at HF2
      go_wp2
      exact bodyPost_ret (v := .tuple #[.slice A9 ll c9, .bool true]) (by simp [results, Tryd.results9, go_sem]) rfl HF2.out
end Go.Proofs.YteffijgajhngeaaDoor

namespace Go.Proofs.YteffijgajhngeaaDoor
open Go Go.RowKit
set_option linter.unusedVariables false
set_option linter.unusedSimpArgs false
set_option maxRecDepth 100000 in
set_option maxHeartbeats 4000000 in
theorem rld_bad (A : Option Addr) (c n N : Nat) (E : List Value) (w : World) (hE : Lists w w.heap.size A E) (h8 : Bytes8 E) (hc : n ≤ c) (hc2 : c ≤ 9223372036854775807) (hm : n ≤ 140737488355328) (hL : E.length = n) (hN1 : 1 ≤ N) (hN2 : N ≤ 5000) (x : Nat) (u : Bool) (hu : decide (n < 1) = u) (hx : rsn E 1 0 (rdn E 1 0) = x) (hb : u = true ∨ 2 < x) :
    Calls Tryd.prog 9 #[.slice A n c, .int .i64 (N : Nat)] w fun e w' => e = .returned (.tuple #[.slice none 0 0, .bool false]) ∧ Below w.heap.size w w' := by
  have al : Below w.heap.size w (w.alloc (.cells #[.slice A n c, .int .i64 0, .bool false] 54)) := (Below.refl _ _).alloc (Nat.le_refl _) _
  have r0 : RR (w.alloc (.cells #[.slice A n c, .int .i64 0, .bool false] 54)) w.heap.size w.heap.size E 0 := .inl ⟨Nat.zero_le _, A, c, by rw [hL]; exact Blk.new _ _ _, hE.below al, h8, Nat.zero_le _, by omega, hc2, by omega, Nat.le_refl _⟩
  have CI : ∀ W, RR W w.heap.size w.heap.size E 0 → Calls Tryd.prog 29 #[.pointer (some ⟨w.heap.size, 0, none⟩), .int .i64 1] W (RReadS W w.heap.size w.heap.size E (0 + 1) (x : Nat)) := fun W r => by have k := rr_un _ _ E (0) 1 W r (by decide) (by decide); rw [hx] at k; exact k
  have HL := Lib.hid hL
  have HF := Lib.hid hu
  clear hE hc hc2 hm hL hu hx h8
  cases u
  · have t2 : (x : Int) > 2 := by rcases hb with h | h; cases h; omega
    clear hb
    go_enter Tryd.func9, Tryd.ntmps9
    go_wp2_with (first | (go_at_call 29; ((with_reducible refine (CI _ r0).mono ?_); rintro e w1 ⟨rfl, r1, o1⟩; have B1 := al.trans (o1.to_below al.size (by simp)); have s1 := o1.size; simp only [World.size_alloc] at s1; have fl := r1.flag; rw [HL.out, HF.out] at fl)))
    exact bodyPost_ret (v := .tuple #[.slice none 0 0, .bool false]) (by simp [results, Tryd.results9, go_sem]) rfl ⟨rfl, B1⟩
  · clear hb
    go_enter Tryd.func9, Tryd.ntmps9
    go_wp2_with (first | (go_at_call 29; ((with_reducible refine (CI _ r0).mono ?_); rintro e w1 ⟨rfl, r1, o1⟩; have B1 := al.trans (o1.to_below al.size (by simp)); have s1 := o1.size; simp only [World.size_alloc] at s1; have fl := r1.flag; rw [HL.out, HF.out] at fl)))
    exact bodyPost_ret (v := .tuple #[.slice none 0 0, .bool false]) (by simp [results, Tryd.results9, go_sem]) rfl ⟨rfl, B1⟩
end Go.Proofs.YteffijgajhngeaaDoor

namespace Go.Proofs.YteffijgajhngeaaDoor
open Go Go.RowKit
set_option linter.unusedVariables false
set_option linter.unusedSimpArgs false

theorem rld_any (A : Option Addr) (c N : Nat) (E : List Value) (w : World) (hE : Lists w w.heap.size A E) (h8 : Bytes8 E) (hc : E.length ≤ c) (hc2 : c ≤ 9223372036854775807) (hm : E.length ≤ 140737488355328) (hN1 : 1 ≤ N) (hN2 : N ≤ 5000) :
    Calls Tryd.prog 9 #[.slice A E.length c, .int .i64 (N : Nat)] w (RfC w (ldC E N)) := by
  obtain ⟨x, hx⟩ : ∃ x, rsn E 1 0 (byteAt E 0) = x := ⟨_, rfl⟩
  have hx1 : rsn E 1 0 (rdn E 1 0) = x := by rw [rdn_one]; exact hx
  by_cases hb : decide (E.length < 1) = true ∨ 2 < x
  · refine (rld_bad A c E.length N E w hE h8 hc hc2 hm rfl hN1 hN2 x _ rfl hx1 hb).mono fun e w' h => ?_
    have : ldC E N = none := by
      unfold ldC
      rw [hx]
      rcases hb with h | h
      · have h := of_decide_eq_true h
        split
        · rfl
        · exact fin_far (by omega)
      · rw [if_pos h]
    rw [this]
    exact h
  · have h1 : 1 ≤ E.length := Nat.le_of_not_lt fun h => hb (.inl (decide_eq_true h))
    have h2 : ¬ 2 < x := fun h => hb (.inr h)
    unfold ldC
    rw [hx, if_neg h2]
    match x, h2 with
    | 0, _ => exact rld_0 A c E.length N E w hE h8 hc hc2 hm rfl hN1 hN2 hx1 h1 _ rfl
    | 1, _ => exact rld_1 A c E.length N E w hE h8 hc hc2 hm rfl hN1 hN2 hx1 h1 _ rfl
    | 2, _ => exact rld_2 A c E.length N E w hE h8 hc hc2 hm rfl hN1 hN2 hx1 h1 _ rfl
    | x + 3, h => exact absurd (by omega) h
end Go.Proofs.YteffijgajhngeaaDoor

namespace Go.Proofs.YteffijgajhngeaaDoor
open Go.ChangeShapes Go.WideShapes Go.ChangeAt Go.RowKit
set_option linter.unusedVariables false
set_option linter.unusedSimpArgs false

def laid16 {H : Type} : List (String × DataW H) := [("serif/charset.mostOf", Rows.laid_serif_charset_mostOf)]
theorem gMost : Tryd.prog.globalNamed "serif/charset.mostOf" = some 0 := by kernel_rfl
theorem tMost : (Tryd.prog.globals[0]?).map (·.type) = some 61 := by kernel_rfl
theorem uMost : Tryd.prog.underlying 61 = some (.array 3 3) := by kernel_rfl
theorem cMost : Tryd.prog.cellsOf 3 = 1 := by kernel_rfl
theorem gl_of_laid {W : World} (h : laidMetH Tryd.prog laid16 W) : GL W := by
  rw [MakeChecks.laidMetH_plain _ _ _ (by kernel_rfl)] at h
  obtain ⟨ps, ⟨g0, t0, cs0, f0, p0, q0, hg0, ht0, hv0, hd0, _, _⟩, _, _⟩ := h
  obtain rfl := Option.some.inj (gMost.symm.trans hg0)
  obtain rfl := Option.some.inj (tMost.symm.trans ht0)
  obtain ⟨xs, m1, rfl, hx1, hlen, hn3, hel⟩ := DataW.trod_array uMost hd0
  simp only [Prod.mk.injEq, Rows.laid_serif_charset_mostOf, DataW.agg.injEq] at hx1
  have e0 := hel 0 (by decide)
  have e1 := hel 1 (by decide)
  have e2 := hel 2 (by decide)
  match xs, hn3, hx1, e0, e1, e2 with
  | [x0, x1, x2], _, hx1, e0, e1, e2 =>
    simp only [List.map_cons, List.map_nil, List.cons.injEq] at hx1
    rw [cMost] at e0 e1 e2
    obtain ⟨k0, a0, b0, _⟩ := DataW.trod_int Tryd.underlying3 (show DataW.trod _ Tryd.prog W 0 _ false m1 3 _ = some x0 from e0)
    obtain ⟨k1, a1, b1, _⟩ := DataW.trod_int Tryd.underlying3 (show DataW.trod _ Tryd.prog W 0 _ false m1 3 _ = some x1 from e1)
    obtain ⟨k2, a2, b2, _⟩ := DataW.trod_int Tryd.underlying3 (show DataW.trod _ Tryd.prog W 0 _ false m1 3 _ = some x2 from e2)
    have h0 : k0 = 1 := by rw [b0] at hx1; simpa using hx1.1.1.symm
    have h1 : k1 = 256 := by rw [b1] at hx1; simpa using hx1.1.2.1.symm
    have h2 : k2 = 65536 := by rw [b2] at hx1; simpa using hx1.1.2.2.1.symm
    subst h0 h1 h2
    have c0 := World.var?_cell hg0 hv0 0
    have c1 := World.var?_cell hg0 hv0 1
    have c2 := World.var?_cell hg0 hv0 2
    obtain ⟨l1⟩ := cs0
    match l1, a0, a1, a2 with
    | [y0, y1, y2], a0, a1, a2 =>
      simp at a0 a1 a2
      subst a0 a1 a2
      have d0 : W.cell? ⟨0, 0, none⟩ = some (.int .i64 1) := by simpa using c0
      exact ⟨cell_lt d0, d0, by simpa using c1, by simpa using c2⟩
theorem door_met (os : Os) (args : Array Value) : laidMetH Tryd.prog laid16 ((World.doorLaid Tryd.prog 400 os).forCall (fun _ _ => 0) ⟨#[], args, []⟩).memory :=
  laidMetH_of_parts3 (fuel := 8) (laidMet_of_run' 8 (by kernel_rfl) (by kernel_rfl)) (by kernel_rfl) (by kernel_rfl)
end Go.Proofs.YteffijgajhngeaaDoor
