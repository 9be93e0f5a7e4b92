/- Part 11 of the proof: ChT, ChT0, ChT3, ChTb, ChU. -/
import Derived.Test.YteffijgajhngeaaDoorCCh9

namespace Go.Proofs.YteffijgajhngeaaDoor
open Go Go.RowKit
set_option linter.unusedVariables false
set_option linter.unusedSimpArgs false

theorem allB_app {a b : Int} {L M : List Int} : allB a b (L ++ M) = (allB a b L && allB a b M) := by unfold allB; rw [List.all_append]
theorem allB_rep {a b x : Int} (m : Nat) (h : inB a b x = true) : allB a b (List.replicate m x) = true := by
  unfold allB
  rw [List.all_eq_true]
  intro y hy
  rw [(List.mem_replicate.1 hy).2]
  exact h
theorem allB_one {a b x : Int} : allB a b [x] = inB a b x := by simp [allB]
theorem allB_mem {a b : Int} {L : List Int} {x : Int} (h : x ∈ L) (hx : inB a b x = false) : allB a b L = false := by
  cases hal : allB a b L
  · rfl
  · have := List.all_eq_true.1 hal x h
    rw [hx] at this
    cases this
/-- What ranges that are left come to. -/
def selG (E : List Value) (n : Nat) (kf : Int) (m k : Nat) (L : List Int) : Option (List Int) := selF E n kf (rrC E n m k L)
theorem selG_bad {E : List Value} {n : Nat} {kf : Int} {m k : Nat} {L : List Int} (h : endS E k ≤ L.length ∨ n < endS E k) : selG E n kf (m + 1) k L = none := by unfold selG; rw [rrC_bad h]; rfl
theorem selG_more {E : List Value} {n : Nat} {kf : Int} {m k : Nat} {L : List Int} (h : ¬ (endS E k ≤ L.length ∨ n < endS E k)) : selG E n kf (m + 1) k L = selG E n kf m (k + 3) (L ++ List.replicate (endS E k - L.length) ((numS E k : Nat) : Int)) := by unfold selG; rw [rrC_more h]
theorem rrC_pos (E : List Value) (n : Nat) : ∀ m k (L L' : List Int) (k' : Nat), rrC E n m k L = some (L', k') → k' = k + 3 * m ∧ ∃ T, L' = L ++ T
  | 0, k, L, L', k', h => by
    injection h with h; injection h with h1 h2
    exact ⟨by omega, [], by rw [List.append_nil]; exact h1.symm⟩
  | m + 1, k, L, L', k', h => by
    by_cases hb : endS E k ≤ L.length ∨ n < endS E k
    · rw [rrC_bad hb] at h; cases h
    · rw [rrC_more hb] at h
      obtain ⟨h1, T, h2⟩ := rrC_pos E n m _ _ L' k' h
      exact ⟨by omega, _, by rw [h2, List.append_assoc]⟩
theorem selG_far {E : List Value} {n : Nat} {kf : Int} {m k : Nat} {L : List Int} (h : E.length < k + 3 * m) : selG E n kf m k L = none := by
  unfold selG
  generalize hg : rrC E n m k L = r
  match r, hg with
  | none, _ => rfl
  | some (L', k'), hg =>
    have := (rrC_pos E n m k L L' k' hg).1
    unfold selF
    simp only
    rw [if_neg (by omega)]
theorem selG_num {E : List Value} {n : Nat} {kf : Int} {m k : Nat} {L : List Int} (h : allB 0 (kf - 1) L = false) : selG E n kf m k L = none := by
  unfold selG
  generalize hg : rrC E n m k L = r
  match r, hg with
  | none, _ => rfl
  | some (L', k'), hg =>
    obtain ⟨T, hT⟩ := (rrC_pos E n m k L L' k' hg).2
    unfold selF
    simp only
    rw [if_neg (by rw [hT, allB_app, h]; simp)]
theorem inB_no {a b x : Int} (h : b < x) : inB a b x = false := by
  cases hh : inB a b x
  · rfl
  · have := inB_true hh; omega
theorem selG_x {E : List Value} {n : Nat} {kf : Int} {m k : Nat} {L : List Int} (h : kf ≤ (numS E k : Nat)) : selG E n kf (m + 1) k L = none := by
  by_cases hb : endS E k ≤ L.length ∨ n < endS E k
  · exact selG_bad hb
  · rw [selG_more hb]
    refine selG_num (allB_mem (x := ((numS E k : Nat) : Int)) ?_ (inB_no (by omega)))
    refine List.mem_append_right _ (List.mem_replicate.2 ⟨by omega, rfl⟩)
theorem selG_full {E : List Value} {n : Nat} {kf : Int} {m k : Nat} {L : List Int} (h : n ≤ L.length) : selG E n kf (m + 1) k L = none := selG_bad (by omega)
/-- Where the reference stands with i ranges read. -/
def StT (E : List Value) (n ct : Nat) (kf : Int) (R : Option (List Int)) (i : Nat) (o : List Int) (la : Nat) : Prop :=
  (i = 0 ∧ o = [] ∧ la = 0 ∧ selF E n kf (rdR E n 1) = R) ∨
  (∃ j L, i = j + 1 ∧ o = L ++ [(la : Int)] ∧ L.length < n ∧ allB 0 (kf - 1) o = true ∧ la = numS E (3 * j + 5) ∧ 3 * j + 6 ≤ E.length ∧ selG E n kf (ct - j) (3 * j + 5) L = R)
theorem rdR_zero {E : List Value} {n : Nat} {kf : Int} (h : firstC E 3 = 0) : selF E n kf (rdR E n 1) = selG E n kf (rsn E 2 1 (rd2 E 1)) 5 [] := by
  unfold rdR selG
  rw [if_neg (by rw [show rsn E 2 (1 + 2) (rd2 E (1 + 2)) = firstC E 3 from rfl, h]; simp)]
theorem stT_bad {E : List Value} {n ct : Nat} {kf : Int} {R : Option (List Int)} {i : Nat} {o : List Int} {la a x : Nat} (hct : rsn E 2 1 (rd2 E 1) = ct) (hn : 1 ≤ n) (h : StT E n ct kf R i o la) (hi : i < ct) (ha : firstC E (3 * i + 3) = a) (hx : numS E (3 * i + 5) = x)
    (hb : E.length < 3 * i + 6 ∨ kf ≤ (x : Nat) ∨ n ≤ a ∨ (i = 0 ∧ a ≠ 0) ∨ (0 < i ∧ a + 1 ≤ o.length)) : R = none := by
  rcases h with ⟨rfl, rfl, rfl, h⟩ | ⟨j, L, rfl, rfl, hL, hal, rfl, hj, h⟩
  · subst h
    by_cases h0 : a = 0
    · subst h0
      rw [rdR_zero ha, hct]
      obtain ⟨m, rfl⟩ : ∃ m, ct = m + 1 := ⟨ct - 1, by omega⟩
      rcases hb with hb | hb | hb | hb | hb
      · exact selG_far (by omega)
      · exact selG_x (by rw [show numS E 5 = x from hx]; exact hb)
      · omega
      · exact absurd rfl hb.2
      · omega
    · unfold rdR
      rw [if_pos (by rw [show rsn E 2 (1 + 2) (rd2 E (1 + 2)) = firstC E 3 from rfl, show firstC E 3 = a from ha]; exact h0)]
      rfl
  · subst h
    have ha2 : endS E (3 * j + 5) = a := ha
    have hx2 : numS E (3 * j + 5 + 3) = x := hx
    obtain ⟨m, hm⟩ : ∃ m, ct - j = m + 1 + 1 := ⟨ct - j - 2, by omega⟩
    rw [hm]
    rw [List.length_append, List.length_singleton] at hb
    by_cases hc : endS E (3 * j + 5) ≤ L.length ∨ n < endS E (3 * j + 5)
    · exact selG_bad hc
    · rw [selG_more hc]
      rcases hb with hb | hb | hb | hb | hb
      · exact selG_far (by omega)
      · exact selG_x (by rw [hx2]; exact hb)
      · exact selG_full (by rw [List.length_append, List.length_replicate]; omega)
      · omega
      · omega
/-- A row, filled up. -/
def fillC (o : List Int) (d la : Nat) : List Int := o ++ List.replicate d (la : Int)
theorem fillC_len (o : List Int) (d la : Nat) : (fillC o d la).length = o.length + d := by simp [fillC]
theorem fillC_zero (o : List Int) (la : Nat) : fillC o 0 la = o := by simp [fillC]
theorem fillC_snoc (o : List Int) (d la : Nat) : intCells (fillC o (d + 1) la) = intCells (fillC o d la) ++ [.int .i64 (la : Nat)] := by
  unfold fillC intCells
  rw [List.replicate_succ', ← List.append_assoc, List.map_append]
  rfl
theorem fillC_back (L : List Int) (la a : Nat) (h : L.length < a) : fillC (L ++ [(la : Int)]) (a - (L ++ [(la : Int)]).length) la = L ++ List.replicate (a - L.length) (la : Int) := by
  unfold fillC
  rw [List.append_assoc, List.length_append, List.length_singleton]
  obtain ⟨d, hd⟩ : ∃ d, a - L.length = d + 1 := ⟨a - L.length - 1, by omega⟩
  rw [hd, show a - (L.length + 1) = d by omega, List.replicate_succ]
  rfl
theorem stT_more {E : List Value} {n ct : Nat} {kf : Int} {R : Option (List Int)} {i : Nat} {o : List Int} {la a x : Nat} (hct : rsn E 2 1 (rd2 E 1) = ct) (h : StT E n ct kf R i o la) (hi : i < ct) (ha : firstC E (3 * i + 3) = a) (hx : numS E (3 * i + 5) = x)
    (h1 : 3 * i + 6 ≤ E.length) (h2 : (x : Int) < kf) (h3 : a < n) (h4 : i = 0 → a = 0) (h5 : 0 < i → o.length ≤ a) : o.length ≤ a ∧ StT E n ct kf R (i + 1) (fillC o (a - o.length) la ++ [(x : Int)]) x := by
  have hxB : inB 0 (kf - 1) (x : Int) = true := inB_yes (by omega) (by omega)
  rcases h with ⟨rfl, rfl, rfl, h⟩ | ⟨j, L, rfl, rfl, hL, hal, rfl, hj, h⟩
  · obtain rfl := h4 rfl
    refine ⟨by simp, .inr ⟨0, [], rfl, by simp [fillC], by simp only [List.length_nil]; omega, by simp only [fillC, List.length_nil, Nat.sub_zero, List.replicate_zero, List.append_nil, List.nil_append]; rw [allB_one]; exact hxB, hx.symm, h1, ?_⟩⟩
    rw [← h, rdR_zero ha, hct]
    rfl
  · have h5 := h5 (by omega)
    have h6 := h5
    rw [List.length_append, List.length_singleton] at h6
    have ha2 : endS E (3 * j + 5) = a := ha
    have hlaB : inB 0 (kf - 1) ((numS E (3 * j + 5) : Nat) : Int) = true := by rw [allB_app, allB_one, Bool.and_eq_true] at hal; exact hal.2
    have hLB : allB 0 (kf - 1) L = true := by rw [allB_app, Bool.and_eq_true] at hal; exact hal.1
    refine ⟨h5, .inr ⟨j + 1, L ++ List.replicate (a - L.length) ((numS E (3 * j + 5) : Nat) : Int), rfl, by rw [fillC_back _ _ _ (by omega)], by rw [List.length_append, List.length_replicate]; omega, ?_, hx.symm, h1, ?_⟩⟩
    · rw [fillC_back _ _ _ (by omega), allB_app, allB_app, hLB, allB_rep _ hlaB, allB_one, hxB]
      rfl
    · obtain ⟨m, hm⟩ : ∃ m, ct - j = m + 1 := ⟨ct - j - 1, by omega⟩
      rw [hm, selG_more (by omega), ha2] at h
      rw [show ct - (j + 1) = m by omega]
      exact h
theorem stT_end {E : List Value} {n ct : Nat} {kf : Int} {R : Option (List Int)} {o : List Int} {la a : Nat} (hc1 : 1 ≤ ct) (h : StT E n ct kf R ct o la) (ha : firstC E (3 * ct + 3) = a) :
    (E.length < 3 * ct + 5 ∨ a ≠ n → R = none) ∧ (3 * ct + 5 ≤ E.length → a = n → o.length ≤ n ∧ R = some (fillC o (n - o.length) la)) := by
  rcases h with ⟨h0, _⟩ | ⟨j, L, rfl, rfl, hL, hal, rfl, hj, h⟩
  · omega
  · have ha2 : endS E (3 * j + 5) = a := ha
    have hlaB : inB 0 (kf - 1) ((numS E (3 * j + 5) : Nat) : Int) = true := by rw [allB_app, allB_one, Bool.and_eq_true] at hal; exact hal.2
    have hLB : allB 0 (kf - 1) L = true := by rw [allB_app, Bool.and_eq_true] at hal; exact hal.1
    rw [show j + 1 - j = 0 + 1 by omega] at h
    refine ⟨fun hb => ?_, fun h1 h2 => ?_⟩
    · rw [← h]
      by_cases hc : endS E (3 * j + 5) ≤ L.length ∨ n < endS E (3 * j + 5)
      · exact selG_bad hc
      · rcases hb with hb | hb
        · exact selG_far (by omega)
        · rw [selG_more hc]
          unfold selG rrC selF
          simp only
          rw [if_neg (by rw [List.length_append, List.length_replicate]; omega)]
    · rw [selG_more (by omega)] at h
      unfold selG rrC selF at h
      simp only at h
      rw [if_pos ⟨by rw [List.length_append, List.length_replicate]; omega, by omega, by rw [allB_app, hLB, allB_rep _ hlaB]; rfl⟩, ha2, h2] at h
      exact ⟨by rw [List.length_append, List.length_singleton]; omega, by rw [fillC_back _ _ _ (by omega)]; exact h.symm⟩
theorem takeC_mem {E : List Value} {k n i x : Nat} (h : i < n) (hx : rsn E 1 (k + i) (byteAt E (k + i)) = x) : ((x : Nat) : Int) ∈ takeC E k n := by
  unfold takeC
  exact List.mem_map.2 ⟨i, List.mem_range.2 h, by rw [hx]⟩
end Go.Proofs.YteffijgajhngeaaDoor

namespace Go.Proofs.YteffijgajhngeaaDoor
open Go Go.RowKit
set_option linter.unusedVariables false
set_option linter.unusedSimpArgs false
set_option maxRecDepth 100000 in
set_option maxHeartbeats 4000000 in
theorem rsel_0 (A : Option Addr) (c n N : Nat) (kf : Int) (E : List Value) (w : World) (hE : Lists w w.heap.size A E) (h8 : Bytes8 E) (hc : n ≤ c) (hc2 : c ≤ 9223372036854775807) (hm : n ≤ 140737488355328) (hL : E.length = n) (hN1 : 1 ≤ N) (hN2 : N ≤ 5000) (hk1 : 1 ≤ kf) (hk2 : kf ≤ 256) (hx : rsn E 1 0 (rdn E 1 0) = 0) (R : Option (List Int)) (hR : selF E N kf (some (takeC E 1 N, 1 + N)) = R) :
    Calls Tryd.prog 17 #[.slice A n c, .int .i64 (N : Nat), .int .i64 kf] w (RfC w R) := by
  have al : Below w.heap.size w (w.alloc (.cells #[.slice A n c, .int .i64 0, .bool false] 54)) := (Below.refl _ _).alloc (Nat.le_refl _) _
  have r0 : RR (w.alloc (.cells #[.slice A n c, .int .i64 0, .bool false] 54)) w.heap.size w.heap.size E 0 := .inl ⟨Nat.zero_le _, A, c, by rw [hL]; exact Blk.new _ _ _, hE.below al, h8, Nat.zero_le _, by omega, hc2, by omega, Nat.le_refl _⟩
  have CI : ∀ W, RR W w.heap.size w.heap.size E (0) → Calls Tryd.prog 29 #[.pointer (some ⟨w.heap.size, 0, none⟩), .int .i64 1] W (RReadS W w.heap.size w.heap.size E (0 + 1) (0 : Nat)) := fun W r => by have k := rr_un _ _ E (0) 1 W r (by decide) (by decide); rw [hx] at k; exact k
  have hno : R = none → ∀ W, Below w.heap.size w W → RfC w R (.returned (.tuple #[.slice none 0 0, .bool false])) W := fun h W hb => by rw [h]; exact ⟨rfl, hb⟩
  have hyes : ∀ L, R = some L → L.length = N → ∀ A c W, Lists W W.heap.size A (intCells L) → Below w.heap.size w W → RfC w R (.returned (.tuple #[.slice A N c, .bool true])) W := fun L h hl A c W hL hb => by rw [h]; exact ⟨A, c, by rw [hl], Lib.hid hL, hb⟩
  have HNO := Lib.hid hno
  have HY := Lib.hid hyes
  have HL := Lib.hid hL
  have H8 := Lib.hid h8

  have HR := Lib.hid hR
  clear hE hL hx h8 hR hno hyes
  obtain ⟨i0, hi, hz0, hz1, hz2⟩ := info_parts intInfoC
  go_enter Tryd.func17, Tryd.ntmps17
  go_wp2_with (first | (go_at_call 29; ((with_reducible refine (CI _ r0).mono ?_); rintro e w1 ⟨rfl, r1, o1⟩; have B1 := al.trans (o1.to_below al.size (by simp)); have s1 := o1.size; simp only [World.size_alloc] at s1)))
  have HR0 := Lib.hid r1
  have HB0 := Lib.hid B1
  have HA0 := Lib.hid (show allB 0 (kf - 1) (takeC E 1 0) = true from rfl)
  clear r0 r1 o1 al B1 CI
  go_loopw [10, 11] (fun nv iv wr => ∃ i : Nat, iv = .int .i64 (i : Nat) ∧ i ≤ N ∧ Hid (allB 0 (kf - 1) (takeC E 1 i) = true) ∧ Hid (i = 0 ∨ 1 + i ≤ n) ∧ wr.ownsRow (w.heap.size + 1) 3 1 nv i (intCells (takeC E 1 i)) ∧ RR wr w.heap.size w.heap.size E (1 + i) ∧ Below w.heap.size w wr ∧ w.heap.size + 1 ≤ wr.heap.size) (fun _ iv _ => N - (intOf iv).toNat)
  case atStart => exact ⟨0, rfl, Nat.zero_le _, HA0, Lib.hid (.inl rfl), World.ownsRow_nil _ _ _ _, HR0.out, HB0.out, s1⟩
  case round =>
    obtain ⟨i, rfl, hiN, hal, hpos, hown, hr, hbe, hsB⟩ := hrel
    have HBE := Lib.hid hbe
    clear hbe
    by_cases hlt : i < N
    · have d1 : (i : Int) < (N : Int) := by omega
      obtain ⟨x, hx9⟩ : ∃ x, rsn E 1 (1 + i) (byteAt E (1 + i)) = x := ⟨_, rfl⟩
      have CX : ∀ W, RR W w.heap.size w.heap.size E (1 + i) → Calls Tryd.prog 29 #[.pointer (some ⟨w.heap.size, 0, none⟩), .int .i64 1] W (RReadS W w.heap.size w.heap.size E (1 + i + 1) (x : Nat)) := fun W r => by have k := rr_un _ _ E (1 + i) 1 W r (by decide) (by decide); rw [rdn_one, hx9] at k; exact k
      have hxb : x < 256 := by rw [← hx9]; exact rsn_lt (byteAt_lt H8.out _)
      have HX := Lib.hid hx9
      clear hx9
      cases hfl : decide (n < 1 + i + 1)
      · have HFL := Lib.hid hfl
        have hn2 : 1 + i + 1 ≤ n := by have := of_decide_eq_false hfl; omega
        clear hfl
        by_cases hxk : kf ≤ (x : Int)
        · have t1 : (x : Int) ≥ kf := hxk
          have HBad := Lib.hid (show R = none by rw [← HR.out]; unfold selF; simp only; rw [if_neg (by rw [allB_mem (takeC_mem hlt HX.out) (inB_no (by omega))]; simp)])
          clear hxk
          go_wp2_with (first | (go_at_call 29; ((with_reducible refine (CX _ hr).mono ?_); rintro e w3 ⟨rfl, r3, o3⟩; have BB := HBE.out.trans (o3.to_below HBE.out.size (by simp)); have fl := r3.flag; rw [HL.out, HFL.out] at fl)))
          exact bodyPost_ret (v := .tuple #[.slice none 0 0, .bool false]) (by simp [results, Tryd.results17, go_sem]) rfl (HNO.out HBad.out _ BB)
        · have t1 : ¬ (x : Int) ≥ kf := hxk
          have HSN := Lib.hid (show intCells (takeC E 1 (i + 1)) = intCells (takeC E 1 i) ++ [.int .i64 ((x : Nat) : Int)] by rw [takeC_snoc, intCells_snocC, HX.out])
          have HAL := Lib.hid (show allB 0 (kf - 1) (takeC E 1 (i + 1)) = true by rw [takeC_snoc, allB_app, hal.out, allB_one, HX.out, inB_yes (by omega) (by omega)]; rfl)
          have hlow6 := ownC_low hown
          clear hxk hal
          go_wp2_with (first | ((go_at_call 29; ((with_reducible refine (CX _ hr).mono ?_); rintro e w3 ⟨rfl, r3, o3⟩; have BB := HBE.out.trans (o3.to_below HBE.out.size (by simp)); have fl := r3.flag; rw [HL.out, HFL.out] at fl)); have ow5 := own_only hown o3 (fun b hb e => by have := hlow6 b hb; simp at e; omega); have hb6 := BB; have hr6 := r3; have hs6 := Nat.le_trans hsB o3.size) | (at_builtin; refine wpList_append_src _ rfl (.tmp 41) (.tmp 43) 24 rfl (w.heap.size + 1) 3 i0 (.int .i64 0) 1 8 Tryd.underlying24 hi hz0 hz1 hz2 rfl (by decide) u10 (i) (intCells (takeC E 1 i)) rfl (own_only ow5 ((Only.refl w3 []).alloc (.cells #[.int .i64 ((x : Nat) : Int)] 3)) (fun _ _ h => (nomatch h))) (w3.heap.size + 1) (some ⟨w3.heap.size, 0, none⟩) 1 1 [.int .i64 ((x : Nat) : Int)] (by rfl) (lists_row w3 [.int .i64 ((x : Nat) : Int)] 3) rfl (by simp [Value.oneCell']) (by simp only [maxLen]; omega) (by omega) (by simp; omega) ?_; intro v7 w7 own7 hg7 hat7; have o67 : Only w3 w7 (blk u10) := ((Only.refl w3 (blk u10)).alloc _).grown hg7 (fun b hb => .inl (by have hb' : (u10).ownBlock = some b := hb; simp [blk, hb']))))
          go_roundw
          case rel => exact ⟨i + 1, by first | rfl | go_num, by omega, HAL, Lib.hid (.inr (by omega)), by rw [HSN.out]; exact own7, hr6.other o67 (fun hm => by have := hlow6 _ hm; omega) (fun b hb => by have := hlow6 b hb; omega), hb6.trans (o67.to_below hb6.size (fun b hb => by have := hlow6 b hb; omega)), Nat.le_trans hs6 o67.size⟩
          case measure => simp [intOf]; omega
      · have HFL := Lib.hid hfl
        have HBad := Lib.hid (show R = none by rw [← HR.out]; unfold selF; simp only; rw [if_neg (by rw [HL.out]; have := of_decide_eq_true hfl; omega)])
        clear hfl
        go_wp2_with (first | (go_at_call 29; ((with_reducible refine (CX _ hr).mono ?_); rintro e w3 ⟨rfl, r3, o3⟩; have BB := HBE.out.trans (o3.to_below HBE.out.size (by simp)); have fl := r3.flag; rw [HL.out, HFL.out] at fl)))
        exact bodyPost_ret (v := .tuple #[.slice none 0 0, .bool false]) (by simp [results, Tryd.results17, go_sem]) rfl (HNO.out HBad.out _ BB)
    · have d1 : ¬ (i : Int) < (N : Int) := by omega
      obtain rfl : i = N := by omega
      obtain ⟨A9, c9, rfl, hl9, hc9⟩ := own_lists hown
      have HL9 := Lib.hid hl9
      clear hl9
      have HF2 := Lib.hid (HY.out (takeC E 1 i) (by rw [← HR.out]; unfold selF; simp only; rw [if_pos ⟨takeC_len _ _ _, by rw [HL.out]; rcases hpos.out with h | h <;> omega, hal.out⟩]) (takeC_len _ _ _) A9 c9 wr HL9.out HBE.out)
      go_wp2
      exact bodyPost_ret (v := .tuple #[.slice A9 i c9, .bool true]) (by simp [results, Tryd.results17, go_sem]) rfl HF2.out
end Go.Proofs.YteffijgajhngeaaDoor

namespace Go.Proofs.YteffijgajhngeaaDoor
open Go Go.RowKit
set_option linter.unusedVariables false
set_option linter.unusedSimpArgs false
set_option maxRecDepth 100000 in
set_option maxHeartbeats 4000000 in
theorem rsel_3 (A : Option Addr) (c n N : Nat) (kf : Int) (E : List Value) (w : World) (hE : Lists w w.heap.size A E) (h8 : Bytes8 E) (hc : n ≤ c) (hc2 : c ≤ 9223372036854775807) (hm : n ≤ 140737488355328) (hL : E.length = n) (hN1 : 1 ≤ N) (hN2 : N ≤ 5000) (hk1 : 1 ≤ kf) (hk2 : kf ≤ 256) (ct : Nat) (hu : decide (n < 0 + 1 + 2) = false) (hx : rsn E 1 0 (rdn E 1 0) = 3) (hct : rsn E 2 1 (rd2 E 1) = ct) (hct1 : 1 ≤ ct) (hct2 : ct < 65536) (R : Option (List Int)) (hR : selF E N kf (rdR E N 1) = R) :
    Calls Tryd.prog 17 #[.slice A n c, .int .i64 (N : Nat), .int .i64 kf] w (RfC w R) := by
  have al : Below w.heap.size w (w.alloc (.cells #[.slice A n c, .int .i64 0, .bool false] 54)) := (Below.refl _ _).alloc (Nat.le_refl _) _
  have r0 : RR (w.alloc (.cells #[.slice A n c, .int .i64 0, .bool false] 54)) w.heap.size w.heap.size E 0 := .inl ⟨Nat.zero_le _, A, c, by rw [hL]; exact Blk.new _ _ _, hE.below al, h8, Nat.zero_le _, by omega, hc2, by omega, Nat.le_refl _⟩
  have CI : ∀ W, RR W w.heap.size w.heap.size E (0) → Calls Tryd.prog 29 #[.pointer (some ⟨w.heap.size, 0, none⟩), .int .i64 1] W (RReadS W w.heap.size w.heap.size E (0 + 1) (3 : Nat)) := fun W r => by have k := rr_un _ _ E (0) 1 W r (by decide) (by decide); rw [hx] at k; exact k
  have CT : ∀ W, RR W w.heap.size w.heap.size E (0 + 1) → Calls Tryd.prog 29 #[.pointer (some ⟨w.heap.size, 0, none⟩), .int .i64 2] W (RReadS W w.heap.size w.heap.size E (0 + 1 + 2) (ct : Nat)) := fun W r => by have k := rr_un _ _ E (0 + 1) 2 W r (by decide) (by decide); rw [show rsn E 2 (0 + 1) (rdn E 2 (0 + 1)) = ct by rw [rdn_two]; exact hct] at k; exact k
  have hno : R = none → ∀ W, Below w.heap.size w W → RfC w R (.returned (.tuple #[.slice none 0 0, .bool false])) W := fun h W hb => by rw [h]; exact ⟨rfl, hb⟩
  have hyes : ∀ L, R = some L → L.length = N → ∀ A c W, Lists W W.heap.size A (intCells L) → Below w.heap.size w W → RfC w R (.returned (.tuple #[.slice A N c, .bool true])) W := fun L h hl A c W hL hb => by rw [h]; exact ⟨A, c, by rw [hl], Lib.hid hL, hb⟩
  have HNO := Lib.hid hno
  have HY := Lib.hid hyes
  have HL := Lib.hid hL
  have H8 := Lib.hid h8

  have HF := Lib.hid hu
  have HCT := Lib.hid hct
  have HST0 := Lib.hid (show StT E N ct kf R 0 [] 0 from .inl ⟨rfl, rfl, rfl, hR⟩)
  have t0 : ¬ (ct : Int) < 1 := by omega
  clear hE hL hx h8 hR hno hyes hct hu
  obtain ⟨i0, hi, hz0, hz1, hz2⟩ := info_parts intInfoC
  go_enter Tryd.func17, Tryd.ntmps17
  go_wp2_with (first | (go_at_call 29; ((with_reducible refine (CI _ r0).mono ?_); rintro e w1 ⟨rfl, r1, o1⟩; have B1 := al.trans (o1.to_below al.size (by simp)); have s1 := o1.size; simp only [World.size_alloc] at s1)) | (go_at_call 29; ((with_reducible refine (CT _ r1).mono ?_); rintro e w2 ⟨rfl, r2, o2⟩; have B2 := B1.trans (o2.to_below B1.size (by simp)); have s2 := Nat.le_trans s1 o2.size; have fl := r2.flag; rw [HL.out, HF.out] at fl)))
  have HR0 := Lib.hid r2
  have HB0 := Lib.hid B2
  clear r0 r1 r2 o1 o2 al B1 B2 CI CT fl t0
  go_loopw [10, 14, 15] (fun nv lv iv wr => ∃ (i la ll : Nat) (o : List Int), iv = .int .i64 (i : Nat) ∧ lv = .int .i64 (la : Nat) ∧ i ≤ ct ∧ Hid (StT E N ct kf R i o la) ∧ Hid (o.length = ll) ∧ ll ≤ N ∧ wr.ownsRow (w.heap.size + 1) 3 1 nv ll (intCells o) ∧ RR wr w.heap.size w.heap.size E (3 * i + 3) ∧ Below w.heap.size w wr ∧ w.heap.size + 1 ≤ wr.heap.size) (fun _ _ iv _ => ct - (intOf iv).toNat)
  case atStart => exact ⟨0, 0, 0, [], rfl, rfl, Nat.zero_le _, HST0, Lib.hid rfl, Nat.zero_le _, World.ownsRow_nil _ _ _ _, HR0.out, HB0.out, s2⟩
  case round =>
    obtain ⟨i, la, ll, o, rfl, rfl, hict, HS, HLL, hlN, hown, hr, hbe, hsB⟩ := hrel
    have HBE := Lib.hid hbe
    clear hbe
    obtain ⟨A9, c9, rfl, hl9, hc9⟩ := own_lists hown
    clear hl9
    by_cases hlt : i < ct
    · have d1 : (i : Int) < (ct : Int) := by omega
      obtain ⟨a, ha⟩ : ∃ a, firstC E (3 * i + 3) = a := ⟨_, rfl⟩
      obtain ⟨x, hx9⟩ : ∃ x, numS E (3 * i + 5) = x := ⟨_, rfl⟩
      have hab : a < 65536 := by rw [← ha]; exact firstC_lt H8.out _
      have hxb : x < 256 := by rw [← hx9]; exact numS_lt H8.out _
      have CA : ∀ W, RR W w.heap.size w.heap.size E (3 * i + 3) → Calls Tryd.prog 29 #[.pointer (some ⟨w.heap.size, 0, none⟩), .int .i64 2] W (RReadS W w.heap.size w.heap.size E (3 * i + 3 + 2) (a : Nat)) := fun W r => by have k := rr_un _ _ E (3 * i + 3) 2 W r (by decide) (by decide); rw [rdn_two, show rsn E 2 (3 * i + 3) (rd2 E (3 * i + 3)) = a from ha] at k; exact k
      have CB : ∀ W, RR W w.heap.size w.heap.size E (3 * i + 3 + 2) → Calls Tryd.prog 29 #[.pointer (some ⟨w.heap.size, 0, none⟩), .int .i64 1] W (RReadS W w.heap.size w.heap.size E (3 * i + 3 + 2 + 1) (x : Nat)) := fun W r => by have k := rr_un _ _ E (3 * i + 3 + 2) 1 W r (by decide) (by decide); rw [rdn_one, show rsn E 1 (3 * i + 3 + 2) (byteAt E (3 * i + 3 + 2)) = x from hx9] at k; exact k
      have hbad := stT_bad HCT.out hN1 HS.out hlt ha hx9
      have hmore := stT_more HCT.out HS.out hlt ha hx9
      rw [HLL.out, HL.out] at hbad
      rw [HLL.out, HL.out] at hmore
      have e5 : IntKind.i64.wrap ((ll : Int) - 1) = (ll : Int) - 1 := IntWalk.i64_in _ (by omega)
      clear ha hx9
      cases hfl : decide (n < 3 * i + 3 + 2 + 1)
      · have HFL := Lib.hid hfl
        have hn2 : 3 * i + 6 ≤ n := by have := of_decide_eq_false hfl; omega
        clear hfl
        by_cases hxk : kf ≤ (x : Int)
        · have t1 : (x : Int) ≥ kf := hxk
          have HBad := Lib.hid (show R = none from hbad (.inr (.inl hxk)))
          clear hbad hmore
          go_wp2_with (first | (go_at_call 29; ((with_reducible refine (CA _ hr).mono ?_); rintro e w3 ⟨rfl, r3, o3⟩)) | (go_at_call 29; ((with_reducible refine (CB _ r3).mono ?_); rintro e w4 ⟨rfl, r4, o4⟩; have o34 := o3.trans o4 (fun b hb => .inl hb); have BB := HBE.out.trans (o34.to_below HBE.out.size (by simp)); have fl := r4.flag; rw [HL.out, HFL.out] at fl)))
          exact bodyPost_ret (v := .tuple #[.slice none 0 0, .bool false]) (by simp [results, Tryd.results17, go_sem]) rfl (HNO.out HBad.out _ BB)
        · have t1 : ¬ (x : Int) ≥ kf := hxk
          have t1b : (x : Int) < kf := by omega
          have hmore := hmore hn2 t1b
          clear t1b hxk
          by_cases haN : N ≤ a
          · have t2 : (a : Int) ≥ (N : Int) := by omega
            have HBad := Lib.hid (show R = none from hbad (.inr (.inr (.inl haN))))
            clear hbad hmore
            go_wp2_with (first | (go_at_call 29; ((with_reducible refine (CA _ hr).mono ?_); rintro e w3 ⟨rfl, r3, o3⟩)) | (go_at_call 29; ((with_reducible refine (CB _ r3).mono ?_); rintro e w4 ⟨rfl, r4, o4⟩; have o34 := o3.trans o4 (fun b hb => .inl hb); have BB := HBE.out.trans (o34.to_below HBE.out.size (by simp)); have fl := r4.flag; rw [HL.out, HFL.out] at fl)))
            exact bodyPost_ret (v := .tuple #[.slice none 0 0, .bool false]) (by simp [results, Tryd.results17, go_sem]) rfl (HNO.out HBad.out _ BB)
          · have t2 : ¬ (a : Int) ≥ (N : Int) := by omega
            have hmore := hmore (by omega)
            by_cases hi0 : i < 1
            · have t3 : ((i : Int) == 0) = true := by simp; omega
              have t4 : ¬ (i : Int) > 0 := by omega
              by_cases ha0 : a < 1
              · have t5 : ((a : Int) != 0) = false := by simp; omega
                skip
                have hst := hmore (fun _ => by omega) (fun h => by omega)
                have HST := Lib.hid hst.2
                have hle := hst.1
                clear hbad hmore hst
                go_wp2_with (first | (go_at_call 29; ((with_reducible refine (CA _ hr).mono ?_); rintro e w3 ⟨rfl, r3, o3⟩)) | (go_at_call 29; ((with_reducible refine (CB _ r3).mono ?_); rintro e w4 ⟨rfl, r4, o4⟩; have o34 := o3.trans o4 (fun b hb => .inl hb); have BB := HBE.out.trans (o34.to_below HBE.out.size (by simp)); have fl := r4.flag; rw [HL.out, HFL.out] at fl)))
                have ow5 := own_only hown o34 (fun b hb e => by have := ownC_low hown b hb; simp at e; omega)
                have HO5 := Lib.hid ow5
                have HR5 := Lib.hid r4
                have HB5 := Lib.hid BB
                have hs5 := Nat.le_trans hsB o34.size
                clear hown ow5 r4 BB hr r3 o3 o34 CA fl CB o4
                go_loopw [10] (fun nv w6 => ∃ d : Nat, d ≤ a - ll ∧ w6.ownsRow (w.heap.size + 1) 3 1 nv (ll + d) (intCells (fillC o d la)) ∧ RR w6 w.heap.size w.heap.size E (3 * i + 3 + 2 + 1) ∧ Below w.heap.size w w6 ∧ w.heap.size + 1 ≤ w6.heap.size) (fun nv _ => a - sLenC nv)
                case atStart => exact ⟨0, Nat.zero_le _, by rw [fillC_zero]; exact HO5.out, HR5.out, HB5.out, hs5⟩
                case round =>
                  obtain ⟨d, hd, hown5, hr6, hb6, hs6⟩ := hrel
                  obtain ⟨A7, c7, rfl, hl7, hc7⟩ := own_lists hown5
                  have hlow6 := ownC_low hown5
                  clear hl7
                  by_cases hl2 : ll + d < a
                  · omega
                  · have l1 : ¬ ((ll + d : Nat) : Int) < (a : Int) := by omega
                    have l2 : ¬ (ll : Int) + (d : Int) < (a : Int) := by omega
                    have HDD := Lib.hid (show d = a - ll by omega)
                    have hlN2 : ll + d + 1 ≤ N := by omega
                    have HSN := Lib.hid (intCells_snocC (fillC o d la) (x : Int))
                    have HLN := Lib.hid (show (fillC o d la ++ [(x : Int)]).length = ll + d + 1 by rw [List.length_append, fillC_len, HLL.out]; rfl)
                    have HST2 := Lib.hid (show StT E N ct kf R (i + 1) (fillC o d la ++ [(x : Int)]) x by rw [HDD.out]; exact HST.out)
                    go_wp2_with (first | (at_builtin; refine wpList_append_src _ rfl (.tmp 110) (.tmp 112) 24 rfl (w.heap.size + 1) 3 i0 (.int .i64 0) 1 8 Tryd.underlying24 hi hz0 hz1 hz2 rfl (by decide) (Value.slice A7 (ll + d) c7) (ll + d) (intCells (fillC o d la)) rfl (own_only hown5 ((Only.refl wr []).alloc (.cells #[.int .i64 ((x : Nat) : Int)] 3)) (fun _ _ h => (nomatch h))) (wr.heap.size + 1) (some ⟨wr.heap.size, 0, none⟩) 1 1 [.int .i64 ((x : Nat) : Int)] (by rfl) (lists_row wr [.int .i64 ((x : Nat) : Int)] 3) rfl (by simp [Value.oneCell']) (by simp only [maxLen]; omega) (by omega) (by simp; omega) ?_; intro v7 w7 own7 hg7 hat7; have o67 : Only wr w7 (blk (Value.slice A7 (ll + d) c7)) := ((Only.refl wr (blk (Value.slice A7 (ll + d) c7))).alloc _).grown hg7 (fun b hb => .inl (by have hb' : ((Value.slice A7 (ll + d) c7)).ownBlock = some b := hb; simp [blk, hb']))))
                    go_roundw
                    case rel => exact ⟨i + 1, x, ll + d + 1, fillC o d la ++ [(x : Int)], by first | rfl | go_num, rfl, by omega, HST2, HLN, by omega, by rw [HSN.out]; exact own7, hr6.other o67 (fun hm => by have := hlow6 _ hm; omega) (fun b hb => by have := hlow6 b hb; omega), hb6.trans (o67.to_below hb6.size (fun b hb => by have := hlow6 b hb; omega)), Nat.le_trans hs6 o67.size⟩
                    case measure => simp [intOf]; omega
              · have t5 : ((a : Int) != 0) = true := by simp; omega
                have HBad := Lib.hid (show R = none from hbad (.inr (.inr (.inr (.inl ⟨by omega, by omega⟩)))))
                clear hbad hmore
                go_wp2_with (first | (go_at_call 29; ((with_reducible refine (CA _ hr).mono ?_); rintro e w3 ⟨rfl, r3, o3⟩)) | (go_at_call 29; ((with_reducible refine (CB _ r3).mono ?_); rintro e w4 ⟨rfl, r4, o4⟩; have o34 := o3.trans o4 (fun b hb => .inl hb); have BB := HBE.out.trans (o34.to_below HBE.out.size (by simp)); have fl := r4.flag; rw [HL.out, HFL.out] at fl)))
                exact bodyPost_ret (v := .tuple #[.slice none 0 0, .bool false]) (by simp [results, Tryd.results17, go_sem]) rfl (HNO.out HBad.out _ BB)
            · have t3 : ((i : Int) == 0) = false := by simp; omega
              have t4 : (i : Int) > 0 := by omega
              by_cases hao : a + 1 ≤ ll
              · have t5 : (a : Int) ≤ (ll : Int) - 1 := by omega
                have HBad := Lib.hid (show R = none from hbad (.inr (.inr (.inr (.inr ⟨by omega, hao⟩)))))
                clear hbad hmore
                go_wp2_with (first | (go_at_call 29; ((with_reducible refine (CA _ hr).mono ?_); rintro e w3 ⟨rfl, r3, o3⟩)) | (go_at_call 29; ((with_reducible refine (CB _ r3).mono ?_); rintro e w4 ⟨rfl, r4, o4⟩; have o34 := o3.trans o4 (fun b hb => .inl hb); have BB := HBE.out.trans (o34.to_below HBE.out.size (by simp)); have fl := r4.flag; rw [HL.out, HFL.out] at fl)))
                exact bodyPost_ret (v := .tuple #[.slice none 0 0, .bool false]) (by simp [results, Tryd.results17, go_sem]) rfl (HNO.out HBad.out _ BB)
              · have t5 : ¬ (a : Int) ≤ (ll : Int) - 1 := by omega
                skip
                have hst := hmore (fun h => by omega) (fun _ => by omega)
                have HST := Lib.hid hst.2
                have hle := hst.1
                clear hbad hmore hst
                go_wp2_with (first | (go_at_call 29; ((with_reducible refine (CA _ hr).mono ?_); rintro e w3 ⟨rfl, r3, o3⟩)) | (go_at_call 29; ((with_reducible refine (CB _ r3).mono ?_); rintro e w4 ⟨rfl, r4, o4⟩; have o34 := o3.trans o4 (fun b hb => .inl hb); have BB := HBE.out.trans (o34.to_below HBE.out.size (by simp)); have fl := r4.flag; rw [HL.out, HFL.out] at fl)))
                have ow5 := own_only hown o34 (fun b hb e => by have := ownC_low hown b hb; simp at e; omega)
                have HO5 := Lib.hid ow5
                have HR5 := Lib.hid r4
                have HB5 := Lib.hid BB
                have hs5 := Nat.le_trans hsB o34.size
                clear hown ow5 r4 BB hr r3 o3 o34 CA fl CB o4
                go_loopw [10] (fun nv w6 => ∃ d : Nat, d ≤ a - ll ∧ w6.ownsRow (w.heap.size + 1) 3 1 nv (ll + d) (intCells (fillC o d la)) ∧ RR w6 w.heap.size w.heap.size E (3 * i + 3 + 2 + 1) ∧ Below w.heap.size w w6 ∧ w.heap.size + 1 ≤ w6.heap.size) (fun nv _ => a - sLenC nv)
                case atStart => exact ⟨0, Nat.zero_le _, by rw [fillC_zero]; exact HO5.out, HR5.out, HB5.out, hs5⟩
                case round =>
                  obtain ⟨d, hd, hown5, hr6, hb6, hs6⟩ := hrel
                  obtain ⟨A7, c7, rfl, hl7, hc7⟩ := own_lists hown5
                  have hlow6 := ownC_low hown5
                  clear hl7
                  by_cases hl2 : ll + d < a
                  · have l1 : ((ll + d : Nat) : Int) < (a : Int) := by omega
                    have l2 : (ll : Int) + (d : Int) < (a : Int) := by omega
                    have HSN := Lib.hid (fillC_snoc o d la)
                    go_wp2_with (first | (at_builtin; refine wpList_append_src _ rfl (.tmp 106) (.tmp 108) 24 rfl (w.heap.size + 1) 3 i0 (.int .i64 0) 1 8 Tryd.underlying24 hi hz0 hz1 hz2 rfl (by decide) (Value.slice A7 (ll + d) c7) (ll + d) (intCells (fillC o d la)) rfl (own_only hown5 ((Only.refl wr []).alloc (.cells #[.int .i64 ((la : Nat) : Int)] 3)) (fun _ _ h => (nomatch h))) (wr.heap.size + 1) (some ⟨wr.heap.size, 0, none⟩) 1 1 [.int .i64 ((la : Nat) : Int)] (by rfl) (lists_row wr [.int .i64 ((la : Nat) : Int)] 3) rfl (by simp [Value.oneCell']) (by simp only [maxLen]; omega) (by omega) (by simp; omega) ?_; intro v7 w7 own7 hg7 hat7; have o67 : Only wr w7 (blk (Value.slice A7 (ll + d) c7)) := ((Only.refl wr (blk (Value.slice A7 (ll + d) c7))).alloc _).grown hg7 (fun b hb => .inl (by have hb' : ((Value.slice A7 (ll + d) c7)).ownBlock = some b := hb; simp [blk, hb']))))
                    obtain ⟨A8, c8, rfl, hl8, hc8⟩ := own_lists own7
                    clear hl8
                    go_roundw
                    case rel => exact ⟨d + 1, by omega, by rw [HSN.out]; exact own7, hr6.other o67 (fun hm => by have := hlow6 _ hm; omega) (fun b hb => by have := hlow6 b hb; omega), hb6.trans (o67.to_below hb6.size (fun b hb => by have := hlow6 b hb; omega)), Nat.le_trans hs6 o67.size⟩
                    case measure => simp [sLenC]; omega
                  · have l1 : ¬ ((ll + d : Nat) : Int) < (a : Int) := by omega
                    have l2 : ¬ (ll : Int) + (d : Int) < (a : Int) := by omega
                    have HDD := Lib.hid (show d = a - ll by omega)
                    have hlN2 : ll + d + 1 ≤ N := by omega
                    have HSN := Lib.hid (intCells_snocC (fillC o d la) (x : Int))
                    have HLN := Lib.hid (show (fillC o d la ++ [(x : Int)]).length = ll + d + 1 by rw [List.length_append, fillC_len, HLL.out]; rfl)
                    have HST2 := Lib.hid (show StT E N ct kf R (i + 1) (fillC o d la ++ [(x : Int)]) x by rw [HDD.out]; exact HST.out)
                    go_wp2_with (first | (at_builtin; refine wpList_append_src _ rfl (.tmp 110) (.tmp 112) 24 rfl (w.heap.size + 1) 3 i0 (.int .i64 0) 1 8 Tryd.underlying24 hi hz0 hz1 hz2 rfl (by decide) (Value.slice A7 (ll + d) c7) (ll + d) (intCells (fillC o d la)) rfl (own_only hown5 ((Only.refl wr []).alloc (.cells #[.int .i64 ((x : Nat) : Int)] 3)) (fun _ _ h => (nomatch h))) (wr.heap.size + 1) (some ⟨wr.heap.size, 0, none⟩) 1 1 [.int .i64 ((x : Nat) : Int)] (by rfl) (lists_row wr [.int .i64 ((x : Nat) : Int)] 3) rfl (by simp [Value.oneCell']) (by simp only [maxLen]; omega) (by omega) (by simp; omega) ?_; intro v7 w7 own7 hg7 hat7; have o67 : Only wr w7 (blk (Value.slice A7 (ll + d) c7)) := ((Only.refl wr (blk (Value.slice A7 (ll + d) c7))).alloc _).grown hg7 (fun b hb => .inl (by have hb' : ((Value.slice A7 (ll + d) c7)).ownBlock = some b := hb; simp [blk, hb']))))
                    go_roundw
                    case rel => exact ⟨i + 1, x, ll + d + 1, fillC o d la ++ [(x : Int)], by first | rfl | go_num, rfl, by omega, HST2, HLN, by omega, by rw [HSN.out]; exact own7, hr6.other o67 (fun hm => by have := hlow6 _ hm; omega) (fun b hb => by have := hlow6 b hb; omega), hb6.trans (o67.to_below hb6.size (fun b hb => by have := hlow6 b hb; omega)), Nat.le_trans hs6 o67.size⟩
                    case measure => simp [intOf]; omega
      · have HFL := Lib.hid hfl
        have HBad := Lib.hid (show R = none from hbad (.inl (by have := of_decide_eq_true hfl; omega)))
        clear hbad hmore hfl
        go_wp2_with (first | (go_at_call 29; ((with_reducible refine (CA _ hr).mono ?_); rintro e w3 ⟨rfl, r3, o3⟩)) | (go_at_call 29; ((with_reducible refine (CB _ r3).mono ?_); rintro e w4 ⟨rfl, r4, o4⟩; have o34 := o3.trans o4 (fun b hb => .inl hb); have BB := HBE.out.trans (o34.to_below HBE.out.size (by simp)); have fl := r4.flag; rw [HL.out, HFL.out] at fl)))
        exact bodyPost_ret (v := .tuple #[.slice none 0 0, .bool false]) (by simp [results, Tryd.results17, go_sem]) rfl (HNO.out HBad.out _ BB)
    · have d1 : ¬ (i : Int) < (ct : Int) := by omega
      obtain rfl : i = ct := by omega
      obtain ⟨a, ha⟩ : ∃ a, firstC E (3 * i + 3) = a := ⟨_, rfl⟩
      have CE : ∀ W, RR W w.heap.size w.heap.size E (3 * i + 3) → Calls Tryd.prog 29 #[.pointer (some ⟨w.heap.size, 0, none⟩), .int .i64 2] W (RReadS W w.heap.size w.heap.size E (3 * i + 3 + 2) (a : Nat)) := fun W r => by have k := rr_un _ _ E (3 * i + 3) 2 W r (by decide) (by decide); rw [rdn_two, show rsn E 2 (3 * i + 3) (rd2 E (3 * i + 3)) = a from ha] at k; exact k
      have hend := stT_end hct1 HS.out ha
      rw [HLL.out, HL.out] at hend
      obtain ⟨hbad, hyes⟩ := hend
      clear ha
      cases hfl : decide (n < 3 * i + 3 + 2)
      · have HFL := Lib.hid hfl
        have hn2 : 3 * i + 5 ≤ n := by have := of_decide_eq_false hfl; omega
        clear hfl
        by_cases haN : a = N
        · have t1 : ((a : Int) != (N : Int)) = false := by simp; omega
          obtain ⟨hle, hR9⟩ := hyes hn2 haN
          have HR9 := Lib.hid hR9
          clear hbad hyes hR9 haN
          go_wp2_with (first | (go_at_call 29; ((with_reducible refine (CE _ hr).mono ?_); rintro e w3 ⟨rfl, r3, o3⟩; have BB := HBE.out.trans (o3.to_below HBE.out.size (by simp)); have fl := r3.flag; rw [HL.out, HFL.out] at fl)))
          have ow5 := own_only hown o3 (fun b hb e => by have := ownC_low hown b hb; simp at e; omega)
          have HO5 := Lib.hid ow5
          have HB5 := Lib.hid BB
          have hs5 := Nat.le_trans hsB o3.size
          clear hown ow5 BB hr r3 o3 CE fl
          go_loopw [10] (fun nv w6 => ∃ d : Nat, d ≤ N - ll ∧ w6.ownsRow (w.heap.size + 1) 3 1 nv (ll + d) (intCells (fillC o d la)) ∧ Below w.heap.size w w6 ∧ w.heap.size + 1 ≤ w6.heap.size) (fun nv _ => N - sLenC nv)
          case atStart => exact ⟨0, Nat.zero_le _, by rw [fillC_zero]; exact HO5.out, HB5.out, hs5⟩
          case round =>
            obtain ⟨d, hd, hown5, hb6, hs6⟩ := hrel
            obtain ⟨A7, c7, rfl, hl7, hc7⟩ := own_lists hown5
            have hlow6 := ownC_low hown5
            have HL7 := Lib.hid hl7
            clear hl7
            by_cases hl2 : ll + d < N
            · have l1 : ((ll + d : Nat) : Int) < (N : Int) := by omega
              have l2 : (ll : Int) + (d : Int) < (N : Int) := by omega
              have HSN := Lib.hid (fillC_snoc o d la)
              go_wp2_with (first | (at_builtin; refine wpList_append_src _ rfl (.tmp 129) (.tmp 131) 24 rfl (w.heap.size + 1) 3 i0 (.int .i64 0) 1 8 Tryd.underlying24 hi hz0 hz1 hz2 rfl (by decide) (Value.slice A7 (ll + d) c7) (ll + d) (intCells (fillC o d la)) rfl (own_only hown5 ((Only.refl wr []).alloc (.cells #[.int .i64 ((la : Nat) : Int)] 3)) (fun _ _ h => (nomatch h))) (wr.heap.size + 1) (some ⟨wr.heap.size, 0, none⟩) 1 1 [.int .i64 ((la : Nat) : Int)] (by rfl) (lists_row wr [.int .i64 ((la : Nat) : Int)] 3) rfl (by simp [Value.oneCell']) (by simp only [maxLen]; omega) (by omega) (by simp; omega) ?_; intro v7 w7 own7 hg7 hat7; have o67 : Only wr w7 (blk (Value.slice A7 (ll + d) c7)) := ((Only.refl wr (blk (Value.slice A7 (ll + d) c7))).alloc _).grown hg7 (fun b hb => .inl (by have hb' : ((Value.slice A7 (ll + d) c7)).ownBlock = some b := hb; simp [blk, hb']))))
              obtain ⟨A8, c8, rfl, hl8, hc8⟩ := own_lists own7
              clear hl8
              go_roundw
              case rel => exact ⟨d + 1, by omega, by rw [HSN.out]; exact own7, hb6.trans (o67.to_below hb6.size (fun b hb => by have := hlow6 b hb; omega)), Nat.le_trans hs6 o67.size⟩
              case measure => simp [sLenC]; omega
            · have l1 : ¬ ((ll + d : Nat) : Int) < (N : Int) := by omega
              have l2 : ¬ (ll : Int) + (d : Int) < (N : Int) := by omega
              have e9 := Lib.hid (show ll + d = N by omega)
              have HF2 := Lib.hid (HY.out (fillC o d la) (by rw [HR9.out, show N - ll = d by omega]) (by rw [fillC_len, HLL.out]; exact e9.out) A7 c7 wr HL7.out hb6)
              rw [← e9.out] at HF2
              go_wp2
              exact bodyPost_ret (v := .tuple #[.slice A7 (ll + d) c7, .bool true]) (by simp [results, Tryd.results17, go_sem]) rfl HF2.out
        · have t1 : ((a : Int) != (N : Int)) = true := by simp; omega
          have HBad := Lib.hid (show R = none from hbad (.inr haN))
          clear hbad hyes
          go_wp2_with (first | (go_at_call 29; ((with_reducible refine (CE _ hr).mono ?_); rintro e w3 ⟨rfl, r3, o3⟩; have BB := HBE.out.trans (o3.to_below HBE.out.size (by simp)); have fl := r3.flag; rw [HL.out, HFL.out] at fl)))
          exact bodyPost_ret (v := .tuple #[.slice none 0 0, .bool false]) (by simp [results, Tryd.results17, go_sem]) rfl (HNO.out HBad.out _ BB)
      · have HFL := Lib.hid hfl
        have HBad := Lib.hid (show R = none from hbad (.inl (by have := of_decide_eq_true hfl; omega)))
        clear hbad hyes hfl
        cases haN : decide (a = N)
        · have haN := of_decide_eq_false haN
          have t1 : ((a : Int) != (N : Int)) = true := by simp; omega
          go_wp2_with (first | (go_at_call 29; ((with_reducible refine (CE _ hr).mono ?_); rintro e w3 ⟨rfl, r3, o3⟩; have BB := HBE.out.trans (o3.to_below HBE.out.size (by simp)); have fl := r3.flag; rw [HL.out, HFL.out] at fl)))
          exact bodyPost_ret (v := .tuple #[.slice none 0 0, .bool false]) (by simp [results, Tryd.results17, go_sem]) rfl (HNO.out HBad.out _ BB)
        · have t1 : ((a : Int) != (N : Int)) = false := by have haN := of_decide_eq_true haN; simp; omega
          clear haN
          go_wp2_with (first | (go_at_call 29; ((with_reducible refine (CE _ hr).mono ?_); rintro e w3 ⟨rfl, r3, o3⟩; have BB := HBE.out.trans (o3.to_below HBE.out.size (by simp)); have fl := r3.flag; rw [HL.out, HFL.out] at fl)))
          exact bodyPost_ret (v := .tuple #[.slice none 0 0, .bool false]) (by simp [results, Tryd.results17, go_sem]) rfl (HNO.out HBad.out _ BB)
end Go.Proofs.YteffijgajhngeaaDoor

namespace Go.Proofs.YteffijgajhngeaaDoor
open Go Go.RowKit
set_option linter.unusedVariables false
set_option linter.unusedSimpArgs false
set_option maxRecDepth 100000 in
set_option maxHeartbeats 4000000 in
theorem rsel_bad (A : Option Addr) (c n N : Nat) (kf : Int) (E : List Value) (w : World) (hE : Lists w w.heap.size A E) (h8 : Bytes8 E) (hc : n ≤ c) (hc2 : c ≤ 9223372036854775807) (hm : n ≤ 140737488355328) (hL : E.length = n) (hN1 : 1 ≤ N) (hN2 : N ≤ 5000) (hk1 : 1 ≤ kf) (hk2 : kf ≤ 256) (x ct : Nat) (u : Bool) (hu : decide (n < 0 + 1 + 2) = u) (hx : rsn E 1 0 (rdn E 1 0) = x) (hct : rsn E 2 1 (rd2 E 1) = ct) (hx0 : x ≠ 0) (hb : u = true ∨ x ≠ 3 ∨ ct < 1) :
    Calls Tryd.prog 17 #[.slice A n c, .int .i64 (N : Nat), .int .i64 kf] w fun e w' => e = .returned (.tuple #[.slice none 0 0, .bool false]) ∧ Below w.heap.size w w' := by
  have al : Below w.heap.size w (w.alloc (.cells #[.slice A n c, .int .i64 0, .bool false] 54)) := (Below.refl _ _).alloc (Nat.le_refl _) _
  have r0 : RR (w.alloc (.cells #[.slice A n c, .int .i64 0, .bool false] 54)) w.heap.size w.heap.size E 0 := .inl ⟨Nat.zero_le _, A, c, by rw [hL]; exact Blk.new _ _ _, hE.below al, h8, Nat.zero_le _, by omega, hc2, by omega, Nat.le_refl _⟩
  have CI : ∀ W, RR W w.heap.size w.heap.size E (0) → Calls Tryd.prog 29 #[.pointer (some ⟨w.heap.size, 0, none⟩), .int .i64 1] W (RReadS W w.heap.size w.heap.size E (0 + 1) (x : Nat)) := fun W r => by have k := rr_un _ _ E (0) 1 W r (by decide) (by decide); rw [hx] at k; exact k
  have CT : ∀ W, RR W w.heap.size w.heap.size E (0 + 1) → Calls Tryd.prog 29 #[.pointer (some ⟨w.heap.size, 0, none⟩), .int .i64 2] W (RReadS W w.heap.size w.heap.size E (0 + 1 + 2) (ct : Nat)) := fun W r => by have k := rr_un _ _ E (0 + 1) 2 W r (by decide) (by decide); rw [show rsn E 2 (0 + 1) (rdn E 2 (0 + 1)) = ct by rw [rdn_two]; exact hct] at k; exact k
  have HL := Lib.hid hL
  have HF := Lib.hid hu
  have e0 : ((x : Int) == 0) = false := by simp; omega
  clear hE hc hc2 hm hL hu hx h8 hct
  cases u
  · by_cases h3 : x = 3
    · have e3 : ((x : Int) != 3) = false := by simp; omega
      have t1 : (ct : Int) < 1 := by rcases hb with h | h | h; cases h; exact absurd h3 h; omega
      clear hb
      go_enter Tryd.func17, Tryd.ntmps17
      go_wp2_with (first | (go_at_call 29; ((with_reducible refine (CI _ r0).mono ?_); rintro e w1 ⟨rfl, r1, o1⟩; have B1 := al.trans (o1.to_below al.size (by simp)); have s1 := o1.size; simp only [World.size_alloc] at s1)) | (go_at_call 29; ((with_reducible refine (CT _ r1).mono ?_); rintro e w2 ⟨rfl, r2, o2⟩; have B2 := B1.trans (o2.to_below B1.size (by simp)); have s2 := Nat.le_trans s1 o2.size; have fl := r2.flag; rw [HL.out, HF.out] at fl)))
      exact bodyPost_ret (v := .tuple #[.slice none 0 0, .bool false]) (by simp [results, Tryd.results17, go_sem]) rfl ⟨rfl, B2⟩
    · have e3 : ((x : Int) != 3) = true := by simp; omega
      clear hb
      go_enter Tryd.func17, Tryd.ntmps17
      go_wp2_with (first | (go_at_call 29; ((with_reducible refine (CI _ r0).mono ?_); rintro e w1 ⟨rfl, r1, o1⟩; have B1 := al.trans (o1.to_below al.size (by simp)); have s1 := o1.size; simp only [World.size_alloc] at s1)) | (go_at_call 29; ((with_reducible refine (CT _ r1).mono ?_); rintro e w2 ⟨rfl, r2, o2⟩; have B2 := B1.trans (o2.to_below B1.size (by simp)); have s2 := Nat.le_trans s1 o2.size; have fl := r2.flag; rw [HL.out, HF.out] at fl)))
      exact bodyPost_ret (v := .tuple #[.slice none 0 0, .bool false]) (by simp [results, Tryd.results17, go_sem]) rfl ⟨rfl, B2⟩
  · clear hb
    go_enter Tryd.func17, Tryd.ntmps17
    go_wp2_with (first | (go_at_call 29; ((with_reducible refine (CI _ r0).mono ?_); rintro e w1 ⟨rfl, r1, o1⟩; have B1 := al.trans (o1.to_below al.size (by simp)); have s1 := o1.size; simp only [World.size_alloc] at s1)) | (go_at_call 29; ((with_reducible refine (CT _ r1).mono ?_); rintro e w2 ⟨rfl, r2, o2⟩; have B2 := B1.trans (o2.to_below B1.size (by simp)); have s2 := Nat.le_trans s1 o2.size; have fl := r2.flag; rw [HL.out, HF.out] at fl)))
    exact bodyPost_ret (v := .tuple #[.slice none 0 0, .bool false]) (by simp [results, Tryd.results17, go_sem]) rfl ⟨rfl, B2⟩
end Go.Proofs.YteffijgajhngeaaDoor

namespace Go.Proofs.YteffijgajhngeaaDoor
open Go Go.RowKit
set_option linter.unusedVariables false
set_option linter.unusedSimpArgs false

theorem rsel_any (A : Option Addr) (c N : Nat) (kf : Int) (E : List Value) (w : World) (hE : Lists w w.heap.size A E) (h8 : Bytes8 E) (hc : E.length ≤ c) (hc2 : c ≤ 9223372036854775807) (hm : E.length ≤ 140737488355328) (hN1 : 1 ≤ N) (hN2 : N ≤ 5000) (hk1 : 1 ≤ kf) (hk2 : kf ≤ 256) :
    Calls Tryd.prog 17 #[.slice A E.length c, .int .i64 (N : Nat), .int .i64 kf] w (RfC w (selC E N kf)) := by
  obtain ⟨x, hx⟩ : ∃ x, rsn E 1 0 (byteAt E 0) = x := ⟨_, rfl⟩
  have hx1 : rsn E 1 0 (rdn E 1 0) = x := by rw [rdn_one]; exact hx
  obtain ⟨ct, hct⟩ : ∃ ct, rsn E 2 1 (rd2 E 1) = ct := ⟨_, rfl⟩
  have hct2 : ct < 65536 := by rw [← hct]; exact rsn_lt (rd2_lt h8 1)
  by_cases h0 : x = 0
  · subst h0
    unfold selC selR
    rw [if_pos hx]
    exact rsel_0 A c E.length N kf E w hE h8 hc hc2 hm rfl hN1 hN2 hk1 hk2 hx1 _ rfl
  · by_cases hb : decide (E.length < 0 + 1 + 2) = true ∨ x ≠ 3 ∨ ct < 1
    · refine (rsel_bad A c E.length N kf E w hE h8 hc hc2 hm rfl hN1 hN2 hk1 hk2 x ct _ rfl hx1 hct h0 hb).mono fun e w' h => ?_
      have : selC E N kf = none := by
        unfold selC selR
        rw [hx, if_neg h0]
        by_cases h3 : x = 3
        · rw [if_pos h3]
          unfold rdR
          split
          · rfl
          · rw [hct]
            rcases hb with h | h | h
            · exact selG_far (by have := of_decide_eq_true h; omega)
            · exact absurd h3 h
            · obtain rfl : ct = 0 := by omega
              unfold rrC selF
              simp only
              rw [if_neg (by simp; omega)]
        · rw [if_neg h3]; rfl
      rw [this]
      exact h
    · have h1 : decide (E.length < 0 + 1 + 2) = false := by cases h : decide (E.length < 0 + 1 + 2); rfl; exact absurd (.inl h) hb
      obtain rfl : x = 3 := Decidable.byContradiction fun h => hb (.inr (.inl h))
      have h3 : 1 ≤ ct := Nat.le_of_not_lt fun h => hb (.inr (.inr h))
      unfold selC selR
      rw [hx, if_neg (by decide), if_pos rfl]
      exact rsel_3 A c E.length N kf E w hE h8 hc hc2 hm rfl hN1 hN2 hk1 hk2 ct h1 hx1 hct h3 hct2 _ rfl
end Go.Proofs.YteffijgajhngeaaDoor
