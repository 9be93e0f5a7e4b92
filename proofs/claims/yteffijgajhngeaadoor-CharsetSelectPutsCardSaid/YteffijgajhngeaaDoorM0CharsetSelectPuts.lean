/- Part 11 of the proof: ChV, ChT, ChSa, ChW, ChSb, Rw1, Rw2, ChX. -/
import Derived.LoopTactic
import Derived.Outline
import Derived.Test.YteffijgajhngeaaDoorCCh9

namespace Go.Proofs.YteffijgajhngeaaDoor
open Go Go.RowKit
set_option linter.unusedVariables false
set_option linter.unusedSimpArgs false

theorem allB_at {a b : Int} {T : List Int} (h : allB a b T = true) {j : Nat} (hj : j < T.length) : a ≤ T.getD j 0 ∧ T.getD j 0 ≤ b := by
  have := List.all_eq_true.1 h (T.getD j 0) (by rw [List.getD_eq_getElem?_getD, List.getElem?_eq_getElem hj]; exact List.getElem_mem hj)
  exact inB_true this
theorem allB_dropC {a b : Int} {T : List Int} (h : allB a b T = true) (r : Nat) : allB a b (T.drop r) = true :=
  List.all_eq_true.2 fun x hx => List.all_eq_true.1 h x (List.mem_of_mem_drop hx)
theorem run_at {T : List Int} (hall : allB 0 65535 T = true) (most : Nat) (a : Int) : ∀ m n, 1 ≤ n → (∀ j : Nat, j < n → T.getD j 0 = a + j) → ∀ j : Nat, j < runF nextP most T m n → T.getD j 0 = a + j
  | 0, n, _, h => h
  | m + 1, n, h1, h => by
    unfold runF
    split
    · rename_i hh
      refine run_at hall most a m (n + 1) (by omega) fun j hj => ?_
      by_cases hjn : j < n
      · exact h j hjn
      · obtain rfl : j = n := by omega
        have hb := allB_at hall (j := j - 1) (by omega)
        have e := hh.2
        unfold nextP at e
        have e := eq_of_beq e
        rw [IntWalk.wrap64_in _ (by omega)] at e
        rw [e, h (j - 1) (by omega)]
        omega
    · exact h
theorem run_takeC {T : List Int} (hall : allB 0 65535 T = true) (most : Nat) (h1 : 1 ≤ T.length) (hm : 1 ≤ most) (a : Nat) (ha : T.getD 0 0 = (a : Int)) : T.take (runN nextP most T) = runC a (runN nextP most T) := by
  have hr := runN_le (P := nextP) h1 hm
  have hat := run_at hall most a T.length 1 (Nat.le_refl _) fun j hj => by
    obtain rfl : j = 0 := by omega
    rw [ha]; simp
  refine List.ext_getElem? fun j => ?_
  by_cases hj : j < runN nextP most T
  · have e := hat j hj
    rw [List.getElem?_take, if_pos hj, List.getElem?_eq_getElem (by omega)]
    rw [List.getD_eq_getElem?_getD, List.getElem?_eq_getElem (by omega), Option.getD_some] at e
    rw [e]
    unfold runC
    rw [List.getElem?_map, List.getElem?_range hj]
    simp
  · rw [List.getElem?_eq_none (by rw [List.length_take]; omega), List.getElem?_eq_none (by rw [runC_len]; omega)]
theorem byteAt_dropC (E : List Value) (k i : Nat) : byteAt E (k + i) = byteAt (E.drop k) i := by unfold byteAt; rw [List.getD_eq_getElem?_getD, List.getD_eq_getElem?_getD, List.getElem?_drop]
theorem rd2_dropC (E : List Value) (k i : Nat) : rd2 E (k + i) = rd2 (E.drop k) i := by unfold rd2; rw [Nat.add_assoc, byteAt_dropC, byteAt_dropC]
theorem moreE_rd (f : Nat) (hf : f ≤ 2) (x : Nat) (hx : x < mostC f) (Y : List Value) : rdn (moreE f (x : Nat) ++ Y) f 0 = x := by
  match f, hf with
  | 0, _ => have : x < 1 := hx; show 0 = x; omega
  | 1, _ =>
    have hx : x < 256 := hx
    have e : rdn (moreE 1 (x : Nat) ++ Y) 1 0 = 0 * 256 + ((x : Int) % 256).toNat := rfl
    rw [e]; omega
  | 2, _ =>
    have hx : x < 65536 := hx
    have e : rdn (moreE 2 (x : Nat) ++ Y) 2 0 = (0 * 256 + ((x : Int) / 256 % 256).toNat) * 256 + ((x : Int) % 256).toNat := rfl
    rw [e]; omega
theorem rdn_dropC (E : List Value) (k i : Nat) : ∀ n, rdn E n (k + i) = rdn (E.drop k) n i
  | 0 => rfl
  | n + 1 => by
    show rdn E n (k + i) * 256 + byteAt E (k + i + n) = rdn (E.drop k) n i * 256 + byteAt (E.drop k) (i + n)
    rw [rdn_dropC E k i n, Nat.add_assoc, byteAt_dropC]
theorem mostC_pos (f : Nat) : 1 ≤ mostC f := by
  match f with
  | 0 => decide
  | 1 => decide
  | n + 2 => show 1 ≤ 65536; decide
theorem goC_put (f n : Nat) (hf : f ≤ 2) (X : List Value) : ∀ (m : Nat) (T D : List Int) (m2 k : Nat) (E : List Value), T.length ≤ m → T.length ≤ m2 → D.length + T.length = n → allB 0 65535 T = true → E.drop k = rgE f (cntsF nextP (mostC f) m T) T ++ X →
    goC E f n m2 k D = some (D ++ T, k + (rgE f (cntsF nextP (mostC f) m T) T).length)
  | 0, T, D, m2, k, E, h1, h2, h3, hall, hE => by
    obtain rfl : T = [] := List.eq_nil_of_length_eq_zero (by omega)
    rw [goC_end (by simp at h3; omega)]
    simp [cntsF, rgE]
  | m + 1, T, D, m2, k, E, h1, h2, h3, hall, hE => by
    by_cases h0 : T.length = 0
    · obtain rfl : T = [] := List.eq_nil_of_length_eq_zero h0
      rw [goC_end (by simp at h3; omega), cntsF_nil rfl]
      simp [rgE]
    · obtain ⟨m3, rfl⟩ : ∃ m3, m2 = m3 + 1 := ⟨m2 - 1, by omega⟩
      rw [cntsF_more h0] at hE ⊢
      have hr := runN_le (P := nextP) (most := mostC f) (L := T) (by omega) (mostC_pos f)
      have h65 := allB_at hall (j := 0) (by omega)
      obtain ⟨a, ha⟩ : ∃ a : Nat, T.getD 0 0 = (a : Int) := ⟨(T.getD 0 0).toNat, by omega⟩
      have htk := run_takeC hall (mostC f) (by omega) (mostC_pos f) a ha
      have hlast := run_at hall (mostC f) a T.length 1 (Nat.le_refl _) (fun j hj => by obtain rfl : j = 0 := (by omega); rw [ha]; simp) (runN nextP (mostC f) T - 1) (by show _ < runN nextP (mostC f) T; omega)
      have hb2 := allB_at hall (j := runN nextP (mostC f) T - 1) (by omega)
      generalize runN nextP (mostC f) T = r at *
      generalize hcs : cntsF nextP (mostC f) m (T.drop r) = cs at *
      have hE2 : E.drop k = be2 (a : Nat) ++ (moreE f ((r - 1 : Nat) : Int) ++ (rgE f cs (T.drop r) ++ X)) := by
        rw [hE]
        show be2 (T.getD 0 0) ++ moreE f ((r - 1 : Nat) : Int) ++ rgE f cs (T.drop r) ++ X = _
        rw [ha]
        simp only [List.append_assoc]
      have hml := moreE_len f hf ((r - 1 : Nat) : Int)
      have hEl : E.length = k + (2 + (f + ((rgE f cs (T.drop r)).length + X.length))) := by
        have := congrArg List.length hE2
        rw [List.length_drop, List.length_append, List.length_append, List.length_append, hml] at this
        simp only [be2, List.length_cons, List.length_nil] at this
        omega
      have hfi : firstC E k = a := by
        unfold firstC rsn
        rw [if_pos (by omega), show rd2 E k = rd2 (E.drop k) 0 from rd2_dropC E k 0, hE2]
        have := rd2_be2 (a : Int) (moreE f ((r - 1 : Nat) : Int) ++ (rgE f cs (T.drop r) ++ X))
        omega
      have hE3 : E.drop (k + 2) = moreE f ((r - 1 : Nat) : Int) ++ (rgE f cs (T.drop r) ++ X) := by
        rw [← List.drop_drop, hE2]
        rfl
      have hmo : moreC E f k = r - 1 := by
        unfold moreC rsn
        rw [if_pos (by omega), show rdn E f (k + 2) = rdn (E.drop (k + 2)) f 0 from rdn_dropC E (k + 2) 0 f, hE3, moreE_rd f hf _ (by omega)]
      have hE4 : E.drop (k + 2 + f) = rgE f cs (T.drop r) ++ X := by
        rw [← List.drop_drop, hE3]
        exact List.drop_left' hml
      rw [goC_more (by omega) (by rw [hfi, hmo]; omega), hfi, hmo, show r - 1 + 1 = r by omega, ← htk]
      rw [goC_put f n hf X m (T.drop r) (D ++ T.take r) m3 (k + 2 + f) E (by rw [List.length_drop]; omega) (by rw [List.length_drop]; omega) (by rw [List.length_append, List.length_take, List.length_drop]; omega) (allB_dropC hall r) (by rw [hcs]; exact hE4)]
      rw [List.append_assoc, List.take_append_drop, hcs]
      congr 2
      show k + 2 + f + _ = k + (be2 (T.getD 0 0) ++ moreE f ((r - 1 : Nat) : Int) ++ rgE f cs (T.drop r)).length
      rw [List.length_append, List.length_append, hml]
      simp only [be2, List.length_cons, List.length_nil]
      omega
/-- The numbers may be put: then they are loaded again. -/
theorem ldC_put (f : Nat) (L : List Int) (X : List Value) (hf : f ≤ 2) (h1 : 1 ≤ L.length) (h0 : L.getD 0 0 = 0) (hall : allB 0 65535 L = true) : ldC (putC f L ++ X) L.length = some L := by
  match L, h1, h0, hall with
  | x :: T, _, h0, hall =>
    obtain rfl : x = 0 := h0
    have hT : allB 0 65535 T = true := allB_dropC hall 1
    have hx : rsn (putC f (0 :: T) ++ X) 1 0 (byteAt (putC f (0 :: T) ++ X) 0) = f := by
      unfold rsn
      rw [if_pos (by unfold putC; simp [be1])]
      have e : byteAt (putC f (0 :: T) ++ X) 0 = ((f : Int) % 256).toNat := rfl
      rw [e]; omega
    unfold ldC
    rw [hx, if_neg (by omega)]
    have hg := goC_put f (T.length + 1) hf X T.length T [0] (T.length + 1) 1 (putC f (0 :: T) ++ X) (Nat.le_refl _) (by omega) (by simp; omega) hT (by rfl)
    rw [List.length_cons, hg]
    unfold finC
    simp only
    rw [if_pos]
    · rfl
    · unfold putC cnts
      simp only [List.length_append, be1, List.length_cons, List.length_nil, List.tail_cons]
      omega
end Go.Proofs.YteffijgajhngeaaDoor

namespace Go.Proofs.YteffijgajhngeaaDoor
open Go Go.RowKit
set_option linter.unusedVariables false
set_option linter.unusedSimpArgs false

theorem allB_app {a b : Int} {L M : List Int} : allB a b (L ++ M) = (allB a b L && allB a b M) := by unfold allB; rw [List.all_append]
theorem allB_rep {a b x : Int} (m : Nat) (h : inB a b x = true) : allB a b (List.replicate m x) = true := by
  unfold allB
  rw [List.all_eq_true]
  intro y hy
  rw [(List.mem_replicate.1 hy).2]
  exact h
theorem allB_one {a b x : Int} : allB a b [x] = inB a b x := by simp [allB]
theorem allB_mem {a b : Int} {L : List Int} {x : Int} (h : x ∈ L) (hx : inB a b x = false) : allB a b L = false := by
  cases hal : allB a b L
  · rfl
  · have := List.all_eq_true.1 hal x h
    rw [hx] at this
    cases this
/-- What ranges that are left come to. -/
def selG (E : List Value) (n : Nat) (kf : Int) (m k : Nat) (L : List Int) : Option (List Int) := selF E n kf (rrC E n m k L)
theorem selG_bad {E : List Value} {n : Nat} {kf : Int} {m k : Nat} {L : List Int} (h : endS E k ≤ L.length ∨ n < endS E k) : selG E n kf (m + 1) k L = none := by unfold selG; rw [rrC_bad h]; rfl
theorem selG_more {E : List Value} {n : Nat} {kf : Int} {m k : Nat} {L : List Int} (h : ¬ (endS E k ≤ L.length ∨ n < endS E k)) : selG E n kf (m + 1) k L = selG E n kf m (k + 3) (L ++ List.replicate (endS E k - L.length) ((numS E k : Nat) : Int)) := by unfold selG; rw [rrC_more h]
theorem rrC_pos (E : List Value) (n : Nat) : ∀ m k (L L' : List Int) (k' : Nat), rrC E n m k L = some (L', k') → k' = k + 3 * m ∧ ∃ T, L' = L ++ T
  | 0, k, L, L', k', h => by
    injection h with h; injection h with h1 h2
    exact ⟨by omega, [], by rw [List.append_nil]; exact h1.symm⟩
  | m + 1, k, L, L', k', h => by
    by_cases hb : endS E k ≤ L.length ∨ n < endS E k
    · rw [rrC_bad hb] at h; cases h
    · rw [rrC_more hb] at h
      obtain ⟨h1, T, h2⟩ := rrC_pos E n m _ _ L' k' h
      exact ⟨by omega, _, by rw [h2, List.append_assoc]⟩
theorem selG_far {E : List Value} {n : Nat} {kf : Int} {m k : Nat} {L : List Int} (h : E.length < k + 3 * m) : selG E n kf m k L = none := by
  unfold selG
  generalize hg : rrC E n m k L = r
  match r, hg with
  | none, _ => rfl
  | some (L', k'), hg =>
    have := (rrC_pos E n m k L L' k' hg).1
    unfold selF
    simp only
    rw [if_neg (by omega)]
theorem selG_num {E : List Value} {n : Nat} {kf : Int} {m k : Nat} {L : List Int} (h : allB 0 (kf - 1) L = false) : selG E n kf m k L = none := by
  unfold selG
  generalize hg : rrC E n m k L = r
  match r, hg with
  | none, _ => rfl
  | some (L', k'), hg =>
    obtain ⟨T, hT⟩ := (rrC_pos E n m k L L' k' hg).2
    unfold selF
    simp only
    rw [if_neg (by rw [hT, allB_app, h]; simp)]
theorem inB_no {a b x : Int} (h : b < x) : inB a b x = false := by
  cases hh : inB a b x
  · rfl
  · have := inB_true hh; omega
theorem selG_x {E : List Value} {n : Nat} {kf : Int} {m k : Nat} {L : List Int} (h : kf ≤ (numS E k : Nat)) : selG E n kf (m + 1) k L = none := by
  by_cases hb : endS E k ≤ L.length ∨ n < endS E k
  · exact selG_bad hb
  · rw [selG_more hb]
    refine selG_num (allB_mem (x := ((numS E k : Nat) : Int)) ?_ (inB_no (by omega)))
    refine List.mem_append_right _ (List.mem_replicate.2 ⟨by omega, rfl⟩)
theorem selG_full {E : List Value} {n : Nat} {kf : Int} {m k : Nat} {L : List Int} (h : n ≤ L.length) : selG E n kf (m + 1) k L = none := selG_bad (by omega)
/-- Where the reference stands with i ranges read. -/
def StT (E : List Value) (n ct : Nat) (kf : Int) (R : Option (List Int)) (i : Nat) (o : List Int) (la : Nat) : Prop :=
  (i = 0 ∧ o = [] ∧ la = 0 ∧ selF E n kf (rdR E n 1) = R) ∨
  (∃ j L, i = j + 1 ∧ o = L ++ [(la : Int)] ∧ L.length < n ∧ allB 0 (kf - 1) o = true ∧ la = numS E (3 * j + 5) ∧ 3 * j + 6 ≤ E.length ∧ selG E n kf (ct - j) (3 * j + 5) L = R)
theorem rdR_zero {E : List Value} {n : Nat} {kf : Int} (h : firstC E 3 = 0) : selF E n kf (rdR E n 1) = selG E n kf (rsn E 2 1 (rd2 E 1)) 5 [] := by
  unfold rdR selG
  rw [if_neg (by rw [show rsn E 2 (1 + 2) (rd2 E (1 + 2)) = firstC E 3 from rfl, h]; simp)]
theorem stT_bad {E : List Value} {n ct : Nat} {kf : Int} {R : Option (List Int)} {i : Nat} {o : List Int} {la a x : Nat} (hct : rsn E 2 1 (rd2 E 1) = ct) (hn : 1 ≤ n) (h : StT E n ct kf R i o la) (hi : i < ct) (ha : firstC E (3 * i + 3) = a) (hx : numS E (3 * i + 5) = x)
    (hb : E.length < 3 * i + 6 ∨ kf ≤ (x : Nat) ∨ n ≤ a ∨ (i = 0 ∧ a ≠ 0) ∨ (0 < i ∧ a + 1 ≤ o.length)) : R = none := by
  rcases h with ⟨rfl, rfl, rfl, h⟩ | ⟨j, L, rfl, rfl, hL, hal, rfl, hj, h⟩
  · subst h
    by_cases h0 : a = 0
    · subst h0
      rw [rdR_zero ha, hct]
      obtain ⟨m, rfl⟩ : ∃ m, ct = m + 1 := ⟨ct - 1, by omega⟩
      rcases hb with hb | hb | hb | hb | hb
      · exact selG_far (by omega)
      · exact selG_x (by rw [show numS E 5 = x from hx]; exact hb)
      · omega
      · exact absurd rfl hb.2
      · omega
    · unfold rdR
      rw [if_pos (by rw [show rsn E 2 (1 + 2) (rd2 E (1 + 2)) = firstC E 3 from rfl, show firstC E 3 = a from ha]; exact h0)]
      rfl
  · subst h
    have ha2 : endS E (3 * j + 5) = a := ha
    have hx2 : numS E (3 * j + 5 + 3) = x := hx
    obtain ⟨m, hm⟩ : ∃ m, ct - j = m + 1 + 1 := ⟨ct - j - 2, by omega⟩
    rw [hm]
    rw [List.length_append, List.length_singleton] at hb
    by_cases hc : endS E (3 * j + 5) ≤ L.length ∨ n < endS E (3 * j + 5)
    · exact selG_bad hc
    · rw [selG_more hc]
      rcases hb with hb | hb | hb | hb | hb
      · exact selG_far (by omega)
      · exact selG_x (by rw [hx2]; exact hb)
      · exact selG_full (by rw [List.length_append, List.length_replicate]; omega)
      · omega
      · omega
/-- A row, filled up. -/
def fillC (o : List Int) (d la : Nat) : List Int := o ++ List.replicate d (la : Int)
theorem fillC_len (o : List Int) (d la : Nat) : (fillC o d la).length = o.length + d := by simp [fillC]
theorem fillC_zero (o : List Int) (la : Nat) : fillC o 0 la = o := by simp [fillC]
theorem fillC_snoc (o : List Int) (d la : Nat) : intCells (fillC o (d + 1) la) = intCells (fillC o d la) ++ [.int .i64 (la : Nat)] := by
  unfold fillC intCells
  rw [List.replicate_succ', ← List.append_assoc, List.map_append]
  rfl
theorem fillC_back (L : List Int) (la a : Nat) (h : L.length < a) : fillC (L ++ [(la : Int)]) (a - (L ++ [(la : Int)]).length) la = L ++ List.replicate (a - L.length) (la : Int) := by
  unfold fillC
  rw [List.append_assoc, List.length_append, List.length_singleton]
  obtain ⟨d, hd⟩ : ∃ d, a - L.length = d + 1 := ⟨a - L.length - 1, by omega⟩
  rw [hd, show a - (L.length + 1) = d by omega, List.replicate_succ]
  rfl
theorem stT_more {E : List Value} {n ct : Nat} {kf : Int} {R : Option (List Int)} {i : Nat} {o : List Int} {la a x : Nat} (hct : rsn E 2 1 (rd2 E 1) = ct) (h : StT E n ct kf R i o la) (hi : i < ct) (ha : firstC E (3 * i + 3) = a) (hx : numS E (3 * i + 5) = x)
    (h1 : 3 * i + 6 ≤ E.length) (h2 : (x : Int) < kf) (h3 : a < n) (h4 : i = 0 → a = 0) (h5 : 0 < i → o.length ≤ a) : o.length ≤ a ∧ StT E n ct kf R (i + 1) (fillC o (a - o.length) la ++ [(x : Int)]) x := by
  have hxB : inB 0 (kf - 1) (x : Int) = true := inB_yes (by omega) (by omega)
  rcases h with ⟨rfl, rfl, rfl, h⟩ | ⟨j, L, rfl, rfl, hL, hal, rfl, hj, h⟩
  · obtain rfl := h4 rfl
    refine ⟨by simp, .inr ⟨0, [], rfl, by simp [fillC], by simp only [List.length_nil]; omega, by simp only [fillC, List.length_nil, Nat.sub_zero, List.replicate_zero, List.append_nil, List.nil_append]; rw [allB_one]; exact hxB, hx.symm, h1, ?_⟩⟩
    rw [← h, rdR_zero ha, hct]
    rfl
  · have h5 := h5 (by omega)
    have h6 := h5
    rw [List.length_append, List.length_singleton] at h6
    have ha2 : endS E (3 * j + 5) = a := ha
    have hlaB : inB 0 (kf - 1) ((numS E (3 * j + 5) : Nat) : Int) = true := by rw [allB_app, allB_one, Bool.and_eq_true] at hal; exact hal.2
    have hLB : allB 0 (kf - 1) L = true := by rw [allB_app, Bool.and_eq_true] at hal; exact hal.1
    refine ⟨h5, .inr ⟨j + 1, L ++ List.replicate (a - L.length) ((numS E (3 * j + 5) : Nat) : Int), rfl, by rw [fillC_back _ _ _ (by omega)], by rw [List.length_append, List.length_replicate]; omega, ?_, hx.symm, h1, ?_⟩⟩
    · rw [fillC_back _ _ _ (by omega), allB_app, allB_app, hLB, allB_rep _ hlaB, allB_one, hxB]
      rfl
    · obtain ⟨m, hm⟩ : ∃ m, ct - j = m + 1 := ⟨ct - j - 1, by omega⟩
      rw [hm, selG_more (by omega), ha2] at h
      rw [show ct - (j + 1) = m by omega]
      exact h
theorem stT_end {E : List Value} {n ct : Nat} {kf : Int} {R : Option (List Int)} {o : List Int} {la a : Nat} (hc1 : 1 ≤ ct) (h : StT E n ct kf R ct o la) (ha : firstC E (3 * ct + 3) = a) :
    (E.length < 3 * ct + 5 ∨ a ≠ n → R = none) ∧ (3 * ct + 5 ≤ E.length → a = n → o.length ≤ n ∧ R = some (fillC o (n - o.length) la)) := by
  rcases h with ⟨h0, _⟩ | ⟨j, L, rfl, rfl, hL, hal, rfl, hj, h⟩
  · omega
  · have ha2 : endS E (3 * j + 5) = a := ha
    have hlaB : inB 0 (kf - 1) ((numS E (3 * j + 5) : Nat) : Int) = true := by rw [allB_app, allB_one, Bool.and_eq_true] at hal; exact hal.2
    have hLB : allB 0 (kf - 1) L = true := by rw [allB_app, Bool.and_eq_true] at hal; exact hal.1
    rw [show j + 1 - j = 0 + 1 by omega] at h
    refine ⟨fun hb => ?_, fun h1 h2 => ?_⟩
    · rw [← h]
      by_cases hc : endS E (3 * j + 5) ≤ L.length ∨ n < endS E (3 * j + 5)
      · exact selG_bad hc
      · rcases hb with hb | hb
        · exact selG_far (by omega)
        · rw [selG_more hc]
          unfold selG rrC selF
          simp only
          rw [if_neg (by rw [List.length_append, List.length_replicate]; omega)]
    · rw [selG_more (by omega)] at h
      unfold selG rrC selF at h
      simp only at h
      rw [if_pos ⟨by rw [List.length_append, List.length_replicate]; omega, by omega, by rw [allB_app, hLB, allB_rep _ hlaB]; rfl⟩, ha2, h2] at h
      exact ⟨by rw [List.length_append, List.length_singleton]; omega, by rw [fillC_back _ _ _ (by omega)]; exact h.symm⟩
theorem takeC_mem {E : List Value} {k n i x : Nat} (h : i < n) (hx : rsn E 1 (k + i) (byteAt E (k + i)) = x) : ((x : Nat) : Int) ∈ takeC E k n := by
  unfold takeC
  exact List.mem_map.2 ⟨i, List.mem_range.2 h, by rw [hx]⟩
end Go.Proofs.YteffijgajhngeaaDoor

namespace Go.Proofs.YteffijgajhngeaaDoor
open Go Go.RowKit
set_option linter.unusedVariables false
set_option linter.unusedSimpArgs false

theorem runS_at {T : List Int} (most : Nat) (a : Int) : ∀ m n, 1 ≤ n → (∀ j : Nat, j < n → T.getD j 0 = a) → ∀ j : Nat, j < runF sameP most T m n → T.getD j 0 = a
  | 0, n, _, h => h
  | m + 1, n, h1, h => by
    unfold runF
    split
    · rename_i hh
      refine runS_at most a m (n + 1) (by omega) fun j hj => ?_
      by_cases hjn : j < n
      · exact h j hjn
      · obtain rfl : j = n := by omega
        have e := hh.2
        unfold sameP at e
        have e := eq_of_beq e
        rw [e, h (j - 1) (by omega)]
    · exact h
theorem runF_max (P : Int → Int → Bool) (most : Nat) (T : List Int) : ∀ m n, min T.length most ≤ n + m → ¬ (runF P most T m n < min T.length most ∧ P (T.getD (runF P most T m n - 1) 0) (T.getD (runF P most T m n) 0) = true)
  | 0, n, h => by unfold runF; omega
  | m + 1, n, h => by
    unfold runF
    split
    · exact runF_max P most T m (n + 1) (by omega)
    · assumption
theorem flat1_at : ∀ (L : List Int) (X : List Value) (i : Nat), i < L.length → byteAt (L.flatMap be1 ++ X) i = (L.getD i 0 % 256).toNat
  | [], _, i, h => by simp at h
  | x :: L, X, 0, _ => rfl
  | x :: L, X, i + 1, h => by
    rw [List.flatMap_cons, List.append_assoc, show i + 1 = (be1 x).length + i by simp [be1]; omega, byteAt_append_right, flat1_at L X i (by simpa using h)]
    simp [be1, Nat.add_comm]
theorem takeC_put (L : List Int) (X : List Value) (hall : allB 0 255 L = true) : takeC (be1 0 ++ L.flatMap be1 ++ X) 1 L.length = L := by
  refine List.ext_getElem? fun j => ?_
  by_cases hj : j < L.length
  · have hb := allB_at hall hj
    unfold takeC
    rw [List.getElem?_map, List.getElem?_range hj, Option.map_some]
    have e : byteAt (be1 0 ++ L.flatMap be1 ++ X) (1 + j) = (L.getD j 0 % 256).toNat := by
      rw [List.append_assoc, show 1 + j = (be1 0).length + j from rfl, byteAt_append_right, flat1_at L X j hj]
    unfold rsn
    rw [if_pos (by rw [List.length_append, List.length_append, flat1_len]; simp [be1]; omega), e, List.getElem?_eq_getElem hj]
    rw [List.getD_eq_getElem?_getD, List.getElem?_eq_getElem hj, Option.getD_some] at hb ⊢
    congr 1
    omega
  · rw [List.getElem?_eq_none (by rw [takeC_len]; omega), List.getElem?_eq_none (by omega)]
theorem rsE_lenC : ∀ (cs : List Nat) (f : Nat) (L : List Int), (rsE cs f L).length = 3 * cs.length
  | [], _, _ => rfl
  | x :: cs, f, L => by
    show (be2 (f : Nat) ++ be1 (L.getD f 0) ++ rsE cs (f + x) L).length = _
    rw [List.length_append, List.length_append, rsE_lenC cs, List.length_cons]
    simp [be1, be2]
    omega
theorem getD_dropS (L : List Int) (i j : Nat) : (L.drop i).getD j 0 = L.getD (i + j) 0 := by rw [List.getD_eq_getElem?_getD, List.getD_eq_getElem?_getD, List.getElem?_drop]
theorem take_run (L : List Int) (f0 r most : Nat) (h0 : f0 < L.length) (hm : 1 ≤ most) (hr : runN sameP most (L.drop f0) = r) : L.take f0 ++ List.replicate r (L.getD f0 0) = L.take (f0 + r) ∧ 1 ≤ r ∧ f0 + r ≤ L.length := by
  have hl := runN_le (P := sameP) (most := most) (L := L.drop f0) (by rw [List.length_drop]; omega) hm
  rw [hr, List.length_drop] at hl
  have hat := runS_at (T := L.drop f0) most (L.getD f0 0) (L.drop f0).length 1 (Nat.le_refl _) (fun j hj => by
    obtain rfl : j = 0 := by omega
    rw [getD_dropS]; rfl)
  rw [show runF sameP most (L.drop f0) (L.drop f0).length 1 = r from hr] at hat
  refine ⟨?_, by omega, by omega⟩
  rw [List.take_add]
  congr 1
  refine List.ext_getElem? fun j => ?_
  by_cases hj : j < r
  · have e := hat j hj
    rw [List.getElem?_take, if_pos hj, List.getElem?_replicate, if_pos hj, List.getElem?_eq_getElem (by rw [List.length_drop]; omega)]
    rw [List.getD_eq_getElem?_getD, List.getElem?_eq_getElem (by rw [List.length_drop]; omega), Option.getD_some] at e
    rw [e]
  · rw [List.getElem?_eq_none (by rw [List.length_replicate]; omega), List.getElem?_eq_none (by rw [List.length_take]; omega)]
theorem rrC_put (n : Nat) (L : List Int) (hn : L.length = n) (hn16 : n ≤ 65535) (hall : allB 0 255 L = true) (X : List Value) : ∀ (m f0 k r : Nat) (E : List Value), f0 < n → n - f0 ≤ m + 1 → runN sameP n (L.drop f0) = r →
    E.drop k = be1 (L.getD f0 0) ++ (rsE (cntsF sameP n m (L.drop (f0 + r))) (f0 + r) L ++ (be2 (n : Nat) ++ X)) →
    rrC E n ((cntsF sameP n m (L.drop (f0 + r))).length + 1) k (L.take f0) = some (L, k + 3 * ((cntsF sameP n m (L.drop (f0 + r))).length + 1)) := by
  intro m
  induction m with
  | zero =>
    intro f0 k r E h0 hm hr hE
    obtain ⟨ht, h1, h2⟩ := take_run L f0 r n (by omega) (by omega) hr
    have hfr : f0 + r = n := by omega
    have hb := allB_at hall (j := f0) (by omega)
    simp only [cntsF, rsE, List.nil_append, List.length_nil] at hE ⊢
    have hEl := congrArg List.length hE
    simp only [List.length_drop, List.length_append, be1, be2, List.length_cons, List.length_nil] at hEl
    have e1 : numS E k = (L.getD f0 0).toNat := by
      unfold numS rsn
      rw [if_pos (by omega), show byteAt E k = byteAt (E.drop k) 0 from byteAt_dropC E k 0, hE]
      have e : byteAt (be1 (L.getD f0 0) ++ (be2 (n : Nat) ++ X)) 0 = (L.getD f0 0 % 256).toNat := rfl
      rw [e]; omega
    have e2 : endS E k = n := by
      unfold endS rsn
      rw [if_pos (by omega), show rd2 E (k + 1) = rd2 (E.drop k) 1 from rd2_dropC E k 1, hE, rd2_right (a := be1 (L.getD f0 0)) 0 1 rfl]
      have := rd2_be2 (n : Nat) X
      omega
    rw [show 0 + 1 = 0 + 1 from rfl, rrC_more (by rw [e2, List.length_take]; omega), e1, e2, List.length_take, Nat.min_eq_left (by omega), show n - f0 = r by omega, show (((L.getD f0 0).toNat : Nat) : Int) = L.getD f0 0 by omega, ht]
    show some (L.take (f0 + r), k + 3) = _
    rw [List.take_of_length_le (by omega)]
  | succ m ih =>
    intro f0 k r E h0 hm hr hE
    obtain ⟨ht, h1, h2⟩ := take_run L f0 r n (by omega) (by omega) hr
    have hb := allB_at hall (j := f0) (by omega)
    obtain ⟨cs, hcs⟩ : ∃ cs, cntsF sameP n (m + 1) (L.drop (f0 + r)) = cs := ⟨_, rfl⟩
    have hEl := congrArg List.length hE
    simp only [List.length_drop, List.length_append, be1, be2, List.length_cons, List.length_nil] at hEl
    have e1 : numS E k = (L.getD f0 0).toNat := by
      unfold numS rsn
      rw [if_pos (by omega), show byteAt E k = byteAt (E.drop k) 0 from byteAt_dropC E k 0, hE]
      have e : ∀ Y, byteAt (be1 (L.getD f0 0) ++ Y) 0 = (L.getD f0 0 % 256).toNat := fun _ => rfl
      rw [e]; omega
    have e2 : endS E k = f0 + r := by
      unfold endS rsn
      rw [if_pos (by omega), show rd2 E (k + 1) = rd2 (E.drop k) 1 from rd2_dropC E k 1, hE, rd2_right (a := be1 (L.getD f0 0)) 0 1 rfl]
      by_cases hfr : f0 + r = n
      · rw [cntsF_nil (by rw [List.length_drop]; omega)]
        have := rd2_be2 (n : Nat) X
        simp only [rsE, List.nil_append]
        omega
      · rw [cntsF_more (by rw [List.length_drop]; omega)]
        have e : ∀ a b Y Z, rsE (a :: b) (f0 + r) L ++ (Y ++ Z) = be2 ((f0 + r : Nat) : Int) ++ (be1 (L.getD (f0 + r) 0) ++ (rsE b (f0 + r + a) L ++ (Y ++ Z))) := fun a b Y Z => by simp [rsE, List.append_assoc]
        rw [e]
        have := rd2_be2 ((f0 + r : Nat) : Int) (be1 (L.getD (f0 + r) 0) ++ (rsE (cntsF sameP n m ((L.drop (f0 + r)).drop (runN sameP n (L.drop (f0 + r))))) (f0 + r + runN sameP n (L.drop (f0 + r))) L ++ (be2 (n : Nat) ++ X)))
        omega
    rw [rrC_more (by rw [e2, List.length_take]; omega), e1, e2, List.length_take, Nat.min_eq_left (by omega), show f0 + r - f0 = r by omega, show (((L.getD f0 0).toNat : Nat) : Int) = L.getD f0 0 by omega, ht]
    by_cases hfr : f0 + r = n
    · have hz : cntsF sameP n (m + 1) (L.drop (f0 + r)) = [] := cntsF_nil (by rw [List.length_drop]; omega)
      rw [hz]
      show some (L.take (f0 + r), k + 3) = _
      rw [List.take_of_length_le (by omega)]
      rfl
    · have hmo := cntsF_more (P := sameP) (most := n) (m := m) (L := L.drop (f0 + r)) (by rw [List.length_drop]; omega)
      rw [List.drop_drop] at hmo
      rw [hmo] at hE ⊢
      have h3 : E.drop (k + 3) = be1 (L.getD (f0 + r) 0) ++ (rsE (cntsF sameP n m (L.drop (f0 + r + runN sameP n (L.drop (f0 + r))))) (f0 + r + runN sameP n (L.drop (f0 + r))) L ++ (be2 (n : Nat) ++ X)) := by
        rw [← List.drop_drop, hE]
        simp [rsE, be1, be2, List.append_assoc]
      have h4 := ih (f0 + r) (k + 3) _ E (by omega) (by omega) rfl h3
      rw [List.length_cons, h4]
      congr 2
      omega
theorem selC_put (f n : Nat) (kf : Int) (L : List Int) (X : List Value) (hn : L.length = n) (h1 : 1 ≤ n) (hn16 : n ≤ 65535) (hk : kf ≤ 256) (hall : allB 0 (kf - 1) L = true) (hf : f = 0 ∨ f = 3) : selC (putS L f ++ X) n kf = some L := by
  have hall2 : allB 0 255 L = true := List.all_eq_true.2 fun x hx => by have := inB_true (List.all_eq_true.1 hall x hx); exact inB_yes (by omega) (by omega)
  rcases hf with rfl | rfl
  · have e : putS L 0 ++ X = be1 0 ++ L.flatMap be1 ++ X := rfl
    have hx : rsn (putS L 0 ++ X) 1 0 (byteAt (putS L 0 ++ X) 0) = 0 := by
      unfold rsn
      split
      · rfl
      · rfl
    unfold selC selR
    rw [if_pos hx, e, ← hn, takeC_put L X hall2]
    unfold selF
    simp only
    rw [if_pos (by refine ⟨trivial, ?_, hall⟩; simp only [List.length_append, flat1_len, be1, List.length_cons, List.length_nil]; omega)]
  · obtain ⟨r, hr⟩ : ∃ r, runN sameP n (L.drop 0) = r := ⟨_, rfl⟩
    have hr2 : runN sameP n L = r := hr
    obtain ⟨m, rfl⟩ : ∃ m, n = m + 1 := ⟨n - 1, by omega⟩
    have hcs : cnts sameP (m + 1) L = r :: cntsF sameP (m + 1) m (L.drop (0 + r)) := by
      unfold cnts
      rw [hn, cntsF_more (by omega), hr2, Nat.zero_add]
    have e : putS L 3 ++ X = be1 3 ++ (be2 (((cntsF sameP (m + 1) m (L.drop (0 + r))).length + 1 : Nat) : Int) ++ (be2 ((0 : Nat) : Int) ++ (be1 (L.getD 0 0) ++ (rsE (cntsF sameP (m + 1) m (L.drop (0 + r))) (0 + r) L ++ (be2 ((m + 1 : Nat) : Int) ++ X))))) := by
      unfold putS rgsE
      rw [if_neg (by decide), hn, hcs]
      simp [rsE, List.append_assoc]
    have hcl := cntsF_len (P := sameP) (most := m + 1) (by omega) m (L.drop (0 + r))
    obtain ⟨_, hr1, hr3⟩ := take_run L 0 r (m + 1) (by omega) (by omega) hr
    have hp := rrC_put (m + 1) L hn hn16 hall2 X m 0 5 r (putS L 3 ++ X) (by omega) (by omega) hr (by rw [e]; rfl)
    have hlen : (putS L 3 ++ X).length = 5 + 3 * ((cntsF sameP (m + 1) m (L.drop (0 + r))).length + 1) + X.length := by
      rw [e]
      simp only [List.length_append, rsE_lenC, be1, be2, List.length_cons, List.length_nil]
      omega
    rw [List.length_drop] at hcl
    generalize hq : (cntsF sameP (m + 1) m (L.drop (0 + r))).length = q at *
    have hx : rsn (putS L 3 ++ X) 1 0 (byteAt (putS L 3 ++ X) 0) = 3 := by
      unfold rsn
      rw [if_pos (by omega), e]
      rfl
    have h2 : rsn (putS L 3 ++ X) 2 1 (rd2 (putS L 3 ++ X) 1) = q + 1 := by
      unfold rsn
      rw [if_pos (by omega), e, rd2_right (a := be1 3) 0 1 rfl]
      have := rd2_be2 ((q + 1 : Nat) : Int) (be2 ((0 : Nat) : Int) ++ (be1 (L.getD 0 0) ++ (rsE (cntsF sameP (m + 1) m (L.drop (0 + r))) (0 + r) L ++ (be2 ((m + 1 : Nat) : Int) ++ X))))
      omega
    have h4 : rsn (putS L 3 ++ X) 2 3 (rd2 (putS L 3 ++ X) 3) = 0 := by
      have h0 : ∀ Y, rd2 (be2 ((0 : Nat) : Int) ++ Y) 0 = 0 := fun Y => by have := rd2_be2 ((0 : Nat) : Int) Y; omega
      unfold rsn
      rw [if_pos (by omega), e, ← List.append_assoc, rd2_right (a := be1 3 ++ be2 ((q + 1 : Nat) : Int)) 0 3 rfl]
      exact h0 _
    unfold selC selR
    rw [hx, if_neg (by decide), if_pos rfl]
    unfold rdR
    rw [if_neg (by rw [show (1 : Nat) + 2 = 3 from rfl, h4]; simp), h2, show (1 : Nat) + 4 = 5 from rfl, show ([] : List Int) = L.take 0 from rfl, hp]
    unfold selF
    simp only
    rw [if_pos ⟨hn, by omega, hall⟩]
end Go.Proofs.YteffijgajhngeaaDoor

namespace Go.Proofs.YteffijgajhngeaaDoor
open Go Go.RowKit
set_option linter.unusedVariables false
set_option linter.unusedSimpArgs false

theorem inB_not {a b x : Int} (h : x < a ∨ b < x) : inB a b x = false := by
  cases hh : inB a b x
  · rfl
  · have := inB_true hh; omega
theorem ret_bool {a b : Bool} (h : a = b) : Ending.returned (.bool a) = Ending.returned (.bool b) := by rw [h]
set_option maxRecDepth 100000 in
set_option maxHeartbeats 2000000 in
theorem rmay_any (A : Option Addr) (c n : Nat) (L : List Int) (f : Int) (w : World) (hE : Lists w w.heap.size A (intCells L)) (hnn : L.length = n) (hn2 : n ≤ 1000000) (r : Bool) (hr : mayC L f = r) :
    Calls Tryd.prog 14 #[.slice A n c, .int .i64 f] w fun e w' => e = .returned (.bool r) ∧ w' = w := by
  unfold mayC at hr
  rw [hnn] at hr
  have HN := Lib.hid hnn
  clear hnn
  by_cases hn1 : n < 1
  · have d0 : (n : Int) < 1 := by omega
    have HR := Lib.hid (show r = false by rw [← hr]; rw [inB_not (.inl (by omega))]; rfl)
    clear hr

    clear hE
    go_enter Tryd.func14, Tryd.ntmps14
    go_wp2
    go_ret
    exact ⟨ret_bool HR.out.symm, rfl⟩
  · by_cases hn6 : 65535 < n
    · have d0 : ¬ (n : Int) < 1 := by omega
      have d1 : (n : Int) > 65535 := by omega
      have HR := Lib.hid (show r = false by rw [← hr]; rw [inB_not (.inr (by omega))]; rfl)
      clear hr

      clear hE
      go_enter Tryd.func14, Tryd.ntmps14
      go_wp2
      go_ret
      exact ⟨ret_bool HR.out.symm, rfl⟩
    · have d0 : ¬ (n : Int) < 1 := by omega
      have d1 : ¬ (n : Int) > 65535 := by omega
      obtain ⟨b, o, rfl, hbl, hcl⟩ := hE.plain (by intro e; have h2 := congrArg List.length e; rw [intCells_len, HN.out] at h2; simp at h2; omega)
      obtain ⟨x0, hx0⟩ : ∃ x, L.getD 0 0 = x := ⟨_, rfl⟩
      have hc0 : w.cell? ⟨b, o, none⟩ = some (.int .i64 x0) := by
        have := hcl 0 _ (intCells_atD (by rw [HN.out]; omega))
        rw [hx0] at this
        simpa using this
      rw [inB_yes (by omega) (by omega), hx0, Bool.true_and] at hr
      have HC := Lib.hid hcl
      have n7 : 0 < n := by omega
      clear hE hcl
      by_cases h0 : x0 = 0
      · subst h0
        by_cases f0 : f < 0
        · have HR := Lib.hid (show r = false by rw [← hr]; rw [inB_not (.inl f0)]; simp)
          clear hr

          go_enter Tryd.func14, Tryd.ntmps14
          go_wp2
          go_ret
          exact ⟨ret_bool HR.out.symm, rfl⟩
        · by_cases f2 : f > 2
          · have HR := Lib.hid (show r = false by rw [← hr]; rw [inB_not (.inr (by omega))]; simp)
            clear hr

            go_enter Tryd.func14, Tryd.ntmps14
            go_wp2
            go_ret
            exact ⟨ret_bool HR.out.symm, rfl⟩
          · have HB := Lib.hid (show allB 0 65535 L = false → r = false from fun h => by rw [← hr, h]; simp)
            have HY := Lib.hid (show allB 0 65535 L = true → r = true from fun h => by rw [← hr, h, inB_yes (by omega) (by omega)]; rfl)
            clear hr hx0
            go_enter Tryd.func14, Tryd.ntmps14
            go_wp2
            go_loopw [5] (fun i wr => ∃ k : Nat, k ≤ n ∧ i = .int .i64 k ∧ Hid (allB 0 (65535) (L.take k) = true) ∧ wr = w) (fun i _ => n - (intOf i).toNat)
            case atStart => exact ⟨0, Nat.zero_le _, rfl, Lib.hid rfl, rfl⟩
            case round =>
              obtain ⟨k, hk, rfl, hal, rfl⟩ := hrel
              by_cases hlt : k < n
              · have d1 : decide ((k : Int) < (n : Int)) = true := by simp; omega
                obtain ⟨x, hx⟩ : ∃ x, L.getD k 0 = x := ⟨_, rfl⟩
                have g0 := HC.out k _ (intCells_atD (by rw [HN.out]; exact hlt))
                rw [hx] at g0
                have hT : L.take (k + 1) = L.take k ++ [x] := by
                  rw [List.take_add_one, List.getElem?_eq_getElem (by rw [HN.out]; exact hlt), ← hx, List.getD_eq_getElem?_getD, List.getElem?_eq_getElem (by rw [HN.out]; exact hlt)]
                  rfl
                have hm : x ∈ L := by rw [← hx, List.getD_eq_getElem?_getD, List.getElem?_eq_getElem (by rw [HN.out]; exact hlt)]; exact List.getElem_mem _
                by_cases h1 : x < 0
                · have HR := Lib.hid (HB.out (allB_mem hm (inB_not (.inl h1))))
                  clear hm hT hx
                  go_wp2
                  go_ret
                  exact ⟨ret_bool HR.out.symm, rfl⟩
                · by_cases h2 : x > 65535
                  · have HR := Lib.hid (HB.out (allB_mem hm (inB_not (.inr (by omega)))))
                    clear hm hT hx
                    go_wp2
                    go_ret
                    exact ⟨ret_bool HR.out.symm, rfl⟩
                  · have HA := Lib.hid (show allB 0 (65535) (L.take (k + 1)) = true by rw [hT, allB_app, hal.out, allB_one, inB_yes (by omega) (by omega)]; rfl)
                    clear hm hT hx
                    go_wp2
                    go_roundw
                    case rel => exact ⟨k + 1, by omega, by go_num, HA, by first | rfl | trivial⟩
                    case measure => simp [intOf]; omega
              · obtain rfl : k = n := by omega
                have d1 : decide ((k : Int) < (k : Int)) = false := by simp
                have HR := Lib.hid (HY.out (by have := hal.out; rwa [List.take_of_length_le (by rw [HN.out]; exact Nat.le_refl _)] at this))
                go_wp2
                go_ret
                exact ⟨ret_bool HR.out.symm, rfl⟩
      · have e0 : (x0 != 0) = true := by simpa using h0
        have HR := Lib.hid (show r = false by rw [← hr]; rw [show (x0 == 0) = false by simpa using h0]; rfl)
        clear hr

        clear h0 hx0
        go_enter Tryd.func14, Tryd.ntmps14
        go_wp2
        go_ret
        exact ⟨ret_bool HR.out.symm, rfl⟩
end Go.Proofs.YteffijgajhngeaaDoor

namespace Go.Proofs.YteffijgajhngeaaDoor
open Go Go.RowKit
set_option linter.unusedVariables false
set_option linter.unusedSimpArgs false

set_option maxRecDepth 100000 in
set_option maxHeartbeats 2000000 in
theorem rmaysel_any (A : Option Addr) (c n : Nat) (L : List Int) (kf f : Int) (w : World) (hE : Lists w w.heap.size A (intCells L)) (hnn : L.length = n) (hn2 : n ≤ 1000000) (r : Bool) (hr : mayS L kf f = r) :
    Calls Tryd.prog 19 #[.slice A n c, .int .i64 kf, .int .i64 f] w fun e w' => e = .returned (.bool r) ∧ w' = w := by
  unfold mayS at hr
  rw [hnn] at hr
  have HN := Lib.hid hnn
  clear hnn
  by_cases hn1 : n < 1
  · have d0 : (n : Int) < 1 := by omega
    have HR := Lib.hid (show r = false by rw [← hr]; rw [inB_not (.inl (by omega))]; rfl)
    clear hr

    clear hE
    go_enter Tryd.func19, Tryd.ntmps19
    go_wp2
    go_ret
    exact ⟨ret_bool HR.out.symm, rfl⟩
  · by_cases hn6 : 65535 < n
    · have d0 : ¬ (n : Int) < 1 := by omega
      have d1 : (n : Int) > 65535 := by omega
      have HR := Lib.hid (show r = false by rw [← hr]; rw [inB_not (.inr (by omega))]; rfl)
      clear hr

      clear hE
      go_enter Tryd.func19, Tryd.ntmps19
      go_wp2
      go_ret
      exact ⟨ret_bool HR.out.symm, rfl⟩
    · have d0 : ¬ (n : Int) < 1 := by omega
      have d1 : ¬ (n : Int) > 65535 := by omega
      obtain ⟨b, o, rfl, hbl, hcl⟩ := hE.plain (by intro e; have h2 := congrArg List.length e; rw [intCells_len, HN.out] at h2; simp at h2; omega)
      rw [inB_yes (by omega) (by omega), Bool.true_and] at hr
      have HC := Lib.hid hcl
      clear hE hcl
      by_cases k0 : kf < 1
      · have HR := Lib.hid (show r = false by rw [← hr]; rw [inB_not (.inl k0)]; rfl)
        clear hr

        go_enter Tryd.func19, Tryd.ntmps19
        go_wp2
        go_ret
        exact ⟨ret_bool HR.out.symm, rfl⟩
      · by_cases k2 : kf > 256
        · have HR := Lib.hid (show r = false by rw [← hr]; rw [inB_not (.inr (by omega))]; rfl)
          clear hr

          go_enter Tryd.func19, Tryd.ntmps19
          go_wp2
          go_ret
          exact ⟨ret_bool HR.out.symm, rfl⟩
        · rw [inB_yes (by omega) (by omega), Bool.true_and] at hr
          by_cases f0 : f = 0
          · subst f0
            have HB := Lib.hid (show allB 0 (kf - 1) L = false → r = false from fun h => by rw [← hr, h]; rfl)
            have HY := Lib.hid (show allB 0 (kf - 1) L = true → r = true from fun h => by rw [← hr, h]; rfl)
            clear hr
            go_enter Tryd.func19, Tryd.ntmps19
            go_wp2
            go_loopw [7] (fun i wr => ∃ k : Nat, k ≤ n ∧ i = .int .i64 k ∧ Hid (allB 0 (kf - 1) (L.take k) = true) ∧ wr = w) (fun i _ => n - (intOf i).toNat)
            case atStart => exact ⟨0, Nat.zero_le _, rfl, Lib.hid rfl, rfl⟩
            case round =>
              obtain ⟨k, hk, rfl, hal, rfl⟩ := hrel
              by_cases hlt : k < n
              · have d1 : decide ((k : Int) < (n : Int)) = true := by simp; omega
                obtain ⟨x, hx⟩ : ∃ x, L.getD k 0 = x := ⟨_, rfl⟩
                have g0 := HC.out k _ (intCells_atD (by rw [HN.out]; exact hlt))
                rw [hx] at g0
                have hT : L.take (k + 1) = L.take k ++ [x] := by
                  rw [List.take_add_one, List.getElem?_eq_getElem (by rw [HN.out]; exact hlt), ← hx, List.getD_eq_getElem?_getD, List.getElem?_eq_getElem (by rw [HN.out]; exact hlt)]
                  rfl
                have hm : x ∈ L := by rw [← hx, List.getD_eq_getElem?_getD, List.getElem?_eq_getElem (by rw [HN.out]; exact hlt)]; exact List.getElem_mem _
                by_cases h1 : x < 0
                · have HR := Lib.hid (HB.out (allB_mem hm (inB_not (.inl h1))))
                  clear hm hT hx
                  go_wp2
                  go_ret
                  exact ⟨ret_bool HR.out.symm, rfl⟩
                · by_cases h2 : x ≥ kf
                  · have HR := Lib.hid (HB.out (allB_mem hm (inB_not (.inr (by omega)))))
                    clear hm hT hx
                    go_wp2
                    go_ret
                    exact ⟨ret_bool HR.out.symm, rfl⟩
                  · have HA := Lib.hid (show allB 0 (kf - 1) (L.take (k + 1)) = true by rw [hT, allB_app, hal.out, allB_one, inB_yes (by omega) (by omega)]; rfl)
                    clear hm hT hx
                    go_wp2
                    go_roundw
                    case rel => exact ⟨k + 1, by omega, by go_num, HA, by first | rfl | trivial⟩
                    case measure => simp [intOf]; omega
              · obtain rfl : k = n := by omega
                have d1 : decide ((k : Int) < (k : Int)) = false := by simp
                have HR := Lib.hid (HY.out (by have := hal.out; rwa [List.take_of_length_le (by rw [HN.out]; exact Nat.le_refl _)] at this))
                go_wp2
                go_ret
                exact ⟨ret_bool HR.out.symm, rfl⟩
          · by_cases f3 : f = 3
            · subst f3
              clear f0
              have HB := Lib.hid (show allB 0 (kf - 1) L = false → r = false from fun h => by rw [← hr, h]; rfl)
              have HY := Lib.hid (show allB 0 (kf - 1) L = true → r = true from fun h => by rw [← hr, h]; rfl)
              clear hr
              go_enter Tryd.func19, Tryd.ntmps19
              go_wp2
              go_loopw [7] (fun i wr => ∃ k : Nat, k ≤ n ∧ i = .int .i64 k ∧ Hid (allB 0 (kf - 1) (L.take k) = true) ∧ wr = w) (fun i _ => n - (intOf i).toNat)
              case atStart => exact ⟨0, Nat.zero_le _, rfl, Lib.hid rfl, rfl⟩
              case round =>
                obtain ⟨k, hk, rfl, hal, rfl⟩ := hrel
                by_cases hlt : k < n
                · have d1 : decide ((k : Int) < (n : Int)) = true := by simp; omega
                  obtain ⟨x, hx⟩ : ∃ x, L.getD k 0 = x := ⟨_, rfl⟩
                  have g0 := HC.out k _ (intCells_atD (by rw [HN.out]; exact hlt))
                  rw [hx] at g0
                  have hT : L.take (k + 1) = L.take k ++ [x] := by
                    rw [List.take_add_one, List.getElem?_eq_getElem (by rw [HN.out]; exact hlt), ← hx, List.getD_eq_getElem?_getD, List.getElem?_eq_getElem (by rw [HN.out]; exact hlt)]
                    rfl
                  have hm : x ∈ L := by rw [← hx, List.getD_eq_getElem?_getD, List.getElem?_eq_getElem (by rw [HN.out]; exact hlt)]; exact List.getElem_mem _
                  by_cases h1 : x < 0
                  · have HR := Lib.hid (HB.out (allB_mem hm (inB_not (.inl h1))))
                    clear hm hT hx
                    go_wp2
                    go_ret
                    exact ⟨ret_bool HR.out.symm, rfl⟩
                  · by_cases h2 : x ≥ kf
                    · have HR := Lib.hid (HB.out (allB_mem hm (inB_not (.inr (by omega)))))
                      clear hm hT hx
                      go_wp2
                      go_ret
                      exact ⟨ret_bool HR.out.symm, rfl⟩
                    · have HA := Lib.hid (show allB 0 (kf - 1) (L.take (k + 1)) = true by rw [hT, allB_app, hal.out, allB_one, inB_yes (by omega) (by omega)]; rfl)
                      clear hm hT hx
                      go_wp2
                      go_roundw
                      case rel => exact ⟨k + 1, by omega, by go_num, HA, by first | rfl | trivial⟩
                      case measure => simp [intOf]; omega
                · obtain rfl : k = n := by omega
                  have d1 : decide ((k : Int) < (k : Int)) = false := by simp
                  have HR := Lib.hid (HY.out (by have := hal.out; rwa [List.take_of_length_le (by rw [HN.out]; exact Nat.le_refl _)] at this))
                  go_wp2
                  go_ret
                  exact ⟨ret_bool HR.out.symm, rfl⟩
            · have e0 : (f != 0) = true := by simpa using f0
              have e3 : (f != 3) = true := by simpa using f3
              have HR := Lib.hid (show r = false by rw [← hr]; rw [show (f == 0) = false by simpa using f0, show (f == 3) = false by simpa using f3]; simp)
              clear hr

              clear f0 f3
              go_enter Tryd.func19, Tryd.ntmps19
              go_wp2
              go_ret
              exact ⟨ret_bool HR.out.symm, rfl⟩
end Go.Proofs.YteffijgajhngeaaDoor

namespace Go.Proofs.YteffijgajhngeaaDoor
open Go Go.RowKit

theorem own_mono {w : World} {base : Nat} {e : TypeId} {size n : Nat} {v : Value} {xs : List Value} (h : w.ownsRow base e size v n xs) : w.ownsRow 0 e size v n xs :=
  ⟨h.1, h.2.imp id fun ⟨g, cap, cur, h1, _, h3⟩ => ⟨g, cap, cur, h1, Nat.zero_le _, h3⟩⟩

end Go.Proofs.YteffijgajhngeaaDoor

namespace Go.Proofs.YteffijgajhngeaaDoor
open Go Go.RowKit

theorem rbytes1_any (x : Int) (w : World) :
    Calls Tryd.prog 39 #[.int .i64 1, .int .i64 x] w fun e w' => e = .returned (.slice (some ⟨w.heap.size, 0, none⟩) 1 1) ∧ w' = w.alloc (.cells #[.int .u8 (x % 256)] 5) := by
  have hmk : ∀ w : World, (Instr.makeSlice 22 (.int .i64 1) (.int .i64 1)).run Tryd.prog w = .ok (.slice (some ⟨w.heap.size, 0, none⟩) 1 1) (w.alloc (.cells #[.int .u8 0] 5)) := fun w => by
    have h := run_make_row' (P := Tryd.prog) 22 5 (.int .u8 0) 1 Tryd.underlying22 u8Info rfl .i64 .i64 1 (by omega) (by omega) w
    rw [made_zeros] at h
    exact h
  go_enter Tryd.func39, Tryd.ntmps39
  go_wp2
  refine wp_loop_rounds 2 ?_
  rw [rounds_succ]
  go_wp2
  rw [rounds_succ]
  go_wp2
  go_ret
  exact ⟨rfl, rfl⟩
set_option maxRecDepth 100000 in
theorem rbytes2_any (x : Int) (w : World) :
    Calls Tryd.prog 39 #[.int .i64 2, .int .i64 x] w fun e w' => e = .returned (.slice (some ⟨w.heap.size, 0, none⟩) 2 2) ∧ w' = w.alloc (.cells #[.int .u8 (x / 256 % 256), .int .u8 (x % 256)] 5) := by
  have hmk : ∀ w : World, (Instr.makeSlice 22 (.int .i64 2) (.int .i64 2)).run Tryd.prog w = .ok (.slice (some ⟨w.heap.size, 0, none⟩) 2 2) (w.alloc (.cells #[.int .u8 0, .int .u8 0] 5)) := fun w => by
    have h := run_make_row' (P := Tryd.prog) 22 5 (.int .u8 0) 1 Tryd.underlying22 u8Info rfl .i64 .i64 2 (by omega) (by omega) w
    rw [made_zeros] at h
    exact h
  go_enter Tryd.func39, Tryd.ntmps39
  go_wp2
  refine wp_loop_rounds 3 ?_
  rw [rounds_succ]
  go_wp2
  rw [rounds_succ]
  go_wp2
  rw [rounds_succ]
  go_wp2
  go_ret
  exact ⟨rfl, rfl⟩
set_option maxRecDepth 100000 in
theorem rbytes4_any (x : Int) (w : World) :
    Calls Tryd.prog 39 #[.int .i64 4, .int .i64 x] w fun e w' => e = .returned (.slice (some ⟨w.heap.size, 0, none⟩) 4 4) ∧ w' = w.alloc (.cells #[.int .u8 (x / 16777216 % 256), .int .u8 (x / 65536 % 256), .int .u8 (x / 256 % 256), .int .u8 (x % 256)] 5) := by
  have hmk : ∀ w : World, (Instr.makeSlice 22 (.int .i64 4) (.int .i64 4)).run Tryd.prog w = .ok (.slice (some ⟨w.heap.size, 0, none⟩) 4 4) (w.alloc (.cells #[.int .u8 0, .int .u8 0, .int .u8 0, .int .u8 0] 5)) := fun w => by
    have h := run_make_row' (P := Tryd.prog) 22 5 (.int .u8 0) 1 Tryd.underlying22 u8Info rfl .i64 .i64 4 (by omega) (by omega) w
    rw [made_zeros] at h
    exact h
  go_enter Tryd.func39, Tryd.ntmps39
  go_wp2
  refine wp_loop_rounds 5 ?_
  rw [rounds_succ]
  go_wp2
  rw [rounds_succ]
  go_wp2
  rw [rounds_succ]
  go_wp2
  rw [rounds_succ]
  go_wp2
  rw [rounds_succ]
  go_wp2
  go_ret
  exact ⟨rfl, rfl⟩
end Go.Proofs.YteffijgajhngeaaDoor

namespace Go.Proofs.YteffijgajhngeaaDoor
open Go Go.RowKit
set_option linter.unusedVariables false
set_option linter.unusedSimpArgs false

/-- Bytes in new memory. -/
def NewC (n : Nat) (xs : List Value) (w : World) (e : Ending) (w' : World) : Prop := ∃ b, e = .returned (.slice (some ⟨b, 0, none⟩) n n) ∧ Lists w' w'.heap.size (some ⟨b, 0, none⟩) xs ∧ Below w.heap.size w w'
theorem newC_of (n : Nat) (w : World) (cs : List Value) (e : Ending) (w' : World) (h : e = .returned (.slice (some ⟨w.heap.size, 0, none⟩) n n) ∧ w' = w.alloc (.cells cs.toArray 5)) : NewC n cs w e w' := by
  obtain ⟨rfl, rfl⟩ := h
  exact ⟨w.heap.size, rfl, (lists_row w cs 5).more (by simp), (Below.refl _ _).alloc (Nat.le_refl _) _⟩
theorem rbC1 (x : Int) (w : World) : Calls Tryd.prog 39 #[.int .i64 1, .int .i64 x] w (NewC 1 (be1 x) w) := (rbytes1_any x w).mono fun e w' h => newC_of 1 w [.int .u8 (x % 256)] e w' h
theorem rbC2 (x : Int) (w : World) : Calls Tryd.prog 39 #[.int .i64 2, .int .i64 x] w (NewC 2 (be2 x) w) := (rbytes2_any x w).mono fun e w' h => newC_of 2 w [.int .u8 (x / 256 % 256), .int .u8 (x % 256)] e w' h
theorem own_oneB (w : World) (x : Int) : (w.alloc (.cells #[.int .u8 x] 5)).ownsRow w.heap.size 5 1 (.slice (some ⟨w.heap.size, 0, none⟩) 1 1) 1 [.int .u8 x] := ⟨rfl, .inr ⟨w.heap.size, 1, #[.int .u8 x], rfl, Nat.le_refl _, heap_alloc_new w _, Nat.le_refl _, by unfold maxLen; omega, rfl, rfl⟩⟩
def RPutC (w : World) (f : Nat) (L : List Int) (e : Ending) (w' : World) : Prop := ∃ A c, e = .returned (.slice A (putC f L).length c) ∧ Hid (Lists w' w'.heap.size A (putC f L)) ∧ Below w.heap.size w w'
theorem getD_dropC (L : List Int) (i j : Nat) : (L.drop i).getD j 0 = L.getD (i + j) 0 := by rw [List.getD_eq_getElem?_getD, List.getD_eq_getElem?_getD, List.getElem?_drop]
theorem nextP_in {x y : Int} (h : 0 ≤ x ∧ x ≤ 1000000) : nextP x y = (y == x + 1) := by unfold nextP; rw [IntWalk.wrap64_in _ (by omega)]
end Go.Proofs.YteffijgajhngeaaDoor
