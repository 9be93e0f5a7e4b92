/- Part 8 of the proof: SpJ, SpP, Ws, Wide, ChainW, SpQ. -/
import Derived.Deep.DeepAppendWide
import Derived.Test.YtelhckckcilpaaaCSp6

namespace Go.Proofs.Ytelhckckcilpaaa
open Go Go.RowKit
set_option linter.unusedVariables false
set_option linter.unusedSimpArgs false

section
variable {q : Nat → Prop}
set_option maxRecDepth 100000 in
theorem rs_take0 (p : Nat) (bs : List Value) (k m : Nat) (w : World) (h : RS q w p bs k) (hL : bs.length ≤ 140737488355328) :
    Calls Try.prog 18 #[.pointer (some ⟨p, 0, none⟩), .int .i64 m] w (TookS q w p bs (k + m)) := by
  have h8 := h.bytes
  have C : Calls Try.prog 56 #[.pointer (some ⟨p, 0, none⟩), .int .i64 m] w fun e w' => ∃ A E, e = .returned (.slice A E.length E.length) ∧ Lists w' w'.heap.size A E ∧ Bytes8 E ∧ E.length ≤ 140737488355328 ∧ RS q w' p bs (k + m) ∧ Only w w' [p] := by
    rcases h with ⟨h1, h2⟩ | ⟨h1, i, h2⟩
    · by_cases hk : k + m ≤ bs.length
      · refine (next_ok p bs k m w h2 (by omega) hk).mono fun e w' ⟨A, a, l, b, o⟩ => ⟨A, (bs.drop k).take m, ?_, l, fun u hu => h8 u (List.mem_of_mem_drop (List.mem_of_mem_take hu)), by rw [List.length_take, List.length_drop]; omega, .inl ⟨hk, b⟩, o⟩
        rw [List.length_take, List.length_drop, Nat.min_eq_left (by omega)]
        exact a
      · exact (next_short p bs k m w h2 (by omega) (.inr (by omega))).mono fun e w' ⟨a, b, o⟩ => ⟨none, [], a, Lists.empty _ _ _, fun u hu => (nomatch hu), by simp, .inr ⟨by omega, k, b⟩, o⟩
    · exact (next_bad p bs i m w h2).mono fun e w' ⟨a, b⟩ => ⟨none, [], a, Lists.empty _ _ _, fun u hu => (nomatch hu), by simp, .inr ⟨by omega, i, b ▸ h2⟩, b ▸ Only.refl _ _⟩
  clear h h8
  go_enter Try.func18, Try.ntmps18
  go_wp2_with (first | (go_at_call 56; ((with_reducible refine (C).mono ?_); rintro e w1 ⟨A1, E1, rfl, l1, h81, hm1, r1, o1⟩)) | (go_at_call 55; ((with_reducible refine (clone_any A1 E1.length E1.length E1 w1 l1 rfl h81 hm1).mono ?_); rintro e w2 ⟨A2, c2, rfl, l2, m2, n2, b2, _⟩)))
  go_ret
  exact ⟨_, rfl, r1.below b2, o1.then_below b2⟩
end
theorem cnt_le {L : List Nat} (h : RisL L) : cntL L ≤ 4096 := by
  unfold cntL
  cases hl : L.getLast? with
  | none => simp
  | some x =>
    have := h.1 x (List.mem_of_getLast? hl)
    dsimp only
    omega
/-- What Decode says of bytes, at most 90635 of them. -/
def decL (bs : List Value) (L : List Nat) : List (List Pt) × Int :=
  match rpC bs (cntL L) (10 + 2 * L.length + 2 + ub2 bs (10 + 2 * L.length)) with
  | none => ([], 110)
  | some P => if rpK bs (cntL L) (10 + 2 * L.length + 2 + ub2 bs (10 + 2 * L.length)) ≤ bs.length then (conC P L 0, 0) else ([], 110)
def decB (bs : List Value) : List (List Pt) × Int := if (lasR bs).2 = 0 then decL bs (lasR bs).1 else ([], (lasR bs).2)
theorem decB_eq (bs : List Value) (L : List Nat) (z : Int) (h : lasR bs = (L, z)) : decB bs = if z = 0 then decL bs L else ([], z) := by unfold decB; rw [h]
def SDecP (w : World) (R : List (List Pt) × Int) (e : Ending) (w' : World) : Prop := ∃ v, e = .returned (.tuple #[v, .int .i64 R.2]) ∧ Own2 w' w.heap.size v R.1 ∧ Below w.heap.size w w'
set_option maxRecDepth 100000 in
set_option maxHeartbeats 1000000 in
theorem sdec_s (A : Option Addr) (c n : Nat) (bs : List Value) (w : World) (hE : Lists w w.heap.size A bs) (hbl : bs.length = n) (hmn : n ≤ 90635) (hn1 : 1 ≤ n) (h8' : Bytes8 bs) (hc : n ≤ c) (hc2 : c ≤ 9223372036854775807) (hm : n ≤ 281474976710656) :
    Calls Try.prog 7 #[.slice A n c] w (SDecP w (decB bs)) := by
  have CN := fun c' => new_any A n c' bs w hE hbl h8' (by omega)
  have hL : bs.length ≤ 140737488355328 := by omega
  have hmn2 : ((n : Nat) : Int) ≤ 90635 := by omega
  have d0 : ((n : Int) == 0) = false := by simp; omega
  clear hE hbl
  obtain ⟨⟨L, z⟩, hLR⟩ : ∃ R, R = lasR bs := ⟨_, rfl⟩
  have HD := Lib.hid (decB_eq bs L z hLR.symm)
  have CR : ∀ W p, RS (fun b => w.heap.size ≤ b ∧ b < W.heap.size) W p bs 0 → p < W.heap.size → Calls Try.prog 17 #[.pointer (some ⟨p, 0, none⟩)] W (RLasP (fun b => w.heap.size ≤ b ∧ b < W.heap.size) W p bs (L, z)) := fun W p r hp => by
    rw [hLR]; exact rlas_any p bs W r hL hp (fun b hb => hb.2)
  clear hLR
  by_cases hz : z = 0
  · subst hz
    have d1 : ((0 : Int) != 0) = false := rfl
    obtain ⟨R, hR⟩ : ∃ R, R = decB bs := ⟨_, rfl⟩
    rw [← hR]
    have HR := Lib.hid (hR.trans HD.out)
    clear hR HD
    obtain ⟨N, hN⟩ : ∃ N, N = cntL L := ⟨_, rfl⟩
    obtain ⟨K, hK⟩ : ∃ K, K = 10 + 2 * L.length := ⟨_, rfl⟩
    have hu2 := u2_lt h8' K
    obtain ⟨T, hT⟩ : ∃ T, T = ub2 bs K := ⟨_, rfl⟩
    obtain ⟨ln, hln⟩ : ∃ ln, ln = L.length := ⟨_, rfl⟩
    have HNN := Lib.hid hN
    have HK := Lib.hid hK
    have HT := Lib.hid hT
    have HLN := Lib.hid hln
    rw [← hT] at hu2
    have CC : ∀ (A2 : Option Addr) (c2 base : Nat) (W : World), W.ownsRow base 3 1 (.slice A2 ln c2) ln (ints L) → RisL L → ln ≤ 256 → Calls Try.prog 21 #[.slice A2 ln c2] W fun e w' => e = .returned (.int .i64 (N : Nat)) ∧ w' = W := fun A2 c2 base W own hri h256 => by
      obtain ⟨A', c', he, hl, _⟩ := own_lists own
      have hA : A2 = A' := by injection he
      subst hA
      rw [HNN.out]
      exact cnt_any A2 c2 ln L W hl HLN.out.symm (by omega) (fun y hy => by have := hri.1 y hy; omega)
    have CX : ∀ (A6 A2 : Option Addr) (c6 c2 : Nat) (V : World) {base b2 : Nat} {P : List Pt}, V.ownsRow base 57 3 (.slice A6 P.length c6) P.length (ptCells P) → V.ownsRow b2 3 1 (.slice A2 ln c2) ln (ints L) → P.length = N → N ≤ c6 → RisL L → ln ≤ 256 → Calls Try.prog 23 #[.slice A6 N c6, .slice A2 ln c2] V (MadeOut V (conC P L 0)) := fun A6 A2 c6 c2 V base b2 P h1 h2 h3 h4 h5 h6 => by
      obtain ⟨A', c', he, hl, _⟩ := own_lists h1
      have hA : A6 = A' := by injection he
      subst hA
      obtain ⟨A', c', he, hl2, _⟩ := own_lists h2
      have hA : A2 = A' := by injection he
      subst hA
      exact contours_any A6 A2 c6 c2 N ln P L V hl hl2 h3 HLN.out.symm h4 (by rw [HNN.out]; have := cnt_le h5; omega) (by omega) (by rw [HNN.out]; exact fit_of h5)
    clear hN hK hT hln
    have HNL : RisL L → N ≤ 4096 := fun h => by rw [HNN.out]; exact cnt_le h
    have hFP : ∀ (w1 V : World), w1.heap.size ≤ V.heap.size → ∀ b, (w.heap.size ≤ b ∧ b < w1.heap.size) → b < V.heap.size := fun w1 V h b hb => Nat.lt_of_lt_of_le hb.2 h
    obtain ⟨kk, hkk0⟩ : ∃ kk, kk = rpK bs N (K + 2 + T) := ⟨_, rfl⟩
    have CP := fun (q : Nat → Prop) (V : World) (p : Nat) (r : RS q V p bs (K + 2 + T)) (h1 : N ≤ 4096) (h2 : p < V.heap.size) (h3 : ∀ b, q b → b < V.heap.size) => rpts_any p (K + 2 + T) N bs V r (by omega) h1 h2 h3
    rw [← hkk0] at CP
    have HKK := Lib.hid hkk0
    have HR2 : Hid (R = match rpC bs N (K + 2 + T) with | none => ([], 110) | some P => if kk ≤ bs.length then (conC P L 0, 0) else ([], 110)) := Lib.hid (by
      rw [HR.out, if_pos rfl, HKK.out, HNN.out, HT.out, HK.out]; rfl)
    clear hkk0 HR HKK
    generalize rpC bs N (K + 2 + T) = O at *
    cases O with
    | none =>
      have HR3 := Lib.hid (show R = ([], 110) from HR2.out)
      go_enter Try.func7, Try.ntmps7
      go_wp2_with (first
      | (go_at_call 16; ((with_reducible refine (CN _).mono ?_); rintro e w1 ⟨p, rfl, r1, b1, hp1⟩; have hp2 := r1.lt; have R1 : RS (fun b => w.heap.size ≤ b ∧ b < w1.heap.size) w1 p bs 0 := .inl ⟨Nat.zero_le _, r1⟩))
      | (go_at_call 17; ((with_reducible refine (CR w1 p R1 hp2).mono ?_); rintro e w2 ⟨v2, k2, rfl, own2, r2, hk2, hris, o2⟩; dsimp only at own2 hk2 hris; obtain ⟨hri, hl256⟩ := hris rfl; obtain ⟨A2, c2, rfl, _, _⟩ := own_lists own2; have hkk := hk2 rfl; rw [← HK.out] at hkk; rw [hkk] at r2; rw [← HLN.out] at own2 hl256 ⊢; clear hk2 hris hkk; have s2 := o2.size; have CU := rsU16 p bs K w2 r2 (by omega); rw [show (rsn bs 2 K (rd2 bs K) : Nat) = T from HT.out.symm] at CU))
      | (go_at_call 19; ((with_reducible refine (CU).mono ?_); rintro e w3 ⟨rfl, r3, o3⟩; have CT := rs_take0 p bs (K + 2) T w3 r3 hL; have s3 := o3.size))
      | (go_at_call 18; ((with_reducible refine (CT).mono ?_); rintro e w4 ⟨v4, rfl, r4, o4⟩; have s4 := o4.size; have o24 := o3.trans o4 (fun b hb => .inl hb); have own4 := own_only own2 o24 (fun b hb hm => by have := ownS_low own2 b hb; simp at hm; omega)))
      | (go_at_call 21; ((with_reducible refine (CC A2 c2 _ w4 own4 hri hl256).mono ?_); rintro e w5 ⟨rfl, h5⟩; obtain rfl : w4 = w5 := h5.symm))
        | (go_at_call 20; ((with_reducible refine (CP _ w4 p r4 (HNL hri) (by omega) (hFP _ _ (by omega))).mono ?_); rintro e w6 ⟨⟨rfl, k6, r6⟩, o6⟩)))
      have hsz1 := b1.size
      have OT : Only w1 w6 [p] := (o2.trans o24 (fun b hb => .inl hb)).trans o6 (fun b hb => .inl hb)
      refine bodyPost_ret (results_tmp2 rfl _ _ _) rfl ?_
      rw [HR3.out]
      exact ⟨_, rfl, Own2.nil _ _, b1.trans (OT.to_below hsz1 (by simp; omega))⟩
    | some P =>
      by_cases hkl : kk ≤ bs.length
      · have HR3 := Lib.hid (show R = (conC P L 0, 0) by rw [HR2.out]; dsimp only; rw [if_pos hkl])
        go_enter Try.func7, Try.ntmps7
        go_wp2_with (first
      | (go_at_call 16; ((with_reducible refine (CN _).mono ?_); rintro e w1 ⟨p, rfl, r1, b1, hp1⟩; have hp2 := r1.lt; have R1 : RS (fun b => w.heap.size ≤ b ∧ b < w1.heap.size) w1 p bs 0 := .inl ⟨Nat.zero_le _, r1⟩))
      | (go_at_call 17; ((with_reducible refine (CR w1 p R1 hp2).mono ?_); rintro e w2 ⟨v2, k2, rfl, own2, r2, hk2, hris, o2⟩; dsimp only at own2 hk2 hris; obtain ⟨hri, hl256⟩ := hris rfl; obtain ⟨A2, c2, rfl, _, _⟩ := own_lists own2; have hkk := hk2 rfl; rw [← HK.out] at hkk; rw [hkk] at r2; rw [← HLN.out] at own2 hl256 ⊢; clear hk2 hris hkk; have s2 := o2.size; have CU := rsU16 p bs K w2 r2 (by omega); rw [show (rsn bs 2 K (rd2 bs K) : Nat) = T from HT.out.symm] at CU))
      | (go_at_call 19; ((with_reducible refine (CU).mono ?_); rintro e w3 ⟨rfl, r3, o3⟩; have CT := rs_take0 p bs (K + 2) T w3 r3 hL; have s3 := o3.size))
      | (go_at_call 18; ((with_reducible refine (CT).mono ?_); rintro e w4 ⟨v4, rfl, r4, o4⟩; have s4 := o4.size; have o24 := o3.trans o4 (fun b hb => .inl hb); have own4 := own_only own2 o24 (fun b hb hm => by have := ownS_low own2 b hb; simp at hm; omega)))
      | (go_at_call 21; ((with_reducible refine (CC A2 c2 _ w4 own4 hri hl256).mono ?_); rintro e w5 ⟨rfl, h5⟩; obtain rfl : w4 = w5 := h5.symm))
          | (go_at_call 20; ((with_reducible refine (CP _ w4 p r4 (HNL hri) (by omega) (hFP _ _ (by omega))).mono ?_); rintro e w6 ⟨⟨v6, rfl, own6, hPl, r6⟩, o6⟩; obtain ⟨A6, c6, rfl, l6, hc6⟩ := own_lists own6; rw [hPl] at hc6 ⊢; have s6 := o6.size; have own7 := own_only own4 o6 (fun b hb hm => by have := ownS_low own4 b hb; simp at hm; omega); have CD := rs_doneC p bs kk w6 r6; rw [show decide (kk ≤ bs.length) = true by simpa using hkl] at CD))
          | (go_at_call 22; ((with_reducible refine (CD).mono ?_); rintro e w7 ⟨z7, rfl, hz7, h7⟩; obtain rfl : w6 = w7 := h7; have hz8 : (z7 != 0) = false := by simp only [bne, hz7]; rfl))
          | (go_at_call 23; ((with_reducible refine (CX A6 A2 c6 c2 w6 own6 own7 hPl hc6 hri hl256).mono ?_); rintro e w8 ⟨v8, rfl, hO8, b8⟩)))
        have hsz1 := b1.size
        have OT : Only w1 w6 [p] := (o2.trans o24 (fun b hb => .inl hb)).trans o6 (fun b hb => .inl hb)
        have BT := b1.trans (OT.to_below hsz1 (by simp; omega))
        refine bodyPost_ret (results_tmp2 rfl _ _ _) rfl ?_
        rw [HR3.out]
        exact ⟨_, rfl, hO8.mono BT.size, BT.trans (b8.mono BT.size)⟩
      · have HR3 := Lib.hid (show R = ([], 110) by rw [HR2.out]; dsimp only; rw [if_neg hkl])
        go_enter Try.func7, Try.ntmps7
        go_wp2_with (first
      | (go_at_call 16; ((with_reducible refine (CN _).mono ?_); rintro e w1 ⟨p, rfl, r1, b1, hp1⟩; have hp2 := r1.lt; have R1 : RS (fun b => w.heap.size ≤ b ∧ b < w1.heap.size) w1 p bs 0 := .inl ⟨Nat.zero_le _, r1⟩))
      | (go_at_call 17; ((with_reducible refine (CR w1 p R1 hp2).mono ?_); rintro e w2 ⟨v2, k2, rfl, own2, r2, hk2, hris, o2⟩; dsimp only at own2 hk2 hris; obtain ⟨hri, hl256⟩ := hris rfl; obtain ⟨A2, c2, rfl, _, _⟩ := own_lists own2; have hkk := hk2 rfl; rw [← HK.out] at hkk; rw [hkk] at r2; rw [← HLN.out] at own2 hl256 ⊢; clear hk2 hris hkk; have s2 := o2.size; have CU := rsU16 p bs K w2 r2 (by omega); rw [show (rsn bs 2 K (rd2 bs K) : Nat) = T from HT.out.symm] at CU))
      | (go_at_call 19; ((with_reducible refine (CU).mono ?_); rintro e w3 ⟨rfl, r3, o3⟩; have CT := rs_take0 p bs (K + 2) T w3 r3 hL; have s3 := o3.size))
      | (go_at_call 18; ((with_reducible refine (CT).mono ?_); rintro e w4 ⟨v4, rfl, r4, o4⟩; have s4 := o4.size; have o24 := o3.trans o4 (fun b hb => .inl hb); have own4 := own_only own2 o24 (fun b hb hm => by have := ownS_low own2 b hb; simp at hm; omega)))
      | (go_at_call 21; ((with_reducible refine (CC A2 c2 _ w4 own4 hri hl256).mono ?_); rintro e w5 ⟨rfl, h5⟩; obtain rfl : w4 = w5 := h5.symm))
          | (go_at_call 20; ((with_reducible refine (CP _ w4 p r4 (HNL hri) (by omega) (hFP _ _ (by omega))).mono ?_); rintro e w6 ⟨⟨v6, rfl, own6, hPl, r6⟩, o6⟩; have s6 := o6.size; have CD := rs_doneC p bs kk w6 r6; rw [show decide (kk ≤ bs.length) = false by simpa using hkl] at CD))
          | (go_at_call 22; ((with_reducible refine (CD).mono ?_); rintro e w7 ⟨z7, rfl, hz7, h7⟩; obtain rfl : w6 = w7 := h7; have hz8 : (z7 != 0) = true := by simp only [bne, hz7]; rfl)))
        have hsz1 := b1.size
        have OT : Only w1 w6 [p] := (o2.trans o24 (fun b hb => .inl hb)).trans o6 (fun b hb => .inl hb)
        refine bodyPost_ret (results_tmp2 rfl _ _ _) rfl ?_
        rw [HR3.out]
        exact ⟨_, rfl, Own2.nil _ _, b1.trans (OT.to_below hsz1 (by simp; omega))⟩
  · have d1 : (z != 0) = true := by simpa using hz
    have HR := Lib.hid (show decB bs = ([], z) by rw [HD.out, if_neg hz])
    clear HD
    go_enter Try.func7, Try.ntmps7
    go_wp2_with (first
      | (go_at_call 16; ((with_reducible refine (CN _).mono ?_); rintro e w1 ⟨p, rfl, r1, b1, hp1⟩; have hp2 := r1.lt; have R1 : RS (fun b => w.heap.size ≤ b ∧ b < w1.heap.size) w1 p bs 0 := .inl ⟨Nat.zero_le _, r1⟩))
      | (go_at_call 17; ((with_reducible refine (CR w1 p R1 hp2).mono ?_); rintro e w2 ⟨v2, k2, rfl, own2, r2, hk2, hris, o2⟩; dsimp only at own2 hk2 hris)))
    have hsz1 := b1.size
    refine bodyPost_ret (results_tmp2 rfl _ _ _) rfl ?_
    rw [HR.out]
    exact ⟨_, rfl, Own2.nil _ _, b1.trans (o2.to_below hsz1 (by simp; omega))⟩

set_option maxRecDepth 100000 in
set_option maxHeartbeats 1000000 in
theorem sdec_l (A : Option Addr) (c n : Nat) (bs : List Value) (w : World) (hE : Lists w w.heap.size A bs) (hbl : bs.length = 90635) (hmn : 90635 < n) (hn1 : 1 ≤ n) (h8' : Bytes8 bs) (hc : n ≤ c) (hc2 : c ≤ 9223372036854775807) (hm : n ≤ 281474976710656) :
    Calls Try.prog 7 #[.slice A n c] w (SDecP w (decB bs)) := by
  have CN := fun c' => new_any A 90635 c' bs w hE hbl h8' (by omega)
  have hL : bs.length ≤ 140737488355328 := by omega
  have hmn2 : ((90635 : Nat) : Int) ≤ 90635 := by omega
  have d0 : ((n : Int) == 0) = false := by simp; omega
  clear hE hbl
  obtain ⟨⟨L, z⟩, hLR⟩ : ∃ R, R = lasR bs := ⟨_, rfl⟩
  have HD := Lib.hid (decB_eq bs L z hLR.symm)
  have CR : ∀ W p, RS (fun b => w.heap.size ≤ b ∧ b < W.heap.size) W p bs 0 → p < W.heap.size → Calls Try.prog 17 #[.pointer (some ⟨p, 0, none⟩)] W (RLasP (fun b => w.heap.size ≤ b ∧ b < W.heap.size) W p bs (L, z)) := fun W p r hp => by
    rw [hLR]; exact rlas_any p bs W r hL hp (fun b hb => hb.2)
  clear hLR
  by_cases hz : z = 0
  · subst hz
    have d1 : ((0 : Int) != 0) = false := rfl
    obtain ⟨R, hR⟩ : ∃ R, R = decB bs := ⟨_, rfl⟩
    rw [← hR]
    have HR := Lib.hid (hR.trans HD.out)
    clear hR HD
    obtain ⟨N, hN⟩ : ∃ N, N = cntL L := ⟨_, rfl⟩
    obtain ⟨K, hK⟩ : ∃ K, K = 10 + 2 * L.length := ⟨_, rfl⟩
    have hu2 := u2_lt h8' K
    obtain ⟨T, hT⟩ : ∃ T, T = ub2 bs K := ⟨_, rfl⟩
    obtain ⟨ln, hln⟩ : ∃ ln, ln = L.length := ⟨_, rfl⟩
    have HNN := Lib.hid hN
    have HK := Lib.hid hK
    have HT := Lib.hid hT
    have HLN := Lib.hid hln
    rw [← hT] at hu2
    have CC : ∀ (A2 : Option Addr) (c2 base : Nat) (W : World), W.ownsRow base 3 1 (.slice A2 ln c2) ln (ints L) → RisL L → ln ≤ 256 → Calls Try.prog 21 #[.slice A2 ln c2] W fun e w' => e = .returned (.int .i64 (N : Nat)) ∧ w' = W := fun A2 c2 base W own hri h256 => by
      obtain ⟨A', c', he, hl, _⟩ := own_lists own
      have hA : A2 = A' := by injection he
      subst hA
      rw [HNN.out]
      exact cnt_any A2 c2 ln L W hl HLN.out.symm (by omega) (fun y hy => by have := hri.1 y hy; omega)
    have CX : ∀ (A6 A2 : Option Addr) (c6 c2 : Nat) (V : World) {base b2 : Nat} {P : List Pt}, V.ownsRow base 57 3 (.slice A6 P.length c6) P.length (ptCells P) → V.ownsRow b2 3 1 (.slice A2 ln c2) ln (ints L) → P.length = N → N ≤ c6 → RisL L → ln ≤ 256 → Calls Try.prog 23 #[.slice A6 N c6, .slice A2 ln c2] V (MadeOut V (conC P L 0)) := fun A6 A2 c6 c2 V base b2 P h1 h2 h3 h4 h5 h6 => by
      obtain ⟨A', c', he, hl, _⟩ := own_lists h1
      have hA : A6 = A' := by injection he
      subst hA
      obtain ⟨A', c', he, hl2, _⟩ := own_lists h2
      have hA : A2 = A' := by injection he
      subst hA
      exact contours_any A6 A2 c6 c2 N ln P L V hl hl2 h3 HLN.out.symm h4 (by rw [HNN.out]; have := cnt_le h5; omega) (by omega) (by rw [HNN.out]; exact fit_of h5)
    clear hN hK hT hln
    have HNL : RisL L → N ≤ 4096 := fun h => by rw [HNN.out]; exact cnt_le h
    have hFP : ∀ (w1 V : World), w1.heap.size ≤ V.heap.size → ∀ b, (w.heap.size ≤ b ∧ b < w1.heap.size) → b < V.heap.size := fun w1 V h b hb => Nat.lt_of_lt_of_le hb.2 h
    obtain ⟨kk, hkk0⟩ : ∃ kk, kk = rpK bs N (K + 2 + T) := ⟨_, rfl⟩
    have CP := fun (q : Nat → Prop) (V : World) (p : Nat) (r : RS q V p bs (K + 2 + T)) (h1 : N ≤ 4096) (h2 : p < V.heap.size) (h3 : ∀ b, q b → b < V.heap.size) => rpts_any p (K + 2 + T) N bs V r (by omega) h1 h2 h3
    rw [← hkk0] at CP
    have HKK := Lib.hid hkk0
    have HR2 : Hid (R = match rpC bs N (K + 2 + T) with | none => ([], 110) | some P => if kk ≤ bs.length then (conC P L 0, 0) else ([], 110)) := Lib.hid (by
      rw [HR.out, if_pos rfl, HKK.out, HNN.out, HT.out, HK.out]; rfl)
    clear hkk0 HR HKK
    generalize rpC bs N (K + 2 + T) = O at *
    cases O with
    | none =>
      have HR3 := Lib.hid (show R = ([], 110) from HR2.out)
      go_enter Try.func7, Try.ntmps7
      go_wp2_with (first
      | (go_at_call 16; ((with_reducible refine (CN _).mono ?_); rintro e w1 ⟨p, rfl, r1, b1, hp1⟩; have hp2 := r1.lt; have R1 : RS (fun b => w.heap.size ≤ b ∧ b < w1.heap.size) w1 p bs 0 := .inl ⟨Nat.zero_le _, r1⟩))
      | (go_at_call 17; ((with_reducible refine (CR w1 p R1 hp2).mono ?_); rintro e w2 ⟨v2, k2, rfl, own2, r2, hk2, hris, o2⟩; dsimp only at own2 hk2 hris; obtain ⟨hri, hl256⟩ := hris rfl; obtain ⟨A2, c2, rfl, _, _⟩ := own_lists own2; have hkk := hk2 rfl; rw [← HK.out] at hkk; rw [hkk] at r2; rw [← HLN.out] at own2 hl256 ⊢; clear hk2 hris hkk; have s2 := o2.size; have CU := rsU16 p bs K w2 r2 (by omega); rw [show (rsn bs 2 K (rd2 bs K) : Nat) = T from HT.out.symm] at CU))
      | (go_at_call 19; ((with_reducible refine (CU).mono ?_); rintro e w3 ⟨rfl, r3, o3⟩; have CT := rs_take0 p bs (K + 2) T w3 r3 hL; have s3 := o3.size))
      | (go_at_call 18; ((with_reducible refine (CT).mono ?_); rintro e w4 ⟨v4, rfl, r4, o4⟩; have s4 := o4.size; have o24 := o3.trans o4 (fun b hb => .inl hb); have own4 := own_only own2 o24 (fun b hb hm => by have := ownS_low own2 b hb; simp at hm; omega)))
      | (go_at_call 21; ((with_reducible refine (CC A2 c2 _ w4 own4 hri hl256).mono ?_); rintro e w5 ⟨rfl, h5⟩; obtain rfl : w4 = w5 := h5.symm))
        | (go_at_call 20; ((with_reducible refine (CP _ w4 p r4 (HNL hri) (by omega) (hFP _ _ (by omega))).mono ?_); rintro e w6 ⟨⟨rfl, k6, r6⟩, o6⟩)))
      have hsz1 := b1.size
      have OT : Only w1 w6 [p] := (o2.trans o24 (fun b hb => .inl hb)).trans o6 (fun b hb => .inl hb)
      refine bodyPost_ret (results_tmp2 rfl _ _ _) rfl ?_
      rw [HR3.out]
      exact ⟨_, rfl, Own2.nil _ _, b1.trans (OT.to_below hsz1 (by simp; omega))⟩
    | some P =>
      by_cases hkl : kk ≤ bs.length
      · have HR3 := Lib.hid (show R = (conC P L 0, 0) by rw [HR2.out]; dsimp only; rw [if_pos hkl])
        go_enter Try.func7, Try.ntmps7
        go_wp2_with (first
      | (go_at_call 16; ((with_reducible refine (CN _).mono ?_); rintro e w1 ⟨p, rfl, r1, b1, hp1⟩; have hp2 := r1.lt; have R1 : RS (fun b => w.heap.size ≤ b ∧ b < w1.heap.size) w1 p bs 0 := .inl ⟨Nat.zero_le _, r1⟩))
      | (go_at_call 17; ((with_reducible refine (CR w1 p R1 hp2).mono ?_); rintro e w2 ⟨v2, k2, rfl, own2, r2, hk2, hris, o2⟩; dsimp only at own2 hk2 hris; obtain ⟨hri, hl256⟩ := hris rfl; obtain ⟨A2, c2, rfl, _, _⟩ := own_lists own2; have hkk := hk2 rfl; rw [← HK.out] at hkk; rw [hkk] at r2; rw [← HLN.out] at own2 hl256 ⊢; clear hk2 hris hkk; have s2 := o2.size; have CU := rsU16 p bs K w2 r2 (by omega); rw [show (rsn bs 2 K (rd2 bs K) : Nat) = T from HT.out.symm] at CU))
      | (go_at_call 19; ((with_reducible refine (CU).mono ?_); rintro e w3 ⟨rfl, r3, o3⟩; have CT := rs_take0 p bs (K + 2) T w3 r3 hL; have s3 := o3.size))
      | (go_at_call 18; ((with_reducible refine (CT).mono ?_); rintro e w4 ⟨v4, rfl, r4, o4⟩; have s4 := o4.size; have o24 := o3.trans o4 (fun b hb => .inl hb); have own4 := own_only own2 o24 (fun b hb hm => by have := ownS_low own2 b hb; simp at hm; omega)))
      | (go_at_call 21; ((with_reducible refine (CC A2 c2 _ w4 own4 hri hl256).mono ?_); rintro e w5 ⟨rfl, h5⟩; obtain rfl : w4 = w5 := h5.symm))
          | (go_at_call 20; ((with_reducible refine (CP _ w4 p r4 (HNL hri) (by omega) (hFP _ _ (by omega))).mono ?_); rintro e w6 ⟨⟨v6, rfl, own6, hPl, r6⟩, o6⟩; obtain ⟨A6, c6, rfl, l6, hc6⟩ := own_lists own6; rw [hPl] at hc6 ⊢; have s6 := o6.size; have own7 := own_only own4 o6 (fun b hb hm => by have := ownS_low own4 b hb; simp at hm; omega); have CD := rs_doneC p bs kk w6 r6; rw [show decide (kk ≤ bs.length) = true by simpa using hkl] at CD))
          | (go_at_call 22; ((with_reducible refine (CD).mono ?_); rintro e w7 ⟨z7, rfl, hz7, h7⟩; obtain rfl : w6 = w7 := h7; have hz8 : (z7 != 0) = false := by simp only [bne, hz7]; rfl))
          | (go_at_call 23; ((with_reducible refine (CX A6 A2 c6 c2 w6 own6 own7 hPl hc6 hri hl256).mono ?_); rintro e w8 ⟨v8, rfl, hO8, b8⟩)))
        have hsz1 := b1.size
        have OT : Only w1 w6 [p] := (o2.trans o24 (fun b hb => .inl hb)).trans o6 (fun b hb => .inl hb)
        have BT := b1.trans (OT.to_below hsz1 (by simp; omega))
        refine bodyPost_ret (results_tmp2 rfl _ _ _) rfl ?_
        rw [HR3.out]
        exact ⟨_, rfl, hO8.mono BT.size, BT.trans (b8.mono BT.size)⟩
      · have HR3 := Lib.hid (show R = ([], 110) by rw [HR2.out]; dsimp only; rw [if_neg hkl])
        go_enter Try.func7, Try.ntmps7
        go_wp2_with (first
      | (go_at_call 16; ((with_reducible refine (CN _).mono ?_); rintro e w1 ⟨p, rfl, r1, b1, hp1⟩; have hp2 := r1.lt; have R1 : RS (fun b => w.heap.size ≤ b ∧ b < w1.heap.size) w1 p bs 0 := .inl ⟨Nat.zero_le _, r1⟩))
      | (go_at_call 17; ((with_reducible refine (CR w1 p R1 hp2).mono ?_); rintro e w2 ⟨v2, k2, rfl, own2, r2, hk2, hris, o2⟩; dsimp only at own2 hk2 hris; obtain ⟨hri, hl256⟩ := hris rfl; obtain ⟨A2, c2, rfl, _, _⟩ := own_lists own2; have hkk := hk2 rfl; rw [← HK.out] at hkk; rw [hkk] at r2; rw [← HLN.out] at own2 hl256 ⊢; clear hk2 hris hkk; have s2 := o2.size; have CU := rsU16 p bs K w2 r2 (by omega); rw [show (rsn bs 2 K (rd2 bs K) : Nat) = T from HT.out.symm] at CU))
      | (go_at_call 19; ((with_reducible refine (CU).mono ?_); rintro e w3 ⟨rfl, r3, o3⟩; have CT := rs_take0 p bs (K + 2) T w3 r3 hL; have s3 := o3.size))
      | (go_at_call 18; ((with_reducible refine (CT).mono ?_); rintro e w4 ⟨v4, rfl, r4, o4⟩; have s4 := o4.size; have o24 := o3.trans o4 (fun b hb => .inl hb); have own4 := own_only own2 o24 (fun b hb hm => by have := ownS_low own2 b hb; simp at hm; omega)))
      | (go_at_call 21; ((with_reducible refine (CC A2 c2 _ w4 own4 hri hl256).mono ?_); rintro e w5 ⟨rfl, h5⟩; obtain rfl : w4 = w5 := h5.symm))
          | (go_at_call 20; ((with_reducible refine (CP _ w4 p r4 (HNL hri) (by omega) (hFP _ _ (by omega))).mono ?_); rintro e w6 ⟨⟨v6, rfl, own6, hPl, r6⟩, o6⟩; have s6 := o6.size; have CD := rs_doneC p bs kk w6 r6; rw [show decide (kk ≤ bs.length) = false by simpa using hkl] at CD))
          | (go_at_call 22; ((with_reducible refine (CD).mono ?_); rintro e w7 ⟨z7, rfl, hz7, h7⟩; obtain rfl : w6 = w7 := h7; have hz8 : (z7 != 0) = true := by simp only [bne, hz7]; rfl)))
        have hsz1 := b1.size
        have OT : Only w1 w6 [p] := (o2.trans o24 (fun b hb => .inl hb)).trans o6 (fun b hb => .inl hb)
        refine bodyPost_ret (results_tmp2 rfl _ _ _) rfl ?_
        rw [HR3.out]
        exact ⟨_, rfl, Own2.nil _ _, b1.trans (OT.to_below hsz1 (by simp; omega))⟩
  · have d1 : (z != 0) = true := by simpa using hz
    have HR := Lib.hid (show decB bs = ([], z) by rw [HD.out, if_neg hz])
    clear HD
    go_enter Try.func7, Try.ntmps7
    go_wp2_with (first
      | (go_at_call 16; ((with_reducible refine (CN _).mono ?_); rintro e w1 ⟨p, rfl, r1, b1, hp1⟩; have hp2 := r1.lt; have R1 : RS (fun b => w.heap.size ≤ b ∧ b < w1.heap.size) w1 p bs 0 := .inl ⟨Nat.zero_le _, r1⟩))
      | (go_at_call 17; ((with_reducible refine (CR w1 p R1 hp2).mono ?_); rintro e w2 ⟨v2, k2, rfl, own2, r2, hk2, hris, o2⟩; dsimp only at own2 hk2 hris)))
    have hsz1 := b1.size
    refine bodyPost_ret (results_tmp2 rfl _ _ _) rfl ?_
    rw [HR.out]
    exact ⟨_, rfl, Own2.nil _ _, b1.trans (o2.to_below hsz1 (by simp; omega))⟩

/-- Decode of any bytes. -/
def decS (E : List Value) : List (List Pt) × Int := if E = [] then ([], 0) else decB (E.take 90635)
theorem sdec_any (A : Option Addr) (c n : Nat) (E : List Value) (w : World) (hE : Lists w w.heap.size A E) (hn : E.length = n) (h8 : Bytes8 E) (hc : n ≤ c) (hc2 : c ≤ 9223372036854775807) (hm : n ≤ 281474976710656) :
    Calls Try.prog 7 #[.slice A n c] w (SDecP w (decS E)) := by
  unfold decS
  by_cases h0 : E = []
  · rw [if_pos h0]
    have hz : n = 0 := by rw [← hn, h0]; rfl
    subst hz
    go_enter Try.func7, Try.ntmps7
    go_wp2
    exact bodyPost_ret (results_tmp2 rfl _ _ _) rfl ⟨_, rfl, Own2.nil _ _, Below.refl _ _⟩
  · rw [if_neg h0]
    have h1 : 1 ≤ n := by
      rcases Nat.eq_zero_or_pos n with h | h
      · exact absurd (List.eq_nil_of_length_eq_zero (hn.trans h)) h0
      · exact h
    by_cases hl : n ≤ 90635
    · rw [List.take_of_length_le (by omega)]
      exact sdec_s A c n E w hE hn hl h1 h8 hc hc2 hm
    · refine sdec_l A c n (E.take 90635) w ?_ (by rw [List.length_take]; omega) (by omega) h1 (fun v hv => h8 v (List.mem_of_mem_take hv)) hc hc2 hm
      have := lists_part hE 0 90635
      rw [List.drop_zero] at this
      cases A with
      | none => simpa using this
      | some a => simpa [Addr.add] using this
end Go.Proofs.Ytelhckckcilpaaa

namespace Go.Proofs.Ytelhckckcilpaaa
open Go Go.RowKit
set_option linter.unusedVariables false
set_option linter.unusedSimpArgs false

set_option maxRecDepth 100000 in
theorem spkind_s (A : Option Addr) (c n : Nat) (bs : List Value) (w : World) (hE : Lists w w.heap.size A bs) (hbl : bs.length = n) (hmn : n ≤ 2) (hn1 : 1 ≤ n) (h8' : Bytes8 bs) (hc : n ≤ c) (hc2 : c ≤ 9223372036854775807) (hm : n ≤ 140737488355328) :
    Calls Try.prog 11 #[.slice A n c] w fun e w' => e = .returned (.int .i64 (if ib2 bs 0 < 0 then 2 else 1)) ∧ Below w.heap.size w w' := by
  have CN := fun c' => new_any A n c' bs w hE hbl h8' (by omega)
  have hL : bs.length ≤ 4611686018427387904 := by omega
  have hmn2 : ((n : Nat) : Int) ≤ 2 := by omega
  have d0 : ((n : Int) == 0) = false := by simp; omega
  obtain ⟨R, hR⟩ : ∃ R : Int, R = (if ib2 bs 0 < 0 then 2 else 1) := ⟨_, rfl⟩
  rw [← hR]
  rw [show ib2 bs 0 = s16 (rsn bs 2 0 (rd2 bs 0)) from rfl] at hR
  clear hE hbl
  by_cases hz : s16 (rsn bs 2 0 (rd2 bs 0)) < 0
  · have HR := Lib.hid (show R = 2 by rw [hR, if_pos hz])
    clear hR
    go_enter Try.func11, Try.ntmps11
    go_wp2_with (first
      | (go_at_call 16; ((with_reducible refine (CN _).mono ?_); rintro e w1 ⟨p, rfl, r1, b1, hp1⟩; have hp2 := r1.lt; have R1 : RS (fun b => w.heap.size ≤ b ∧ b < w1.heap.size) w1 p bs 0 := .inl ⟨Nat.zero_le _, r1⟩; have CI := rsI16 p bs 0 w1 R1 hL))
      | (go_at_call 30; ((with_reducible refine (CI).mono ?_); rintro e w3 ⟨rfl, r3, o3⟩; have s3 := o3.size)))
    go_ret
    exact ⟨by rw [HR.out]; rfl, b1.trans (o3.to_below b1.size (by simp; omega))⟩
  · have HR := Lib.hid (show R = 1 by rw [hR, if_neg hz])
    clear hR
    go_enter Try.func11, Try.ntmps11
    go_wp2_with (first
      | (go_at_call 16; ((with_reducible refine (CN _).mono ?_); rintro e w1 ⟨p, rfl, r1, b1, hp1⟩; have hp2 := r1.lt; have R1 : RS (fun b => w.heap.size ≤ b ∧ b < w1.heap.size) w1 p bs 0 := .inl ⟨Nat.zero_le _, r1⟩; have CI := rsI16 p bs 0 w1 R1 hL))
      | (go_at_call 30; ((with_reducible refine (CI).mono ?_); rintro e w3 ⟨rfl, r3, o3⟩; have s3 := o3.size)))
    go_ret
    exact ⟨by rw [HR.out]; rfl, b1.trans (o3.to_below b1.size (by simp; omega))⟩
set_option maxRecDepth 100000 in
theorem spkind_l (A : Option Addr) (c n : Nat) (bs : List Value) (w : World) (hE : Lists w w.heap.size A bs) (hbl : bs.length = 2) (hmn : 2 < n) (hn1 : 1 ≤ n) (h8' : Bytes8 bs) (hc : n ≤ c) (hc2 : c ≤ 9223372036854775807) (hm : n ≤ 140737488355328) :
    Calls Try.prog 11 #[.slice A n c] w fun e w' => e = .returned (.int .i64 (if ib2 bs 0 < 0 then 2 else 1)) ∧ Below w.heap.size w w' := by
  have CN := fun c' => new_any A 2 c' bs w hE hbl h8' (by omega)
  have hL : bs.length ≤ 4611686018427387904 := by omega
  have hmn2 : ((2 : Nat) : Int) ≤ 2 := by omega
  have d0 : ((n : Int) == 0) = false := by simp; omega
  obtain ⟨R, hR⟩ : ∃ R : Int, R = (if ib2 bs 0 < 0 then 2 else 1) := ⟨_, rfl⟩
  rw [← hR]
  rw [show ib2 bs 0 = s16 (rsn bs 2 0 (rd2 bs 0)) from rfl] at hR
  clear hE hbl
  by_cases hz : s16 (rsn bs 2 0 (rd2 bs 0)) < 0
  · have HR := Lib.hid (show R = 2 by rw [hR, if_pos hz])
    clear hR
    go_enter Try.func11, Try.ntmps11
    go_wp2_with (first
      | (go_at_call 16; ((with_reducible refine (CN _).mono ?_); rintro e w1 ⟨p, rfl, r1, b1, hp1⟩; have hp2 := r1.lt; have R1 : RS (fun b => w.heap.size ≤ b ∧ b < w1.heap.size) w1 p bs 0 := .inl ⟨Nat.zero_le _, r1⟩; have CI := rsI16 p bs 0 w1 R1 hL))
      | (go_at_call 30; ((with_reducible refine (CI).mono ?_); rintro e w3 ⟨rfl, r3, o3⟩; have s3 := o3.size)))
    go_ret
    exact ⟨by rw [HR.out]; rfl, b1.trans (o3.to_below b1.size (by simp; omega))⟩
  · have HR := Lib.hid (show R = 1 by rw [hR, if_neg hz])
    clear hR
    go_enter Try.func11, Try.ntmps11
    go_wp2_with (first
      | (go_at_call 16; ((with_reducible refine (CN _).mono ?_); rintro e w1 ⟨p, rfl, r1, b1, hp1⟩; have hp2 := r1.lt; have R1 : RS (fun b => w.heap.size ≤ b ∧ b < w1.heap.size) w1 p bs 0 := .inl ⟨Nat.zero_le _, r1⟩; have CI := rsI16 p bs 0 w1 R1 hL))
      | (go_at_call 30; ((with_reducible refine (CI).mono ?_); rintro e w3 ⟨rfl, r3, o3⟩; have s3 := o3.size)))
    go_ret
    exact ⟨by rw [HR.out]; rfl, b1.trans (o3.to_below b1.size (by simp; omega))⟩
/-- What Kind answers. -/
def knE (E : List Value) : Int := if E = [] then 0 else if ib2 (E.take 2) 0 < 0 then 2 else 1
set_option maxRecDepth 100000 in
theorem spkind_any (A : Option Addr) (c n : Nat) (E : List Value) (w : World) (hE : Lists w w.heap.size A E) (hn : E.length = n) (h8 : Bytes8 E) (hc : n ≤ c) (hc2 : c ≤ 9223372036854775807) (hm : n ≤ 140737488355328) :
    Calls Try.prog 11 #[.slice A n c] w fun e w' => e = .returned (.int .i64 (knE E)) ∧ Below w.heap.size w w' := by
  unfold knE
  by_cases h0 : E = []
  · rw [if_pos h0]
    have hz : n = 0 := by rw [← hn, h0]; rfl
    subst hz
    go_enter Try.func11, Try.ntmps11
    go_wp2
    go_ret
    exact ⟨rfl, Below.refl _ _⟩
  · rw [if_neg h0]
    have hn1 : 1 ≤ n := by have := List.length_pos_iff.2 h0; omega
    by_cases h2 : n ≤ 2
    · rw [List.take_of_length_le (by omega)]
      exact spkind_s A c n E w hE hn h2 hn1 h8 hc hc2 hm
    · refine spkind_l A c n (E.take 2) w ?_ (by rw [List.length_take]; omega) (by omega) hn1 (fun v hv => h8 v (List.mem_of_mem_take hv)) hc hc2 hm
      have := lists_part hE 0 2
      rw [List.drop_zero] at this
      cases A with
      | none => simpa using this
      | some a => simpa [Addr.add] using this
set_option maxRecDepth 100000 in
theorem spinto_any (m p : Nat) (w : World) : Calls Try.prog 46 #[.func (.func m) #[.pointer (some ⟨p, 0, none⟩)] #[]] w fun e w' => e = .returned (.func (.func 77) #[] #[.pointer (some ⟨w.heap.size, 0, none⟩)]) ∧ w' = w.alloc (.cells #[.func (.func m) #[.pointer (some ⟨p, 0, none⟩)] #[]] 66) := by
  go_enter Try.func46, Try.ntmps46
  go_wp2
  go_ret
  exact ⟨rfl, rfl⟩
end Go.Proofs.Ytelhckckcilpaaa

namespace Go.Proofs.Ytelhckckcilpaaa
open Go Go.RowKit

/-- Blocks of other kinds than a writer's stay. -/
def Safe (w w' : World) : Prop := ∀ (q : Nat) (T : TypeId) (cs : Array Value), T ≠ 5 → T ≠ 111 → T ≠ 103 → Blk w q T cs → Blk w' q T cs
theorem wr_safe {w w' : World} {p R : Nat} {F : Bool} {L : List Value} {fp : List Nat} (h : Wr w p R F L fp) (o : Only w w' fp) : Safe w w' := by
  obtain ⟨D, G, dv, gv, hb, hd, hg, _, _, _, _, rfl⟩ := h
  intro q T cs n1 n2 n3 hq
  refine hq.only o fun hm => ?_
  rcases List.mem_cons.1 hm with rfl | hm
  · unfold Blk at hb hq
    rw [hb] at hq
    injection hq with hq
    injection hq with _ e
    exact n3 e.symm
  · rcases List.mem_append.1 hm with hm | hm
    · exact own_ne hd hq n1.symm hm
    · exact own_ne hg hq n2.symm hm

/-- A writer that was made since world w0. -/
def WS (w0 w : World) (p R : Nat) (L : List Value) : Prop := ∃ fp, Wr w p R false L fp ∧ Below w0.heap.size w0 w ∧ ∀ b ∈ fp, w0.heap.size ≤ b
theorem WS.below {w0 w w1 : World} {p R : Nat} {L : List Value} (h : WS w0 w p R L) (k : Below w.heap.size w w1) : WS w0 w1 p R L := by
  obtain ⟨fp, hW, b, hf⟩ := h
  exact ⟨fp, hW.only (Only.of_below k []) (fun _ _ h => (nomatch h)), b.trans (k.mono b.size), hf⟩
theorem WS.alloc {w0 w : World} {p R : Nat} {L : List Value} (h : WS w0 w p R L) (o : Obj) : WS w0 (w.alloc o) p R L := h.below ((Below.refl _ _).alloc (Nat.le_refl _) o)
theorem WS.old {w0 w : World} {p R : Nat} {L : List Value} (h : WS w0 w p R L) : Below w0.heap.size w0 w := h.elim fun _ h => h.2.1
def Wrote (w0 w : World) (p R : Nat) (L E : List Value) (e : Ending) (w' : World) : Prop := e = .returned (.pointer (some ⟨p, 0, none⟩)) ∧ WS w0 w' p R (L ++ E) ∧ Safe w w' ∧ w.heap.size ≤ w'.heap.size
theorem ws_put {w0 w : World} {p R : Nat} {L E : List Value} {f : FuncId} {args : Array Value} (h : WS w0 w p R L) (hx : L.length + E.length ≤ R)
    (hc : ∀ fp, Wr w p R false L fp → Calls Try.prog f args w fun e w' => e = .returned (.pointer (some ⟨p, 0, none⟩)) ∧ Put w w' p R false L fp E) :
    Calls Try.prog f args w (Wrote w0 w p R L E) := by
  obtain ⟨fp, hW, b, hf⟩ := h
  refine (hc fp hW).mono fun e w' ⟨he, fp', h1, h2, h3⟩ => ⟨he, ⟨fp', ?_, ?_, fun x hx => ?_⟩, wr_safe hW h2, h2.size⟩
  · have e1 : putF R false L E = false := by unfold putF; simp; exact hx
    rw [e1] at h1
    unfold putL at h1
    rw [e1, if_neg (by simp)] at h1
    exact h1
  · exact b.trans (h2.to_below b.size hf)
  · rcases h3 x hx with h | h
    · exact hf x h
    · have := b.size; omega
theorem wsU16 (w0 w : World) (p R : Nat) (L : List Value) (x : Int) (h : WS w0 w p R L) (hx : L.length + 2 ≤ R) (hR : R ≤ 1099511627776) :
    Calls Try.prog 42 #[.pointer (some ⟨p, 0, none⟩), .int .i64 x] w (Wrote w0 w p R L (be2 x)) := ws_put h hx fun fp hW => wU16_any p R false L fp x w hW hR
theorem wsI16 (w0 w : World) (p R : Nat) (L : List Value) (x : Int) (h : WS w0 w p R L) (hx : L.length + 2 ≤ R) (hR : R ≤ 1099511627776) :
    Calls Try.prog 39 #[.pointer (some ⟨p, 0, none⟩), .int .i64 x] w (Wrote w0 w p R L (be2 x)) := ws_put h hx fun fp hW => wI16_any p R false L fp x w hW hR
theorem own_base {w : World} {base base1 : Nat} {e : TypeId} {size n : Nat} {v : Value} {xs : List Value} (h : w.ownsRow base e size v n xs) (hb : base1 ≤ base) : w.ownsRow base1 e size v n xs :=
  ⟨h.1, h.2.imp id fun ⟨g, cap, cur, h1, h2, h3⟩ => ⟨g, cap, cur, h1, Nat.le_trans hb h2, h3⟩⟩
theorem wsDone (w0 w : World) (p R : Nat) (L : List Value) (h : WS w0 w p R L) (hR : R ≤ 2147483647) :
    Calls Try.prog 48 #[.pointer (some ⟨p, 0, none⟩)] w (Gave w0 L) := by
  obtain ⟨fp, hW, b, hf⟩ := h
  exact (wdone_any p R L fp w hW hR).mono fun e w' ⟨A, c, h1, h2, h3⟩ => ⟨A, c, h1, own_base h2 b.size, b.trans (h3.mono b.size)⟩
/-- A new writer was answered. -/
def MadeWS (w0 w : World) (R : Nat) (e : Ending) (w' : World) : Prop := ∃ p, e = .returned (.pointer (some ⟨p, 0, none⟩)) ∧ WS w0 w' p R [] ∧ Below w.heap.size w w'
theorem wsTo (w0 w : World) (R : Nat) (hb : Below w0.heap.size w0 w) : Calls Try.prog 38 #[.int .i64 (R : Nat)] w (MadeWS w0 w R) := by
  refine (to_any (R : Nat) w).mono fun e w' ⟨p, fp, h1, h2, h3, h4⟩ => ⟨p, h1, ⟨fp, h2, hb.trans (h3.mono hb.size), fun b hm => ?_⟩, h3⟩
  have := h4 b hm
  have := hb.size
  omega
theorem wsU8 (w0 w : World) (p R : Nat) (L : List Value) (x : Int) (h : WS w0 w p R L) (hx : L.length + 1 ≤ R) (hR : R ≤ 1099511627776) :
    Calls Try.prog 47 #[.pointer (some ⟨p, 0, none⟩), .int .i64 x] w (Wrote w0 w p R L (be1 x)) := ws_put h hx fun fp hW => wU8_any p R false L fp x w hW hR

end Go.Proofs.Ytelhckckcilpaaa

namespace Go.Proofs.Ytelhckckcilpaaa
open Go Go.RowKit

section
variable {P : Program} (w : World)

theorem run_append_src_wide (base : Nat) (t ty e : TypeId) (i : TypeInfo) (z : Value) (size bytes : Nat) (ht : P.underlying t = some (.slice e)) (hi : P.info? e = some i) (hz : i.zero = some z)
    (hsize : i.size = size) (hby : i.bytes = bytes) (hzs : z.cells.size = size) (hsz : 0 < size) (v : Value) (n : Nat) (xs : List Value) (hown : w.ownsRow base e size v n xs)
    (B : Nat) (A : Option Addr) (m c : Nat) (news : List Value) (hr : Lists w B A news) (hl : news.length = m * size) (h1 : ∀ u ∈ news, u.oneCell' = true)
    (h63 : n + m ≤ maxLen) (hbytes : ((n + m) + (n + m) / 4 + 192) * bytes ≤ 281474976710656) (hbase : base ≤ w.heap.size) :
    ∃ v' w', (Builtin.append_ #[t, t] ty #[v, .slice A m c]).run P w = .ok v' w' ∧ w'.ownsRow base e size v' (n + m) (xs ++ news) ∧ w.grownBy w' v.ownBlock := by
  cases A with
  | none =>
    have hn : news = [] := hr.nil rfl
    subst hn
    have hm : m = 0 := by
      have : m * size = 0 := by simpa using hl.symm
      rcases Nat.mul_eq_zero.1 this with h | h
      · exact h
      · omega
    subst hm
    refine ⟨v, w, ?_, by simpa using hown, World.grownBy.refl w _⟩
    rcases hown.2 with ⟨rfl, rfl⟩ | ⟨g, cap, cur, rfl, _, _, hc, _⟩
    · simp [Builtin.append_, run_underlying ht, sizeOf, typeInfo, hi, Builtin.lenOf, Builtin.firstCells]
    · simp [Builtin.append_, run_underlying ht, sizeOf, typeInfo, hi, Builtin.lenOf, Builtin.firstCells, hc, storeCells]
  | some ad =>
    obtain ⟨v', w', hrun, h2, h3, _⟩ := run_append_own_wide (P := P) w base t ty e i z size bytes ht hi hz hsize hby hzs hsz v n xs hown ad m c news hl (hr.cell ad rfl) h1 h63 hbytes hbase
    exact ⟨v', w', hrun, h2, h3⟩

theorem wp_append_src_wide {o : Oper} {a : Act} {K : Act → World → Prop} {Q : Exit → Act → World → Prop} (s x : Operand) (t : TypeId)
    (ho : o.op = .call { callee := .builtin .append, args := #[s, x], argTypes := #[t, t] })
    (base : Nat) (e : TypeId) (i : TypeInfo) (z : Value) (size bytes : Nat) (ht : P.underlying t = some (.slice e)) (hi : P.info? e = some i) (hz : i.zero = some z)
    (hsize : i.size = size) (hby : i.bytes = bytes) (hzs : z.cells.size = size) (hsz : 0 < size)
    (v : Value) (n : Nat) (xs : List Value) (hs : a.eval s = v) (hown : w.ownsRow base e size v n xs)
    (B : Nat) (A : Option Addr) (m c : Nat) (news : List Value) (hx : a.eval x = .slice A m c) (hr : Lists w B A news) (hl : news.length = m * size) (h1 : ∀ u ∈ news, u.oneCell' = true)
    (h63 : n + m ≤ maxLen) (hbytes : ((n + m) + (n + m) / 4 + 192) * bytes ≤ 281474976710656) (hbase : base ≤ w.heap.size)
    (h : ∀ v' w', w'.ownsRow base e size v' (n + m) (xs ++ news) → w.grownBy w' v.ownBlock → K (a.put o.dst v') w') : o.wp P a w K Q := by
  obtain ⟨v', w', hrun, h2, h3⟩ := run_append_src_wide (P := P) w base t o.type e i z size bytes ht hi hz hsize hby hzs hsz v n xs hown B A m c news hr hl h1 h63 hbytes hbase
  unfold Oper.wp execOp
  simp only [ho, resolve, invoke, builtin, Sem.run_bind, Sem.run_pure, Result.andThen_ok, List.map_toArray, List.map_cons, List.map_nil, hs, hx, hrun]
  exact h v' w' h2 h3

theorem wpList_append_src_wide {ops : Array Oper} {rest : List Oper} {o : Oper} {a : Act} {Q : Exit → Act → World → Prop} (hgd : o.guard = none) (s x : Operand) (t : TypeId)
    (ho : o.op = .call { callee := .builtin .append, args := #[s, x], argTypes := #[t, t] })
    (base : Nat) (e : TypeId) (i : TypeInfo) (z : Value) (size bytes : Nat) (ht : P.underlying t = some (.slice e)) (hi : P.info? e = some i) (hz : i.zero = some z)
    (hsize : i.size = size) (hby : i.bytes = bytes) (hzs : z.cells.size = size) (hsz : 0 < size)
    (v : Value) (n : Nat) (xs : List Value) (hs : a.eval s = v) (hown : w.ownsRow base e size v n xs)
    (B : Nat) (A : Option Addr) (m c : Nat) (news : List Value) (hx : a.eval x = .slice A m c) (hr : Lists w B A news) (hl : news.length = m * size) (h1 : ∀ u ∈ news, u.oneCell' = true)
    (h63 : n + m ≤ maxLen) (hbytes : ((n + m) + (n + m) / 4 + 192) * bytes ≤ 281474976710656) (hbase : base ≤ w.heap.size)
    (h : ∀ v' w', w'.ownsRow base e size v' (n + m) (xs ++ news) → w.grownBy w' v.ownBlock → wpList P ops Q rest (a.put o.dst v') w') : wpList P ops Q (o :: rest) a w :=
  wpList_plain hgd fun _ hK => wp_append_src_wide w s x t ho base e i z size bytes ht hi hz hsize hby hzs hsz v n xs hs hown B A m c news hx hr hl h1 h63 hbytes hbase fun v' w' h2 h3 => hK _ _ (h v' w' h2 h3)
end

end Go.Proofs.Ytelhckckcilpaaa

namespace Go.Proofs.Ytelhckckcilpaaa
open Go Go.RowKit
set_option linter.unusedVariables false
set_option linter.unusedSimpArgs false

section
variable {P : Program} {ops : Array Oper} {I : World → Prop} {E : Act → World → Prop} {i : Nat} {r : List (Nat × Bool)} {o : Oper} {a : Act} {w : World}
theorem ChainL.appendW (hi : ops[i]? = some o) (hw : Region.wanted o (yielded ops a.tmps) = true) (s x : Operand) (t : TypeId)
    (ho : o.op = .call { callee := .builtin .append, args := #[s, x], argTypes := #[t, t] })
    (base : Nat) (e : TypeId) (info : TypeInfo) (z : Value) (size bytes : Nat) (ht : P.underlying t = some (.slice e)) (hi' : P.info? e = some info) (hz : info.zero = some z)
    (hsize : info.size = size) (hby : info.bytes = bytes) (hzs : z.cells.size = size) (hsz : 0 < size)
    (v : Value) (n : Nat) (xs : List Value) (hs : a.eval s = v) (hown : w.ownsRow base e size v n xs)
    (B : Nat) (A : Option Addr) (m c : Nat) (news : List Value) (hx : a.eval x = .slice A m c) (hr : Lists w B A news) (hl : news.length = m * size) (h1 : ∀ u ∈ news, u.oneCell' = true)
    (h63 : n + m ≤ maxLen) (hbytes : ((n + m) + (n + m) / 4 + 192) * bytes ≤ 281474976710656) (hbase : base ≤ w.heap.size)
    (h : ∀ v' w', w'.ownsRow base e size v' (n + m) (xs ++ news) → w.grownBy w' v.ownBlock → I w' ∧ ChainL P ops E I r (a.put o.dst v') w') : ChainL P ops E I ((i, true) :: r) a w := by
  obtain ⟨v', w', hrun, h2, h3⟩ := run_append_src_wide (P := P) w base t o.type e info z size bytes ht hi' hz hsize hby hzs hsz v n xs hown B A m c news hr hl h1 h63 hbytes hbase
  refine ⟨o, hi, hw, .inl ⟨v', w', ?_, h v' w' h2 h3⟩⟩
  unfold execOp
  simp only [ho, resolve, invoke, builtin, Sem.run_bind, Sem.run_pure, Result.andThen_ok, List.map_toArray, List.map_cons, List.map_nil, hs, hx, hrun]
end
theorem own_new (w : World) : (w.alloc (.cells #[] 5)).ownsRow w.heap.size 5 1 (.slice (some ⟨w.heap.size, 0, none⟩) 0 0) 0 [] := ⟨rfl, .inr ⟨w.heap.size, 0, #[], rfl, Nat.le_refl _, heap_alloc_new w _, Nat.le_refl _, Nat.zero_le _, rfl, rfl⟩⟩
theorem own_new_at (w : World) (k : Nat) (hk : k = w.heap.size) : (w.alloc (.cells #[] 5)).ownsRow k 5 1 (.slice (some ⟨k, 0, none⟩) 0 0) 0 [] := hk ▸ own_new w

end Go.Proofs.Ytelhckckcilpaaa

namespace Go.Proofs.Ytelhckckcilpaaa
open Go Go.RowKit
set_option linter.unusedVariables false
set_option linter.unusedSimpArgs false

/-- A writer's state: is it full, and its bytes. -/
abbrev WSt := Bool × List Value
def pst (R : Nat) (s : WSt) (E : List Value) : WSt := (putF R s.1 s.2 E, putL R s.1 s.2 E)
/-- The memory that the carriers that write share: the writer, made since w0, the two boxes, the flags. -/
structure WIn (w0 : World) (p R bx1 bx2 base : Nat) (fv : Value) (F : List Nat) (s : WSt) (W : World) : Prop where
  wr : ∃ fp, Wr W p R s.1 s.2 fp ∧ Below w0.heap.size w0 W ∧ ∀ b ∈ fp, w0.heap.size ≤ b
  box1 : Blk W bx1 66 #[.func (.func 47) #[.pointer (some ⟨p, 0, none⟩)] #[]]
  box2 : Blk W bx2 66 #[.func (.func 39) #[.pointer (some ⟨p, 0, none⟩)] #[]]
  flags : W.ownsRow base 3 1 fv F.length (ints F)
def okW (w0 : World) (fv : Value) (b : Nat) : Prop := w0.heap.size ≤ b ∧ b ∉ blk fv
/-- Each row of ints but b stays. -/
structure TW (b : Nat) (W W' : World) : Prop where
  size : W.heap.size ≤ W'.heap.size
  keep : ∀ (x : Nat) (cs : Array Value), x ≠ b → Blk W x 3 cs → Blk W' x 3 cs
theorem own_safe {w w' : World} {base n : Nat} {v : Value} {xs : List Value} (h : w.ownsRow base 3 1 v n xs) (hk : ∀ (x : Nat) (cs : Array Value), x ∈ blk v → Blk w x 3 cs → Blk w' x 3 cs) : w'.ownsRow base 3 1 v n xs := by
  rcases h.2 with ⟨h1, h2⟩ | ⟨g, cap, cur, h1, h2, h3, h5⟩
  · exact ⟨h.1, .inl ⟨h1, h2⟩⟩
  · exact ⟨h.1, .inr ⟨g, cap, cur, h1, h2, hk g cur (by rw [h1]; simp [blk, Value.ownBlock]) h3, h5⟩⟩
theorem wr_apart {W : World} {p R : Nat} {F : Bool} {L : List Value} {fp : List Nat} (h : Wr W p R F L fp) {b : Nat} {cs : Array Value} (hb : Blk W b 3 cs) : b ∉ fp := by
  obtain ⟨D, G, dv, gv, hp, hd, hg, _, _, _, _, rfl⟩ := h
  intro hm
  rcases List.mem_cons.1 hm with rfl | hm
  · unfold Blk at hp hb
    rw [hb] at hp
    injection hp with hp
    injection hp with _ e
    exact absurd e (by decide)
  · rcases List.mem_append.1 hm with hm | hm
    · exact own_ne hd hb (by decide) hm
    · exact own_ne hg hb (by decide) hm
theorem shared_w (w0 : World) (p R bx1 bx2 base : Nat) (A : Option Addr) (c n : Nat) (F : List Nat) (hF : F.length = n) : Shared (WIn w0 p R bx1 bx2 base (.slice A n c) F) TW (okW w0 (.slice A n c)) A F where
  stay := fun s W W' fp' h o hf => by
    obtain ⟨fp, h1, h2, h3⟩ := h.wr
    have hne : ∀ (T : TypeId) (x : Nat) (cs : Array Value), T ≠ 3 → Blk W x T cs → x ∉ fp' := fun T x cs hT hb hm => by
      obtain ⟨_, cs', hb'⟩ := hf x hm
      unfold Blk at hb hb'
      rw [hb] at hb'
      injection hb' with hb'
      injection hb' with _ e
      exact hT e
    refine ⟨⟨fp, h1.only o (fun b hb hm => ?_), h2.trans (o.to_below h2.size (fun b hb => (hf b hb).1.1)), h3⟩, h.box1.only o (hne _ _ _ (by decide) h.box1), h.box2.only o (hne _ _ _ (by decide) h.box2), own_only h.flags o (fun b hb hm => (hf b hm).1.2 hb)⟩
    obtain ⟨_, cs', hb'⟩ := hf b hm
    exact wr_apart h1 hb' hb
  fresh := fun s W h b hb => ⟨by obtain ⟨_, _, h2, _⟩ := h.wr; have := h2.size; omega, fun hm => by have := blk_lt h.flags b hm; omega⟩
  flag := fun s W h i f hf => by
    obtain ⟨A', c', he, hl, _⟩ := own_lists h.flags
    have hA : A = A' := by injection he
    subst hA
    have hi : (ints F)[i]? = some (.int .i64 (f : Nat)) := by unfold ints; rw [List.getElem?_map, hf]; rfl
    obtain ⟨b, o, rfl, hb, hc⟩ := hl.plain (by intro e; rw [e] at hi; simp at hi)
    exact ⟨b, o, rfl, hb, hc i _ hi⟩
  refl := fun b W => ⟨Nat.le_refl _, fun _ _ _ h => h⟩
  trans := fun b W W1 W2 h k => ⟨Nat.le_trans h.size k.size, fun x cs hx hb => k.keep x cs hx (h.keep x cs hx hb)⟩
  set := fun b W W1 i v h => ⟨by simpa using h.size, fun x cs hx hb => (h.keep x cs hx hb).other hx v⟩
  temp := fun b W o W1 h => ⟨by have := h.size; rw [World.size_alloc] at this; omega, fun x cs hx hb => h.keep x cs (by have := hb.lt; omega) (hb.below (below_a1 W o))⟩
  keep := fun b x W W1 cs h hne hok hb => h.keep x cs hne hb
set_option maxRecDepth 100000 in
theorem carw_u8 (w0 : World) (p R bx1 bx2 base : Nat) (A : Option Addr) (c n : Nat) (F : List Nat) (hF : F.length = n) (hR : R ≤ 1099511627776) : Carrier 77 bx1 (WIn w0 p R bx1 bx2 base (.slice A n c) F) TW (okW w0 (.slice A n c)) (fun s v => (v, pst R s (be1 v))) where
  eg := enters_of Try.func77 (by kernel_rfl) rfl
  bound := fun s v h0 h1 => ⟨h0, h1⟩
  does := fun s W b o cs v hI hb hc hok h0 h1 => by
    obtain ⟨fp, hw, hb0, hf⟩ := hI.wr
    have BD : Below W.heap.size W W.drew := (Below.refl _ _).drew
    have hwd : Wr W.drew p R s.1 s.2 fp := hw.only (Only.of_below BD []) (fun _ _ h => (nomatch h))
    have CU := wU8_any p R s.1 s.2 fp v W.drew hwd hR
    have hS : Safe W W.drew := fun q T cs _ _ _ hq => hq.below BD
    have hII : ∀ w1, Safe W w1 → w1.cell? ⟨bx1, 0, none⟩ = some (.func (.func 47) #[.pointer (some ⟨p, 0, none⟩)] #[]) ∧ w1.cell? ⟨b, o, none⟩ = some (.int .i64 v) :=
      fun w1 hs => ⟨(hs _ _ _ (by decide) (by decide) (by decide) hI.box1).cell 0, ((hs b _ cs (by decide) (by decide) (by decide) hb).cell o).trans hc⟩
    have HW := Lib.hid hwd
    have HBD := Lib.hid BD
    clear hw hwd BD
    go_enter Try.func77, Try.ntmps77
    go_wp2
    refine wp_region_chain (fun w' => w'.cell? ⟨bx1, 0, none⟩ = some (.func (.func 47) #[.pointer (some ⟨p, 0, none⟩)] #[]) ∧ w'.cell? ⟨b, o, none⟩ = some (.int .i64 v)) [(0, false), (1, false), (2, false), (3, false), (4, true)] (by kernel_rfl) (by kernel_rfl) (hII _ hS) ?_
    repeat (first
      | (refine ChainL.skip (o := ?_) ?_ ?_ ?_; rotate_left; (focus (first | (simp only [List.getElem?_toArray, List.getElem?_cons_succ, List.getElem?_cons_zero]; with_reducible rfl) | (simp only [List.getElem?_toArray, List.getElem?_cons_zero]; with_reducible rfl))); (focus rfl); simp only [Act.put, List.setIfInBounds_toArray, List.set_cons_zero, List.set_cons_succ])
      | (refine ChainL.val (o := ?_) (v := ?_) ?_ ?_ ?_ ?_ ?_; rotate_left 2; (focus (first | (simp only [List.getElem?_toArray, List.getElem?_cons_succ, List.getElem?_cons_zero]; with_reducible rfl) | (simp only [List.getElem?_toArray, List.getElem?_cons_zero]; with_reducible rfl))); (focus (intro _ _ h; cases h)); (focus rfl); (focus (intro w' hI; obtain ⟨g0, g1⟩ := hI; go_simp <;> with_reducible rfl)); simp only [Act.put, List.setIfInBounds_toArray, List.set_cons_zero, List.set_cons_succ]))
    refine ChainL.call (o := ?_) (f := ?_) (args := ?_) ?_ ?_ ?_ ?_
    rotate_left 3
    (focus (simp only [List.getElem?_toArray, List.getElem?_cons_succ, List.getElem?_cons_zero]; with_reducible rfl))
    (focus rfl)
    (focus (go_simp; (constructor <;> with_reducible rfl)))
    refine (CU).mono ?_
    rintro e w2 ⟨rfl, fp2, hw2, o2, hf2⟩
    have hs2 : Safe W w2 := fun q T cs m1 m2 m3 hq => wr_safe HW.out o2 q T cs m1 m2 m3 (hS q T cs m1 m2 m3 hq)
    refine ⟨_, rfl, hII _ hs2, ?_⟩
    simp only [Act.put, List.setIfInBounds_toArray, List.set_cons_zero, List.set_cons_succ]
    refine ChainL.nil ?_
    go_wp2
    go_end0
    have hz : W.heap.size ≤ w2.heap.size := Nat.le_trans HBD.out.size o2.size
    refine ⟨rfl, ⟨⟨fp2, hw2, hb0.trans (HBD.out.mono hb0.size |>.trans (o2.to_below (Nat.le_trans hb0.size HBD.out.size) hf)), fun x hx => ?_⟩, hs2 _ _ _ (by decide) (by decide) (by decide) hI.box1, hs2 _ _ _ (by decide) (by decide) (by decide) hI.box2, own_safe hI.flags fun x cs _ hx => hs2 _ _ _ (by decide) (by decide) (by decide) hx⟩, by rw [set_same hc]; exact hs2 _ _ _ (by decide) (by decide) (by decide) hb, ⟨hz, fun x cs _ hx => hs2 _ _ _ (by decide) (by decide) (by decide) hx⟩⟩
    rcases hf2 x hx with h | h
    · exact hf x h
    · have := hb0.size; have := HBD.out.size; omega
set_option maxRecDepth 100000 in
theorem carw_i16 (w0 : World) (p R bx1 bx2 base : Nat) (A : Option Addr) (c n : Nat) (F : List Nat) (hF : F.length = n) (hR : R ≤ 1099511627776) : Carrier 77 bx2 (WIn w0 p R bx1 bx2 base (.slice A n c) F) TW (okW w0 (.slice A n c)) (fun s v => (v, pst R s (be2 v))) where
  eg := enters_of Try.func77 (by kernel_rfl) rfl
  bound := fun s v h0 h1 => ⟨h0, h1⟩
  does := fun s W b o cs v hI hb hc hok h0 h1 => by
    obtain ⟨fp, hw, hb0, hf⟩ := hI.wr
    have BD : Below W.heap.size W W.drew := (Below.refl _ _).drew
    have hwd : Wr W.drew p R s.1 s.2 fp := hw.only (Only.of_below BD []) (fun _ _ h => (nomatch h))
    have CU := wI16_any p R s.1 s.2 fp v W.drew hwd hR
    have hS : Safe W W.drew := fun q T cs _ _ _ hq => hq.below BD
    have hII : ∀ w1, Safe W w1 → w1.cell? ⟨bx2, 0, none⟩ = some (.func (.func 39) #[.pointer (some ⟨p, 0, none⟩)] #[]) ∧ w1.cell? ⟨b, o, none⟩ = some (.int .i64 v) :=
      fun w1 hs => ⟨(hs _ _ _ (by decide) (by decide) (by decide) hI.box2).cell 0, ((hs b _ cs (by decide) (by decide) (by decide) hb).cell o).trans hc⟩
    have HW := Lib.hid hwd
    have HBD := Lib.hid BD
    clear hw hwd BD
    go_enter Try.func77, Try.ntmps77
    go_wp2
    refine wp_region_chain (fun w' => w'.cell? ⟨bx2, 0, none⟩ = some (.func (.func 39) #[.pointer (some ⟨p, 0, none⟩)] #[]) ∧ w'.cell? ⟨b, o, none⟩ = some (.int .i64 v)) [(0, false), (1, false), (2, false), (3, false), (4, true)] (by kernel_rfl) (by kernel_rfl) (hII _ hS) ?_
    repeat (first
      | (refine ChainL.skip (o := ?_) ?_ ?_ ?_; rotate_left; (focus (first | (simp only [List.getElem?_toArray, List.getElem?_cons_succ, List.getElem?_cons_zero]; with_reducible rfl) | (simp only [List.getElem?_toArray, List.getElem?_cons_zero]; with_reducible rfl))); (focus rfl); simp only [Act.put, List.setIfInBounds_toArray, List.set_cons_zero, List.set_cons_succ])
      | (refine ChainL.val (o := ?_) (v := ?_) ?_ ?_ ?_ ?_ ?_; rotate_left 2; (focus (first | (simp only [List.getElem?_toArray, List.getElem?_cons_succ, List.getElem?_cons_zero]; with_reducible rfl) | (simp only [List.getElem?_toArray, List.getElem?_cons_zero]; with_reducible rfl))); (focus (intro _ _ h; cases h)); (focus rfl); (focus (intro w' hI; obtain ⟨g0, g1⟩ := hI; go_simp <;> with_reducible rfl)); simp only [Act.put, List.setIfInBounds_toArray, List.set_cons_zero, List.set_cons_succ]))
    refine ChainL.call (o := ?_) (f := ?_) (args := ?_) ?_ ?_ ?_ ?_
    rotate_left 3
    (focus (simp only [List.getElem?_toArray, List.getElem?_cons_succ, List.getElem?_cons_zero]; with_reducible rfl))
    (focus rfl)
    (focus (go_simp; (constructor <;> with_reducible rfl)))
    refine (CU).mono ?_
    rintro e w2 ⟨rfl, fp2, hw2, o2, hf2⟩
    have hs2 : Safe W w2 := fun q T cs m1 m2 m3 hq => wr_safe HW.out o2 q T cs m1 m2 m3 (hS q T cs m1 m2 m3 hq)
    refine ⟨_, rfl, hII _ hs2, ?_⟩
    simp only [Act.put, List.setIfInBounds_toArray, List.set_cons_zero, List.set_cons_succ]
    refine ChainL.nil ?_
    go_wp2
    go_end0
    have hz : W.heap.size ≤ w2.heap.size := Nat.le_trans HBD.out.size o2.size
    refine ⟨rfl, ⟨⟨fp2, hw2, hb0.trans (HBD.out.mono hb0.size |>.trans (o2.to_below (Nat.le_trans hb0.size HBD.out.size) hf)), fun x hx => ?_⟩, hs2 _ _ _ (by decide) (by decide) (by decide) hI.box1, hs2 _ _ _ (by decide) (by decide) (by decide) hI.box2, own_safe hI.flags fun x cs _ hx => hs2 _ _ _ (by decide) (by decide) (by decide) hx⟩, by rw [set_same hc]; exact hs2 _ _ _ (by decide) (by decide) (by decide) hb, ⟨hz, fun x cs _ hx => hs2 _ _ _ (by decide) (by decide) (by decide) hx⟩⟩
    rcases hf2 x hx with h | h
    · exact hf x h
    · have := hb0.size; have := HBD.out.size; omega
end Go.Proofs.Ytelhckckcilpaaa
