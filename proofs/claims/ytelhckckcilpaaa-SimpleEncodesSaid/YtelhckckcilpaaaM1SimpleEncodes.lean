/- Part 17 of the proof: SpRb, SpRc, SpRd. -/
import Derived.Test.YtelhckckcilpaaaM0SimpleEncodes

namespace Go.Proofs.Ytelhckckcilpaaa
open Go Go.RowKit
set_option linter.unusedVariables false
set_option linter.unusedSimpArgs false

/-- What the reference's flags answers. -/
def RFlP (w : World) (B p : Nat) (bs : List Value) (n : Nat) (R : List Nat × Nat) (e : Ending) (w' : World) : Prop :=
  ∃ (A : Option Addr) (c : Nat) (F : List Nat) (b : Bool), e = .returned (.tuple #[.slice A F.length c, .bool b]) ∧ w'.ownsRow w.heap.size 3 1 (.slice A F.length c) F.length (ints F) ∧ b = decide (R.1.length = n ∧ R.2 ≤ bs.length) ∧ (b = true → F = R.1 ∧ RR w' B p bs R.2) ∧ Only w w' [p]
structure RFQ (w : World) (B p : Nat) (bs : List Value) (n : Nat) (R : List Nat × Nat) (k : Nat) (acc : List Nat) (v : Value) (W : World) : Prop where
  rd : RR W B p bs k
  own : W.ownsRow w.heap.size 3 1 v acc.length (ints acc)
  on : Only w W [p]
  le : acc.length ≤ n + 256
  run : ∃ j, n ≤ acc.length + j ∧ flgC bs n j k acc = R
set_option maxRecDepth 100000 in
set_option maxHeartbeats 2000000 in
theorem rrflags_any (B p k n : Nat) (bs : List Value) (w : World) (h : RR w B p bs k) (hn : n ≤ 1000000) :
    Calls Try.prog 27 #[.pointer (some ⟨p, 0, none⟩), .int .i64 (n : Nat)] w (RFlP w B p bs n (flgC bs n n k [])) := by
  obtain ⟨R, hR⟩ : ∃ R, R = flgC bs n n k [] := ⟨_, rfl⟩
  rw [← hR]
  have h8 := h.bytes
  obtain ⟨hBp, hp⟩ := h.low
  have F0 : RFQ w B p bs n R k [] (.slice none 0 0) w := ⟨h, World.ownsRow_nil _ _ _ _, Only.refl _ _, by simp, n, by simp, hR.symm⟩
  obtain ⟨i0, hi, hz0, hz1, hz2⟩ := info_partsS intInfoS
  clear h hR
  go_enter Try.func27, Try.ntmps27
  go_wp2
  go_loopw [6] (fun v wr => ∃ k acc, RFQ w B p bs n R k acc v wr) (fun v _ => n - sLenS v)
  case atStart => exact ⟨_, _, F0⟩
  case round =>
    clear F0
    obtain ⟨k, acc, Q⟩ := hrel
    obtain ⟨A5, c5, rfl, l5, _⟩ := own_lists Q.own
    have hle := Q.le
    have fl := Q.rd.flag
    have hpl := Q.rd.low.2
    by_cases hlt : acc.length < n
    · by_cases hbk : bs.length < k
      · have HNO := Lib.hid (show decide (R.1.length = n ∧ R.2 ≤ bs.length) = false by
          obtain ⟨j, hj, hrun⟩ := Q.run
          have := (flg_mono bs n j k acc).1
          rw [hrun] at this
          simp; intro _; omega)
        rw [show decide (bs.length < k) = true by simpa using hbk] at fl
        have HO := Lib.hid Q.own
        have HON := Lib.hid Q.on
        obtain ⟨na, hna⟩ : ∃ na, na = acc.length := ⟨_, rfl⟩
        have HN := Lib.hid hna
        rw [← hna] at hlt ⊢
        have d1 : (na : Int) < (n : Int) := by omega
        clear Q l5 hle hbk hna
        go_wp2
        go_ret2
        exact ⟨A5, c5, acc, false, by rw [← HN.out]; rfl, HO.out, HNO.out.symm, fun h => (nomatch h), HON.out⟩
      · obtain ⟨j, hj, hrun⟩ := Q.run
        obtain ⟨j, rfl⟩ : ∃ i, j = i + 1 := ⟨j - 1, by omega⟩
        have nle : ¬ n ≤ acc.length := by omega
        rw [show decide (bs.length < k) = false by simpa using hbk] at fl
        have CU : ∀ W kk, RR W B p bs kk → Calls Try.prog 26 #[.pointer (some ⟨p, 0, none⟩), .int .i64 1] W (RReadS W B p bs (kk + 1) (ub1 bs kk : Nat)) := fun W kk r => by
          have := rr_un B p bs kk 1 W r (by decide) (by decide)
          rw [rdn_one] at this
          exact this
        have hf := u1_lt h8 k
        have hm := u1_lt h8 (k + 1)
        have H1 := Lib.hid (fun hb => (flgC_more (bs := bs) (j := j) (k := k) nle hb).symm.trans hrun)
        have H0 := Lib.hid (fun hb => (flgC_one (bs := bs) (j := j) (k := k) nle hb).symm.trans hrun)
        have e8 : bits .and .i64 ((ub1 bs k : Nat) : Int) 8 = if bt (ub1 bs k) 3 then 8 else 0 := by
          rw [show (8 : Int) = ((8 : Nat) : Int) from rfl, and_nat _ 8 (by omega) (by omega), and_8]
          cases bt (ub1 bs k) 3 <;> rfl
        have CU0 := CU wr k Q.rd
        have CU1 := fun W (r : RR W B p bs (k + 1)) => CU W (k + 1) r
        have HQ := Lib.hid Q
        have HJ := Lib.hid hj
        clear CU hrun l5 hj hbk
        generalize ub1 bs (k + 1) = m at *
        generalize ub1 bs k = f at *
        obtain ⟨na, hna⟩ : ∃ na, na = acc.length := ⟨_, rfl⟩
        have HN := Lib.hid hna
        rw [← hna] at hlt nle hle ⊢
        clear hna
        have d1 : (na : Int) < (n : Int) := by omega
        have HAP := Lib.hid (show ints (acc ++ [f]) = ints acc ++ [.int .i64 (f : Nat)] by rw [ints_app]; rfl)
        cases hb : bt f 3
        · rw [hb] at e8
          simp only [Bool.false_eq_true, if_false] at e8
          have HR := Lib.hid (H0.out hb)
          clear H0 H1
          go_wp2_with (first
            | (go_at_call 26; ((with_reducible refine (CU0).mono ?_); rintro e w2 ⟨rfl, r2, o2⟩; have hown2 : w2.ownsRow w.heap.size 3 1 (.slice A5 na c5) na (ints acc) := (by have := own_only HQ.out.own o2 (fun b hb hm => by have := ownS_low HQ.out.own b hb; simp at hm; omega); rw [HN.out]; exact this); have hq2 : Only w w2 [p] := HQ.out.on.trans o2 (fun b hb => .inl hb); have hs2 := hq2.size))
            | (at_builtin; refine wpList_append_src _ rfl (.tmp 23) (.tmp 25) 38 rfl w.heap.size 3 i0 (.int .i64 0) 1 8 Try.underlying38 hi hz0 hz1 hz2 rfl (by decide) _ na (ints acc) rfl (ownS_stay hown2 (below_a1 _ _)) (w2.heap.size + 1) (some ⟨w2.heap.size, 0, none⟩) 1 1 [.int .i64 (f : Nat)] (by rfl) (lists_row w2 [.int .i64 (f : Nat)] 3) rfl (by simp [Value.oneCell']) (by simp only [maxLen]; omega) (by omega) (by simp; omega) ?_; intro v6 w6 own6 hg6 hat6))
          have hlow := ownS_low hown2
          have og : Only _ w6 (blk (.slice A5 na c5)) := (Only.refl _ (blk (.slice A5 na c5))).grown hg6 (fun b hb' => .inl (by have h9 : (Value.slice A5 na c5).ownBlock = some b := hb'; unfold blk; rw [h9]; simp))
          have o6 : Only w w6 [p] := (hq2.alloc (.cells #[.int .i64 (f : Nat)] 3)).trans og (fun b hb => .inr (hlow b hb))
          have r6 := (r2.below (below_a1 w2 (.cells #[.int .i64 (f : Nat)] 3))).other og (fun hm => by have := hlow p hm; omega) (fun b hb => by have := hlow b hb; omega)
          have hlen : (acc ++ [f]).length = na + 1 := by rw [List.length_append, HN.out]; rfl
          have QN : RFQ w B p bs n R (k + 1) (acc ++ [f]) v6 w6 := ⟨r6, by rw [hlen, HAP.out]; exact own6, o6, by rw [hlen]; omega, j, by rw [hlen]; have := HJ.out; have := HN.out; omega, by exact HR.out⟩
          obtain ⟨A9, c9, rfl, _, _⟩ := own_lists own6
          clear own6 hg6 hat6 og o6 r6 hown2 hq2 r2 o2 HQ
          go_wp2
          go_roundw
          case rel => exact ⟨_, _, QN⟩
          case measure => simp [sLenS]; omega
        · rw [hb] at e8
          simp only [if_true] at e8
          have HR := Lib.hid (H1.out hb)
          clear H0 H1
          go_wp2_with (first
            | (go_at_call 26; ((with_reducible refine (CU0).mono ?_); rintro e w2 ⟨rfl, r2, o2⟩; have hown2 : w2.ownsRow w.heap.size 3 1 (.slice A5 na c5) na (ints acc) := (by have := own_only HQ.out.own o2 (fun b hb hm => by have := ownS_low HQ.out.own b hb; simp at hm; omega); rw [HN.out]; exact this); have hq2 : Only w w2 [p] := HQ.out.on.trans o2 (fun b hb => .inl hb); have hs2 := hq2.size))
            | (at_builtin; refine wpList_append_src _ rfl (.tmp 23) (.tmp 25) 38 rfl w.heap.size 3 i0 (.int .i64 0) 1 8 Try.underlying38 hi hz0 hz1 hz2 rfl (by decide) _ na (ints acc) rfl (ownS_stay hown2 (below_a1 _ _)) (w2.heap.size + 1) (some ⟨w2.heap.size, 0, none⟩) 1 1 [.int .i64 (f : Nat)] (by rfl) (lists_row w2 [.int .i64 (f : Nat)] 3) rfl (by simp [Value.oneCell']) (by simp only [maxLen]; omega) (by omega) (by simp; omega) ?_; intro v6 w6 own6 hg6 hat6; have hlow := ownS_low hown2; have og : Only _ w6 (blk (.slice A5 na c5)) := (Only.refl _ (blk (.slice A5 na c5))).grown hg6 (fun b hb' => .inl (by have h9 : (Value.slice A5 na c5).ownBlock = some b := hb'; unfold blk; rw [h9]; simp)); have o6 : Only w w6 [p] := (hq2.alloc (.cells #[.int .i64 (f : Nat)] 3)).trans og (fun b hb => .inr (hlow b hb)); have r6 := (r2.below (below_a1 w2 (.cells #[.int .i64 (f : Nat)] 3))).other og (fun hm => by have := hlow p hm; omega) (fun b hb => by have := hlow b hb; omega); obtain ⟨A6, c6, rfl, _, _⟩ := own_lists own6; have hs6 := o6.size)
            | (go_at_call 26; ((with_reducible refine (CU1 _ r6).mono ?_); rintro e w7 ⟨rfl, r7, o7⟩; have own7 : w7.ownsRow w.heap.size 3 1 (.slice A6 (na + 1) c6) (na + 1) (ints (acc ++ [f])) := (by have := own_only own6 o7 (fun b hb hm => by have := ownS_low own6 b hb; simp at hm; omega); rw [HAP.out]; exact this); have hq7 : Only w w7 [p] := o6.trans o7 (fun b hb => .inl hb))))
          go_loopw [6, 9] (fun v i wr => ∃ t : Nat, t ≤ m ∧ i = .int .i64 (t : Nat) ∧ wr.ownsRow w.heap.size 3 1 v (na + 1 + t) (ints (acc ++ List.replicate (1 + t) f)) ∧ RR wr B p bs (k + 2) ∧ Only w wr [p]) (fun _ i _ => m - (intOf i).toNat)
          case atStart => exact ⟨0, by omega, rfl, own7, r7, hq7⟩
          case round =>
            clear hown2 r2 hq2 o2 own6 hg6 hat6 og o6 r6 own7 r7 hq7 o7
            obtain ⟨t, ht, rfl, hown, rr, hon⟩ := hrel
            have hsz := hon.size
            by_cases htt : t < m
            · have d3 : decide ((t : Int) < (m : Int)) = true := by simp; omega
              have HI := Lib.hid (show ints (acc ++ List.replicate (1 + (t + 1)) f) = ints (acc ++ List.replicate (1 + t) f) ++ [.int .i64 (f : Nat)] by rw [show 1 + (t + 1) = (1 + t) + 1 by omega, List.replicate_succ', ← List.append_assoc, ints_app]; rfl)
              go_wp2_with (at_builtin; refine wpList_append_src _ rfl (.tmp 37) (.tmp 39) 38 rfl w.heap.size 3 i0 (.int .i64 0) 1 8 Try.underlying38 hi hz0 hz1 hz2 rfl (by decide) _ (na + 1 + t) (ints (acc ++ List.replicate (1 + t) f)) rfl (ownS_stay hown (below_a1 _ _)) (wr.heap.size + 1) (some ⟨wr.heap.size, 0, none⟩) 1 1 [.int .i64 (f : Nat)] (by rfl) (lists_row wr [.int .i64 (f : Nat)] 3) rfl (by simp [Value.oneCell']) (by simp only [maxLen]; omega) (by omega) (by simp; omega) ?_; intro v6 w6 own6 hg6 hat6)
              have hlow := ownS_low hown
              have og : Only _ w6 (blk u6) := (Only.refl _ (blk u6)).grown hg6 (fun b hb' => .inl (by have h9 : u6.ownBlock = some b := hb'; unfold blk; rw [h9]; simp))
              have o6 : Only w w6 [p] := (hon.alloc (.cells #[.int .i64 (f : Nat)] 3)).trans og (fun b hb => .inr (hlow b hb))
              have r6 := (rr.below (below_a1 wr (.cells #[.int .i64 (f : Nat)] 3))).other og (fun hm => by have := hlow p hm; omega) (fun b hb => by have := hlow b hb; omega)
              have own7 : w6.ownsRow w.heap.size 3 1 v6 (na + 1 + (t + 1)) (ints (acc ++ List.replicate (1 + (t + 1)) f)) := by rw [HI.out, ← Nat.add_assoc]; exact own6
              go_roundw
              case rel => exact ⟨t + 1, by omega, by first | rfl | (go_num), own7, r6, o6⟩
              case measure => first | (simp [intOf]; done) | (simp [intOf]; omega)
            · have d3 : decide ((t : Int) < (m : Int)) = false := by simp; omega
              have htt2 : t = m := by omega
              rw [htt2] at hown
              have hlen : (acc ++ List.replicate (1 + m) f).length = na + 1 + m := by rw [List.length_append, List.length_replicate, HN.out]; omega
              have QN : RFQ w B p bs n R (k + 2) (acc ++ List.replicate (1 + m) f) u6 wr := ⟨rr, by rw [hlen]; exact hown, hon, by rw [hlen]; omega, j, by rw [hlen]; have := HJ.out; have := HN.out; omega, by exact HR.out⟩
              clear htt2
              obtain ⟨A9, c9, rfl, _, _⟩ := own_lists hown
              go_wp2
              go_roundw
              case rel => exact ⟨_, _, QN⟩
              case measure => simp [sLenS]; omega
    · have hdone : R = (acc, k) := by
        obtain ⟨j, hj, hrun⟩ := Q.run
        rw [← hrun]
        exact flgC_done (by omega)
      have HO := Lib.hid Q.own
      have HON := Lib.hid Q.on
      have HRR := Lib.hid Q.rd
      have HRD := Lib.hid hdone
      obtain ⟨na, hna⟩ : ∃ na, na = acc.length := ⟨_, rfl⟩
      have HN := Lib.hid hna
      rw [← hna] at hlt hle ⊢
      have d1 : decide ((na : Int) < (n : Int)) = false := by simp; omega
      clear Q l5 hna hdone
      by_cases hbk : bs.length < k
      · rw [show decide (bs.length < k) = true by simpa using hbk] at fl
        go_wp2
        go_ret2
        exact ⟨A5, c5, acc, false, by rw [← HN.out]; rfl, HO.out, by rw [HRD.out]; simp; intro _; omega, fun h => (nomatch h), HON.out⟩
      · rw [show decide (bs.length < k) = false by simpa using hbk] at fl
        have hbk2 : k ≤ bs.length := by omega
        by_cases hna : na = n
        · have d2 : ((na : Int) == (n : Int)) = true := by simp; omega
          have HNN := Lib.hid hna
          clear hna
          go_wp2
          go_ret2
          exact ⟨A5, c5, acc, true, by rw [← HN.out]; rfl, HO.out, by rw [HRD.out]; simp; exact ⟨by rw [← HN.out]; exact HNN.out, hbk2⟩, fun _ => ⟨by rw [HRD.out], by rw [HRD.out]; exact HRR.out⟩, HON.out⟩
        · have d2 : ((na : Int) == (n : Int)) = false := by simp; omega
          have HNN := Lib.hid hna
          clear hna
          go_wp2
          go_ret2
          exact ⟨A5, c5, acc, false, by rw [← HN.out]; rfl, HO.out, by rw [HRD.out]; simp; intro h; rw [← HN.out] at h; exact absurd h HNN.out, fun h => (nomatch h), HON.out⟩
end Go.Proofs.Ytelhckckcilpaaa

namespace Go.Proofs.Ytelhckckcilpaaa
open Go Go.RowKit
set_option linter.unusedVariables false
set_option linter.unusedSimpArgs false

def sumI : Int → List Int → Option (List Int)
  | _, [] => some []
  | x, d :: D => if inS (x + d) then (sumI (x + d) D).map ((x + d) :: ·) else none
def rcar (bs : List Value) (j1 j2 : Nat) (F : List Nat) (n i k : Nat) : List Int × Nat := carr (rf1 bs) (rf2 bs) j1 j2 (F.drop i) ((zer n).drop i) k
theorem zer_at {n i : Nat} (h : i < n) : (zer n)[i]? = some 0 := by unfold zer; rw [List.getElem?_replicate, if_pos h]
theorem rcar_next {bs : List Value} {j1 j2 n i k f : Nat} {F : List Nat} (hF : F[i]? = some f) (hn : i < n) : rcar bs j1 j2 F n i k = ((stepC (rf1 bs) (rf2 bs) j1 j2 f 0 k).1 :: (rcar bs j1 j2 F n (i + 1) (stepC (rf1 bs) (rf2 bs) j1 j2 f 0 k).2).1, (rcar bs j1 j2 F n (i + 1) (stepC (rf1 bs) (rf2 bs) j1 j2 f 0 k).2).2) := by
  unfold rcar
  exact carr_next k hF (zer_at hn)
/-- Between two steps: what is left to be summed up. -/
structure SmQ (bs : List Value) (j1 j2 n : Nat) (F : List Nat) (S : Option (List Int)) (K i k : Nat) (x : Int) (acc : List Int) : Prop where
  sum : S = (sumI x (rcar bs j1 j2 F n i k).1).map (acc ++ ·)
  pos : K = (rcar bs j1 j2 F n i k).2
  xin : -32768 ≤ x ∧ x ≤ 32767
  len : acc.length = i
theorem SmQ.step {bs : List Value} {j1 j2 n i k k2 K f : Nat} {F : List Nat} {S : Option (List Int)} {x y d : Int} {acc : List Int} (h : SmQ bs j1 j2 n F S K i k x acc) (hF : F[i]? = some f) (hn : i < n) (hst : stepC (rf1 bs) (rf2 bs) j1 j2 f 0 k = (d, k2)) (hy : y = x + d) :
    (inS y = true → SmQ bs j1 j2 n F S K (i + 1) k2 y (acc ++ [y])) ∧ (inS y = false → S = none) := by
  subst hy
  have e := rcar_next (bs := bs) (j1 := j1) (j2 := j2) (k := k) hF hn
  rw [hst] at e
  have hs := h.sum
  have hp := h.pos
  rw [e] at hs hp
  dsimp only at hs hp
  rw [sumI] at hs
  refine ⟨fun hi => ⟨?_, hp, inS_iff.1 hi, by rw [List.length_append, h.len]; rfl⟩, fun hi => ?_⟩
  · rw [hs, hi, if_pos rfl]
    cases sumI (x + d) (rcar bs j1 j2 F n (i + 1) k2).1 <;> simp
  · rw [hs, hi, if_neg (by simp)]; rfl
/-- What the reference's steps answers. -/
def RStP (w : World) (B p : Nat) (bs : List Value) (n : Nat) (S : Option (List Int)) (K : Nat) (e : Ending) (w' : World) : Prop :=
  (match S with
   | none => e = .returned (.tuple #[.slice none 0 0, .bool false])
   | some L => ∃ A c, e = .returned (.tuple #[.slice A n c, .bool (decide (K ≤ bs.length))]) ∧ w'.ownsRow w.heap.size 3 1 (.slice A n c) n (intCells L) ∧ L.length = n ∧ RR w' B p bs K) ∧ Only w w' [p]
theorem RStP.no {w w' : World} {B p n K : Nat} {bs : List Value} {S : Option (List Int)} (h : S = none) (o : Only w w' [p]) : RStP w B p bs n S K (.returned (.tuple #[.slice none 0 0, .bool false])) w' := by subst h; exact ⟨rfl, o⟩
theorem RStP.yes {w w' : World} {B p n K : Nat} {bs : List Value} {S : Option (List Int)} {L : List Int} {A : Option Addr} {c : Nat} {b : Bool} (h : S = some L) (hb : b = decide (K ≤ bs.length)) (own : w'.ownsRow w.heap.size 3 1 (.slice A n c) n (intCells L)) (hl : L.length = n) (r : RR w' B p bs K) (o : Only w w' [p]) : RStP w B p bs n S K (.returned (.tuple #[.slice A n c, .bool b])) w' := by subst h hb; exact ⟨⟨A, c, rfl, own, hl, r⟩, o⟩
theorem st_11 {bs : List Value} {j1 j2 f k : Nat} (h1 : bt f j1 = true) (h2 : bt f j2 = true) : stepC (rf1 bs) (rf2 bs) j1 j2 f 0 k = ((ub1 bs k : Int), k + 1) := by unfold stepC; rw [h1, h2]; rfl
theorem st_10 {bs : List Value} {j1 j2 f k : Nat} (h1 : bt f j1 = true) (h2 : bt f j2 = false) : stepC (rf1 bs) (rf2 bs) j1 j2 f 0 k = (-(ub1 bs k : Int), k + 1) := by unfold stepC; rw [h1, h2]; rfl
theorem st_01 {bs : List Value} {j1 j2 f k : Nat} (h1 : bt f j1 = false) (h2 : bt f j2 = true) : stepC (rf1 bs) (rf2 bs) j1 j2 f 0 k = (0, k) := by unfold stepC; rw [h1, h2]; rfl
theorem st_00 {bs : List Value} {j1 j2 f k : Nat} (h1 : bt f j1 = false) (h2 : bt f j2 = false) : stepC (rf1 bs) (rf2 bs) j1 j2 f 0 k = (ib2 bs k, k + 2) := by unfold stepC; rw [h1, h2]; rfl
theorem ib2_bd {bs : List Value} (h8 : Bytes8 bs) (k : Nat) : -32768 ≤ ib2 bs k ∧ ib2 bs k ≤ 32767 := by
  unfold ib2 s16; have : ub2 bs k < 65536 := rsn_lt (rd2_lt h8 k); split <;> omega
set_option maxRecDepth 100000 in
set_option maxHeartbeats 4000000 in
theorem rrsteps_any (B p k0 n j1 j2 : Nat) (sm sa : Int) (A : Option Addr) (c : Nat) (F : List Nat) (bs : List Value) (w : World) (h : RR w B p bs k0)
    (hsm : ∀ f : Nat, f < 256 → bits .and .i64 (f : Int) sm = if bt f j1 then sm else 0) (hsa : ∀ f : Nat, f < 256 → bits .and .i64 (f : Int) sa = if bt f j2 then sa else 0) (hm0 : sm ≠ 0) (ha0 : sa ≠ 0)
    (hA : ∀ V, Only w V [p] → Lists V V.heap.size A (ints F)) (hFn : F.length = n) (hn : n ≤ 1000000) (hF : ∀ f ∈ F, f < 256) :
    Calls Try.prog 28 #[.pointer (some ⟨p, 0, none⟩), .slice A n c, .int .i64 sm, .int .i64 sa] w (RStP w B p bs n (sumI 0 (carr (rf1 bs) (rf2 bs) j1 j2 F (zer n) k0).1) (carr (rf1 bs) (rf2 bs) j1 j2 F (zer n) k0).2) := by
  obtain ⟨S, hS⟩ : ∃ S, S = sumI 0 (carr (rf1 bs) (rf2 bs) j1 j2 F (zer n) k0).1 := ⟨_, rfl⟩
  obtain ⟨K, hK⟩ : ∃ K, K = (carr (rf1 bs) (rf2 bs) j1 j2 F (zer n) k0).2 := ⟨_, rfl⟩
  rw [← hS, ← hK]
  have h8 := h.bytes
  obtain ⟨hBp, hp⟩ := h.low
  have Q0 : SmQ bs j1 j2 n F S K 0 k0 0 [] := ⟨by rw [hS]; unfold rcar; simp, by rw [hK]; rfl, by omega, rfl⟩
  obtain ⟨i0, hi, hz0, hz1, hz2⟩ := info_partsS intInfoS
  have KM := Lib.hid hsm
  have KA := Lib.hid hsa
  have HA := Lib.hid hA
  have HFN := Lib.hid hFn
  have HF := Lib.hid hF
  have HQ0 := Lib.hid Q0
  have H8 := Lib.hid h8
  have HR0 := Lib.hid h
  clear hS hK hsm hsa hA hFn hF Q0 h8 h
  go_enter Try.func28, Try.ntmps28
  go_wp2
  go_loopw [10, 11, 12] (fun v xv iv wr => ∃ (i k : Nat) (x : Int) (acc : List Int), i ≤ n ∧ iv = .int .i64 (i : Nat) ∧ xv = .int .i64 x ∧ wr.ownsRow w.heap.size 3 1 v i (intCells acc) ∧ RR wr B p bs k ∧ Only w wr [p] ∧ Hid (SmQ bs j1 j2 n F S K i k x acc)) (fun _ _ iv _ => n - (intOf iv).toNat)
  case atStart => exact ⟨0, k0, 0, [], Nat.zero_le _, rfl, rfl, World.ownsRow_nil _ _ _ _, HR0.out, Only.refl _ _, HQ0⟩
  case round =>
    clear HQ0 HR0
    obtain ⟨i, k, x, acc, hin, rfl, rfl, hown, hr, hon, HQ⟩ := hrel
    obtain ⟨A9, c9, rfl, _, _⟩ := own_lists hown
    have hlow := ownS_low hown
    have hsz := hon.size
    by_cases hlt : i < n
    · have d1 : decide ((i : Int) < (n : Int)) = true := by simp; omega
      obtain ⟨f, hf⟩ : ∃ f, F[i]? = some f := ⟨_, List.getElem?_eq_getElem (by rw [HFN.out]; exact hlt)⟩
      have hf2 := HF.out f (List.mem_of_getElem? hf)
      have em := KM.out f hf2
      have ea := KA.out f hf2
      have hfi : (ints F)[i]? = some (.int .i64 (f : Nat)) := by unfold ints; rw [List.getElem?_map, hf]; rfl
      obtain ⟨b, o, rfl, hb, hcl⟩ := (HA.out wr hon).plain (by intro e; rw [e] at hfi; simp at hfi)
      have g0 := hcl i _ hfi
      obtain ⟨hx0, hx1⟩ := HQ.out.xin
      have hu := u1_lt H8.out k
      have hv := ib2_bd H8.out k
      have CU : Calls Try.prog 26 #[.pointer (some ⟨p, 0, none⟩), .int .i64 1] wr (RReadS wr B p bs (k + 1) (ub1 bs k : Nat)) := by
        have := rr_un B p bs k 1 wr hr (by decide) (by decide)
        rw [rdn_one] at this
        exact this
      have CI : Calls Try.prog 24 #[.pointer (some ⟨p, 0, none⟩)] wr (RReadS wr B p bs (k + 2) (ib2 bs k)) := rr_i16 B p bs k wr hr
      have NX := Lib.hid (fun d k2 y hst hy => HQ.out.step (d := d) (k2 := k2) (y := y) hf hlt hst hy)
      have e11 := Lib.hid (fun h1 h2 => st_11 (bs := bs) (j1 := j1) (j2 := j2) (f := f) (k := k) h1 h2)
      have e10 := Lib.hid (fun h1 h2 => st_10 (bs := bs) (j1 := j1) (j2 := j2) (f := f) (k := k) h1 h2)
      have e01 := Lib.hid (fun h1 h2 => st_01 (bs := bs) (j1 := j1) (j2 := j2) (f := f) (k := k) h1 h2)
      have e00 := Lib.hid (fun h1 h2 => st_00 (bs := bs) (j1 := j1) (j2 := j2) (f := f) (k := k) h1 h2)
      have ACC := Lib.hid (fun y => show intCells (acc ++ [y]) = intCells acc ++ [.int .i64 y] by unfold intCells; simp)
      generalize ub1 bs k = u at *
      generalize ib2 bs k = s at *
      obtain ⟨hv0, hv1⟩ := hv
      clear hcl hfi hf HQ
      cases hb1 : bt f j1
      · cases hb2 : bt f j2
        · rw [hb1] at em; rw [hb2] at ea
          simp only [Bool.false_eq_true, if_false, if_true] at em ea
          have NN := Lib.hid (NX.out (s) (k + 2) (x + s) (e00.out hb1 hb2) (by omega))
          clear hb1 hb2 e11 e10 e01 e00 NX
          have s1 : wrap64 (x + s) = x + s := by unfold wrap64; omega
          cases hin2 : inS (x + s)
          · have HNO := Lib.hid (NN.out.2 hin2)
            have hor : (x + s) < -32768 ∨ 32768 ≤ (x + s) := by unfold inS at hin2; simp at hin2; omega
            clear hin2 NN
            rcases hor with hor | hor
            · have d7 : decide ((x + s) < -32768) = true := by simp; omega
              go_wp2_with (first | (go_at_call 24; ((with_reducible refine (CI).mono ?_); rintro e w3 ⟨rfl, r3, o3⟩; have on3 : Only w w3 [p] := hon.trans o3 (fun b hb => .inl hb); have own3 := own_only hown o3 (fun b hb hm => by have := hlow b hb; simp at hm; omega); have sz3 := on3.size)))
              go_ret2
              exact RStP.no HNO.out on3
            · have d7 : decide ((x + s) < -32768) = false := by simp; omega
              have d8 : decide ((x + s) ≥ 32768) = true := by simp; omega
              have d9 : decide (32768 ≤ (x + s)) = true := by simp; omega
              go_wp2_with (first | (go_at_call 24; ((with_reducible refine (CI).mono ?_); rintro e w3 ⟨rfl, r3, o3⟩; have on3 : Only w w3 [p] := hon.trans o3 (fun b hb => .inl hb); have own3 := own_only hown o3 (fun b hb hm => by have := hlow b hb; simp at hm; omega); have sz3 := on3.size)))
              go_ret2
              exact RStP.no HNO.out on3
          · have HYES := Lib.hid (NN.out.1 hin2)
            have hor : -32768 ≤ (x + s) ∧ (x + s) ≤ 32767 := inS_iff.1 hin2
            have d7 : decide ((x + s) < -32768) = false := by simp; omega
            have d8 : decide ((x + s) ≥ 32768) = false := by simp; omega
            have d9 : decide (32768 ≤ (x + s)) = false := by simp; omega
            clear hin2 NN
            go_wp2_with (first | (go_at_call 24; ((with_reducible refine (CI).mono ?_); rintro e w3 ⟨rfl, r3, o3⟩; have on3 : Only w w3 [p] := hon.trans o3 (fun b hb => .inl hb); have own3 := own_only hown o3 (fun b hb hm => by have := hlow b hb; simp at hm; omega); have sz3 := on3.size)) | (at_builtin; refine wpList_append_src _ rfl (.tmp 70) (.tmp 72) 38 rfl w.heap.size 3 i0 (.int .i64 0) 1 8 Try.underlying38 hi hz0 hz1 hz2 rfl (by decide) _ i (intCells acc) rfl (ownS_stay own3 (below_a1 _ _)) (w3.heap.size + 1) (some ⟨w3.heap.size, 0, none⟩) 1 1 [.int .i64 (x + s)] (by rfl) (lists_row w3 [.int .i64 (x + s)] 3) rfl (by simp [Value.oneCell']) (by simp only [maxLen]; omega) (by omega) (by simp; omega) ?_; intro v6 w6 own6 hg6 hat6))
            have hlow6 := ownS_low own3
            have og : Only _ w6 (blk (.slice A9 i c9)) := (Only.refl _ (blk (.slice A9 i c9))).grown hg6 (fun b hb' => .inl (by have h9 : (Value.slice A9 i c9).ownBlock = some b := hb'; unfold blk; rw [h9]; simp))
            have o6 : Only w w6 [p] := (on3.alloc (.cells #[.int .i64 (x + s)] 3)).trans og (fun b hb => .inr (hlow6 b hb))
            have r6 := (r3.below (below_a1 w3 (.cells #[.int .i64 (x + s)] 3))).other og (fun hm => by have := hlow6 p hm; omega) (fun b hb => by have := hlow6 b hb; omega)
            have own7 : w6.ownsRow w.heap.size 3 1 v6 (i + 1) (intCells (acc ++ [x + s])) := by rw [ACC.out]; exact own6
            go_roundw
            case rel => exact ⟨i + 1, _, _, _, by omega, by first | rfl | (go_num), rfl, own7, r6, o6, HYES⟩
            case measure => first | (simp [intOf]; done) | (simp [intOf]; omega)
        · rw [hb1] at em; rw [hb2] at ea
          simp only [Bool.false_eq_true, if_false, if_true] at em ea
          have NN := Lib.hid (NX.out (0) (k) (x) (e01.out hb1 hb2) (by omega))
          have d5 : (sa != 0) = true := by simpa using ha0
          have d5' : (sa == 0) = false := by simpa using ha0
          clear hb1 hb2 e11 e10 e01 e00 NX
          cases hin2 : inS (x)
          · have HNO := Lib.hid (NN.out.2 hin2)
            have hor : (x) < -32768 ∨ 32768 ≤ (x) := by unfold inS at hin2; simp at hin2; omega
            clear hin2 NN
            rcases hor with hor | hor
            · have d7 : decide ((x) < -32768) = true := by simp; omega
              go_wp2
              go_ret2
              exact RStP.no HNO.out hon
            · have d7 : decide ((x) < -32768) = false := by simp; omega
              have d8 : decide ((x) ≥ 32768) = true := by simp; omega
              have d9 : decide (32768 ≤ (x)) = true := by simp; omega
              go_wp2
              go_ret2
              exact RStP.no HNO.out hon
          · have HYES := Lib.hid (NN.out.1 hin2)
            have hor : -32768 ≤ (x) ∧ (x) ≤ 32767 := inS_iff.1 hin2
            have d7 : decide ((x) < -32768) = false := by simp; omega
            have d8 : decide ((x) ≥ 32768) = false := by simp; omega
            have d9 : decide (32768 ≤ (x)) = false := by simp; omega
            clear hin2 NN
            go_wp2_with (first | (at_builtin; refine wpList_append_src _ rfl (.tmp 70) (.tmp 72) 38 rfl w.heap.size 3 i0 (.int .i64 0) 1 8 Try.underlying38 hi hz0 hz1 hz2 rfl (by decide) _ i (intCells acc) rfl (ownS_stay hown (below_a1 _ _)) (wr.heap.size + 1) (some ⟨wr.heap.size, 0, none⟩) 1 1 [.int .i64 (x)] (by rfl) (lists_row wr [.int .i64 (x)] 3) rfl (by simp [Value.oneCell']) (by simp only [maxLen]; omega) (by omega) (by simp; omega) ?_; intro v6 w6 own6 hg6 hat6))
            have hlow6 := ownS_low hown
            have og : Only _ w6 (blk (.slice A9 i c9)) := (Only.refl _ (blk (.slice A9 i c9))).grown hg6 (fun b hb' => .inl (by have h9 : (Value.slice A9 i c9).ownBlock = some b := hb'; unfold blk; rw [h9]; simp))
            have o6 : Only w w6 [p] := (hon.alloc (.cells #[.int .i64 (x)] 3)).trans og (fun b hb => .inr (hlow6 b hb))
            have r6 := (hr.below (below_a1 wr (.cells #[.int .i64 (x)] 3))).other og (fun hm => by have := hlow6 p hm; omega) (fun b hb => by have := hlow6 b hb; omega)
            have own7 : w6.ownsRow w.heap.size 3 1 v6 (i + 1) (intCells (acc ++ [x])) := by rw [ACC.out]; exact own6
            go_roundw
            case rel => exact ⟨i + 1, _, _, _, by omega, by first | rfl | (go_num), rfl, own7, r6, o6, HYES⟩
            case measure => first | (simp [intOf]; done) | (simp [intOf]; omega)
      · cases hb2 : bt f j2
        · rw [hb1] at em; rw [hb2] at ea
          simp only [Bool.false_eq_true, if_false, if_true] at em ea
          have NN := Lib.hid (NX.out (-(u : Int)) (k + 1) (x - (u : Int)) (e10.out hb1 hb2) (by omega))
          have d4 : (sm != 0) = true := by simpa using hm0
          have d4' : (sm == 0) = false := by simpa using hm0
          clear hb1 hb2 e11 e10 e01 e00 NX
          have s1 : wrap64 (x - (u : Int)) = x - (u : Int) := by unfold wrap64; omega
          cases hin2 : inS (x - (u : Int))
          · have HNO := Lib.hid (NN.out.2 hin2)
            have hor : (x - (u : Int)) < -32768 ∨ 32768 ≤ (x - (u : Int)) := by unfold inS at hin2; simp at hin2; omega
            clear hin2 NN
            rcases hor with hor | hor
            · have d7 : decide ((x - (u : Int)) < -32768) = true := by simp; omega
              go_wp2_with (first | (go_at_call 26; ((with_reducible refine (CU).mono ?_); rintro e w3 ⟨rfl, r3, o3⟩; have on3 : Only w w3 [p] := hon.trans o3 (fun b hb => .inl hb); have own3 := own_only hown o3 (fun b hb hm => by have := hlow b hb; simp at hm; omega); have sz3 := on3.size)))
              go_ret2
              exact RStP.no HNO.out on3
            · have d7 : decide ((x - (u : Int)) < -32768) = false := by simp; omega
              have d8 : decide ((x - (u : Int)) ≥ 32768) = true := by simp; omega
              have d9 : decide (32768 ≤ (x - (u : Int))) = true := by simp; omega
              go_wp2_with (first | (go_at_call 26; ((with_reducible refine (CU).mono ?_); rintro e w3 ⟨rfl, r3, o3⟩; have on3 : Only w w3 [p] := hon.trans o3 (fun b hb => .inl hb); have own3 := own_only hown o3 (fun b hb hm => by have := hlow b hb; simp at hm; omega); have sz3 := on3.size)))
              go_ret2
              exact RStP.no HNO.out on3
          · have HYES := Lib.hid (NN.out.1 hin2)
            have hor : -32768 ≤ (x - (u : Int)) ∧ (x - (u : Int)) ≤ 32767 := inS_iff.1 hin2
            have d7 : decide ((x - (u : Int)) < -32768) = false := by simp; omega
            have d8 : decide ((x - (u : Int)) ≥ 32768) = false := by simp; omega
            have d9 : decide (32768 ≤ (x - (u : Int))) = false := by simp; omega
            clear hin2 NN
            go_wp2_with (first | (go_at_call 26; ((with_reducible refine (CU).mono ?_); rintro e w3 ⟨rfl, r3, o3⟩; have on3 : Only w w3 [p] := hon.trans o3 (fun b hb => .inl hb); have own3 := own_only hown o3 (fun b hb hm => by have := hlow b hb; simp at hm; omega); have sz3 := on3.size)) | (at_builtin; refine wpList_append_src _ rfl (.tmp 70) (.tmp 72) 38 rfl w.heap.size 3 i0 (.int .i64 0) 1 8 Try.underlying38 hi hz0 hz1 hz2 rfl (by decide) _ i (intCells acc) rfl (ownS_stay own3 (below_a1 _ _)) (w3.heap.size + 1) (some ⟨w3.heap.size, 0, none⟩) 1 1 [.int .i64 (x - (u : Int))] (by rfl) (lists_row w3 [.int .i64 (x - (u : Int))] 3) rfl (by simp [Value.oneCell']) (by simp only [maxLen]; omega) (by omega) (by simp; omega) ?_; intro v6 w6 own6 hg6 hat6))
            have hlow6 := ownS_low own3
            have og : Only _ w6 (blk (.slice A9 i c9)) := (Only.refl _ (blk (.slice A9 i c9))).grown hg6 (fun b hb' => .inl (by have h9 : (Value.slice A9 i c9).ownBlock = some b := hb'; unfold blk; rw [h9]; simp))
            have o6 : Only w w6 [p] := (on3.alloc (.cells #[.int .i64 (x - (u : Int))] 3)).trans og (fun b hb => .inr (hlow6 b hb))
            have r6 := (r3.below (below_a1 w3 (.cells #[.int .i64 (x - (u : Int))] 3))).other og (fun hm => by have := hlow6 p hm; omega) (fun b hb => by have := hlow6 b hb; omega)
            have own7 : w6.ownsRow w.heap.size 3 1 v6 (i + 1) (intCells (acc ++ [x - (u : Int)])) := by rw [ACC.out]; exact own6
            go_roundw
            case rel => exact ⟨i + 1, _, _, _, by omega, by first | rfl | (go_num), rfl, own7, r6, o6, HYES⟩
            case measure => first | (simp [intOf]; done) | (simp [intOf]; omega)
        · rw [hb1] at em; rw [hb2] at ea
          simp only [Bool.false_eq_true, if_false, if_true] at em ea
          have NN := Lib.hid (NX.out ((u : Int)) (k + 1) (x + (u : Int)) (e11.out hb1 hb2) (by omega))
          have d4 : (sm != 0) = true := by simpa using hm0
          have d4' : (sm == 0) = false := by simpa using hm0
          have d5 : (sa != 0) = true := by simpa using ha0
          have d5' : (sa == 0) = false := by simpa using ha0
          clear hb1 hb2 e11 e10 e01 e00 NX
          have s1 : wrap64 (x + (u : Int)) = x + (u : Int) := by unfold wrap64; omega
          cases hin2 : inS (x + (u : Int))
          · have HNO := Lib.hid (NN.out.2 hin2)
            have hor : (x + (u : Int)) < -32768 ∨ 32768 ≤ (x + (u : Int)) := by unfold inS at hin2; simp at hin2; omega
            clear hin2 NN
            rcases hor with hor | hor
            · have d7 : decide ((x + (u : Int)) < -32768) = true := by simp; omega
              go_wp2_with (first | (go_at_call 26; ((with_reducible refine (CU).mono ?_); rintro e w3 ⟨rfl, r3, o3⟩; have on3 : Only w w3 [p] := hon.trans o3 (fun b hb => .inl hb); have own3 := own_only hown o3 (fun b hb hm => by have := hlow b hb; simp at hm; omega); have sz3 := on3.size)))
              go_ret2
              exact RStP.no HNO.out on3
            · have d7 : decide ((x + (u : Int)) < -32768) = false := by simp; omega
              have d8 : decide ((x + (u : Int)) ≥ 32768) = true := by simp; omega
              have d9 : decide (32768 ≤ (x + (u : Int))) = true := by simp; omega
              go_wp2_with (first | (go_at_call 26; ((with_reducible refine (CU).mono ?_); rintro e w3 ⟨rfl, r3, o3⟩; have on3 : Only w w3 [p] := hon.trans o3 (fun b hb => .inl hb); have own3 := own_only hown o3 (fun b hb hm => by have := hlow b hb; simp at hm; omega); have sz3 := on3.size)))
              go_ret2
              exact RStP.no HNO.out on3
          · have HYES := Lib.hid (NN.out.1 hin2)
            have hor : -32768 ≤ (x + (u : Int)) ∧ (x + (u : Int)) ≤ 32767 := inS_iff.1 hin2
            have d7 : decide ((x + (u : Int)) < -32768) = false := by simp; omega
            have d8 : decide ((x + (u : Int)) ≥ 32768) = false := by simp; omega
            have d9 : decide (32768 ≤ (x + (u : Int))) = false := by simp; omega
            clear hin2 NN
            go_wp2_with (first | (go_at_call 26; ((with_reducible refine (CU).mono ?_); rintro e w3 ⟨rfl, r3, o3⟩; have on3 : Only w w3 [p] := hon.trans o3 (fun b hb => .inl hb); have own3 := own_only hown o3 (fun b hb hm => by have := hlow b hb; simp at hm; omega); have sz3 := on3.size)) | (at_builtin; refine wpList_append_src _ rfl (.tmp 70) (.tmp 72) 38 rfl w.heap.size 3 i0 (.int .i64 0) 1 8 Try.underlying38 hi hz0 hz1 hz2 rfl (by decide) _ i (intCells acc) rfl (ownS_stay own3 (below_a1 _ _)) (w3.heap.size + 1) (some ⟨w3.heap.size, 0, none⟩) 1 1 [.int .i64 (x + (u : Int))] (by rfl) (lists_row w3 [.int .i64 (x + (u : Int))] 3) rfl (by simp [Value.oneCell']) (by simp only [maxLen]; omega) (by omega) (by simp; omega) ?_; intro v6 w6 own6 hg6 hat6))
            have hlow6 := ownS_low own3
            have og : Only _ w6 (blk (.slice A9 i c9)) := (Only.refl _ (blk (.slice A9 i c9))).grown hg6 (fun b hb' => .inl (by have h9 : (Value.slice A9 i c9).ownBlock = some b := hb'; unfold blk; rw [h9]; simp))
            have o6 : Only w w6 [p] := (on3.alloc (.cells #[.int .i64 (x + (u : Int))] 3)).trans og (fun b hb => .inr (hlow6 b hb))
            have r6 := (r3.below (below_a1 w3 (.cells #[.int .i64 (x + (u : Int))] 3))).other og (fun hm => by have := hlow6 p hm; omega) (fun b hb => by have := hlow6 b hb; omega)
            have own7 : w6.ownsRow w.heap.size 3 1 v6 (i + 1) (intCells (acc ++ [x + (u : Int)])) := by rw [ACC.out]; exact own6
            go_roundw
            case rel => exact ⟨i + 1, _, _, _, by omega, by first | rfl | (go_num), rfl, own7, r6, o6, HYES⟩
            case measure => first | (simp [intOf]; done) | (simp [intOf]; omega)
    · obtain rfl : i = n := by omega
      have d1 : decide ((i : Int) < (i : Int)) = false := by simp
      have e1 : rcar bs j1 j2 F i i k = ([], k) := by unfold rcar; rw [List.drop_eq_nil_of_le (by rw [HFN.out]; exact Nat.le_refl _), List.drop_eq_nil_of_le (by unfold zer; simp)]; rfl
      have HS := Lib.hid (show S = some acc by have := HQ.out.sum; rw [e1] at this; simpa [sumI] using this)
      have HK := Lib.hid (show K = k by have := HQ.out.pos; rw [e1] at this; exact this)
      have HL := Lib.hid HQ.out.len
      have fl := hr.flag
      have HO := Lib.hid hown
      have HRR := Lib.hid hr
      have HON := Lib.hid hon
      have hpl := hr.low.2
      clear e1 HQ
      have HD := Lib.hid (show (!decide (bs.length < k)) = decide (K ≤ bs.length) by rw [HK.out]; by_cases hh : bs.length < k <;> simp [hh] <;> omega)
      generalize decide (bs.length < k) = bb at *
      go_wp2
      have fl2 : wr.drew.cell? ⟨p, 2, none⟩ = some (.bool bb) := (Below.cell ((Below.refl wr.heap.size wr).drew) (p := ⟨p, 2, none⟩) hpl).trans fl
      have BD : Below wr.heap.size wr wr.drew := (Below.refl _ _).drew
      have HO2 := Lib.hid (ownS_stay HO.out BD)
      have HR2 := Lib.hid (HRR.out.below BD)
      have HON2 := Lib.hid (HON.out.then_below BD)
      refine wp_region_chain (fun V => V.cell? ⟨p, 2, none⟩ = some (.bool bb)) [(0, false), (1, false), (2, false), (3, false), (4, false), (5, false), (6, false), (7, false)] (by kernel_rfl) (by kernel_rfl) (fl2) ?_
      repeat (first
        | (refine ChainL.skip (o := ?_) ?_ ?_ ?_; rotate_left; (focus (first | (simp only [List.getElem?_toArray, List.getElem?_cons_succ, List.getElem?_cons_zero]; with_reducible rfl) | (simp only [List.getElem?_toArray, List.getElem?_cons_zero]; with_reducible rfl))); (focus rfl); simp only [Act.put, List.setIfInBounds_toArray, List.set_cons_zero, List.set_cons_succ])
        | (refine ChainL.val (o := ?_) (v := ?_) ?_ ?_ ?_ ?_ ?_; rotate_left 2; (focus (first | (simp only [List.getElem?_toArray, List.getElem?_cons_succ, List.getElem?_cons_zero]; with_reducible rfl) | (simp only [List.getElem?_toArray, List.getElem?_cons_zero]; with_reducible rfl))); (focus (intro _ _ h; cases h)); (focus rfl); (focus (intro w' hI; have g2 := hI; go_simp <;> with_reducible rfl)); simp only [Act.put, List.setIfInBounds_toArray, List.set_cons_zero, List.set_cons_succ]))
      refine ChainL.nil ?_
      go_wp2
      go_ret2
      exact RStP.yes HS.out HD.out HO2.out HL.out (by rw [HK.out]; exact HR2.out) HON2.out
end Go.Proofs.Ytelhckckcilpaaa

namespace Go.Proofs.Ytelhckckcilpaaa
open Go Go.RowKit
set_option linter.unusedSectionVars false
set_option linter.unusedVariables false
set_option linter.unusedSimpArgs false

/-- The points of flags and places. -/
def zipP : List Nat → List Int → List Int → List Pt
  | f :: F, a :: A, b :: B => (a * 65536, b * 65536, knd f) :: zipP F A B
  | _, _, _ => []
theorem zip_len : ∀ (F : List Nat) (A B : List Int), A.length = F.length → B.length = F.length → (zipP F A B).length = F.length
  | [], _, _, _, _ => rfl
  | f :: F, a :: A, b :: B, h1, h2 => by rw [zipP, List.length_cons, List.length_cons, zip_len F A B (by simpa using h1) (by simpa using h2)]
  | f :: F, [], _, h1, _ => by simp at h1
  | f :: F, a :: A, [], _, h2 => by simp at h2
theorem zip_at : ∀ (F : List Nat) (A B : List Int) (i f : Nat) (a b : Int), F[i]? = some f → A[i]? = some a → B[i]? = some b → (zipP F A B)[i]? = some (a * 65536, b * 65536, knd f)
  | f' :: F, a' :: A, b' :: B, 0, f, a, b, h1, h2, h3 => by simp at h1 h2 h3; subst h1 h2 h3; rfl
  | f' :: F, a' :: A, b' :: B, i + 1, f, a, b, h1, h2, h3 => by
    simp only [List.getElem?_cons_succ] at h1 h2 h3
    rw [zipP, List.getElem?_cons_succ]
    exact zip_at F A B i f a b h1 h2 h3
  | [], _, _, i, f, a, b, h1, _, _ => by simp at h1
  | _ :: _, [], _, i, f, a, b, _, h2, _ => by simp at h2
  | _ :: _, _ :: _, [], i, f, a, b, _, _, h3 => by simp at h3
theorem pts_sum : ∀ (F : List Nat) (X Y : List Int) (x y : Int), X.length = F.length → Y.length = F.length → ptsC F X Y x y = match sumI x X, sumI y Y with | some A, some B => some (zipP F A B) | _, _ => none
  | [], [], [], x, y, _, _ => rfl
  | f :: F, a :: X, b :: Y, x, y, h1, h2 => by
    rw [ptsC, pts_sum F X Y (x + a) (y + b) (by simpa using h1) (by simpa using h2), sumI, sumI]
    cases inS (x + a) <;> cases inS (y + b) <;> cases sumI (x + a) X <;> cases sumI (y + b) Y <;> simp [zipP]
  | [], _ :: _, _, _, _, h1, _ => by simp at h1
  | [], [], _ :: _, _, _, _, h2 => by simp at h2
  | f :: F, [], _, _, _, h1, _ => by simp at h1
  | f :: F, a :: X, [], _, _, _, h2 => by simp at h2
section
variable (E : List Value) (L : List Nat)
/-- Where the flags begin. -/
def k1E : Nat := 10 + 2 * L.length + 2 + ub2 E (10 + 2 * L.length)
theorem dl_eq : decL E L = match rpC E (cntL L) (k1E E L) with | none => ([], 110) | some P => if rpK E (cntL L) (k1E E L) ≤ E.length then (conC P L 0, 0) else ([], 110) := rfl
theorem dl_beyond (h : E.length < rpK E (cntL L) (k1E E L)) : decL E L = ([], 110) := by
  rw [dl_eq]
  split
  · rfl
  · rw [if_neg (by omega)]
theorem dl_bad1 (h : E.length < k1E E L) : decL E L = ([], 110) := dl_beyond E L (by have := (rpK_ge E (cntL L) (k1E E L)).1; omega)
theorem dl_bad2 (h : ¬ ((flgC E (cntL L) (cntL L) (k1E E L) []).1.length = cntL L ∧ (flgC E (cntL L) (cntL L) (k1E E L) []).2 ≤ E.length)) : decL E L = ([], 110) := by
  by_cases hl : (flgC E (cntL L) (cntL L) (k1E E L) []).1.length = cntL L
  · exact dl_beyond E L (by have := (rpK_ge E (cntL L) (k1E E L)).2; omega)
  · rw [dl_eq]
    unfold rpC
    rw [if_neg hl]
variable (F : List Nat) (k2 : Nat) (hF : flgC E (cntL L) (cntL L) (k1E E L) [] = (F, k2)) (hl : F.length = cntL L)
include hF hl
theorem rx_len : (rpX E (cntL L) F k2).1.length = F.length := by unfold rpX; rw [carr_len _ _ _ _ _ _ _ (by simp [zer, hl])]; simp [zer, hl]
theorem ry_len : (rpY E (cntL L) F k2).1.length = F.length := by unfold rpY; rw [carr_len _ _ _ _ _ _ _ (by simp [zer, hl])]; simp [zer, hl]
theorem rpC_eq : rpC E (cntL L) (k1E E L) = match sumI 0 (rpX E (cntL L) F k2).1, sumI 0 (rpY E (cntL L) F k2).1 with | some A, some B => some (zipP F A B) | _, _ => none := by
  unfold rpC
  rw [hF, if_pos hl]
  exact pts_sum F _ _ 0 0 (rx_len E L F k2 hF hl) (ry_len E L F k2 hF hl)
theorem rpK_eq : rpK E (cntL L) (k1E E L) = (rpY E (cntL L) F k2).2 := by unfold rpK; rw [hF]
theorem dl_bad3 (h : sumI 0 (rpX E (cntL L) F k2).1 = none) : decL E L = ([], 110) := by rw [dl_eq, rpC_eq E L F k2 hF hl, h]
theorem dl_bad5 (h : sumI 0 (rpY E (cntL L) F k2).1 = none) : decL E L = ([], 110) := by
  rw [dl_eq, rpC_eq E L F k2 hF hl, h]
  cases sumI 0 (rpX E (cntL L) F k2).1 <;> rfl
theorem dl_bad6 (h : E.length < (rpY E (cntL L) F k2).2) : decL E L = ([], 110) := dl_beyond E L (by rw [rpK_eq E L F k2 hF hl]; exact h)
theorem dl_bad4 (h : E.length < (rpX E (cntL L) F k2).2) : decL E L = ([], 110) := dl_bad6 E L F k2 hF hl (by
  have := (carr_mono E 2 5 F (zer (cntL L)) (rpX E (cntL L) F k2).2).1
  unfold rpY
  omega)
theorem dl_ok (A B : List Int) (hA : sumI 0 (rpX E (cntL L) F k2).1 = some A) (hB : sumI 0 (rpY E (cntL L) F k2).1 = some B) (h : (rpY E (cntL L) F k2).2 ≤ E.length) : decL E L = (conC (zipP F A B) L 0, 0) := by
  rw [dl_eq, rpC_eq E L F k2 hF hl, rpK_eq E L F k2 hF hl, hA, hB]
  simp only
  rw [if_pos h]
end
theorem las_beyond (E : List Value) : ∀ (j k : Nat) (acc : List Nat), E.length < k + 2 → lasC E j k acc = ([], 110) ∨ ∃ L2, lasC E j k acc = (L2, 0) ∧ L2.length = acc.length + j
  | 0, k, acc, _ => .inr ⟨acc, rfl, rfl⟩
  | j + 1, k, acc, h => by
    have e2 : ub2 E k = 0 := ub2_short _ _ h
    rw [lasC, e2, if_neg (by omega)]
    split
    · exact .inl rfl
    · rcases las_beyond E j (k + 2) (acc ++ [0]) (by omega) with h3 | ⟨L2, h3, h4⟩
      · exact .inl h3
      · exact .inr ⟨L2, h3, by rw [h4, List.length_append, List.length_singleton]; omega⟩
/-- Between two last points. -/
structure LzQ (E : List Value) (m i : Nat) (acc : List Nat) : Prop where
  run : lasR E = lasC E (m - i) (10 + 2 * i) acc
  ris : RisL acc
  len : acc.length = i
theorem LzQ.short {E : List Value} {m i : Nat} {acc : List Nat} (h : LzQ E m i acc) (hi : i < m) (he : E.length < 10 + 2 * i + 2) : decB E = ([], 110) := by
  have hr := h.run
  rcases las_beyond E (m - i) (10 + 2 * i) acc he with h3 | ⟨L2, h3, h4⟩
  · rw [h3] at hr; rw [decB_eq E _ _ hr]; rfl
  · rw [h3] at hr
    rw [decB_eq E _ _ hr, if_pos rfl]
    exact dec_beyond _ _ (by rw [h4, h.len]; omega)
theorem LzQ.step {E : List Value} {m i : Nat} {acc : List Nat} (h : LzQ E m i acc) (hi : i < m) :
    (4096 ≤ ub2 E (10 + 2 * i) → decB E = ([], 100)) ∧ (¬ 4096 ≤ ub2 E (10 + 2 * i) → ub2 E (10 + 2 * i) < cntL acc → decB E = ([], 110)) ∧ (¬ 4096 ≤ ub2 E (10 + 2 * i) → ¬ ub2 E (10 + 2 * i) < cntL acc → LzQ E m (i + 1) (acc ++ [ub2 E (10 + 2 * i)])) := by
  have hr := h.run
  obtain ⟨j, hj⟩ : ∃ j, m - i = j + 1 := ⟨m - i - 1, by omega⟩
  rw [hj, lasC] at hr
  refine ⟨fun h1 => ?_, fun h1 h2 => ?_, fun h1 h2 => ⟨?_, h.ris.snoc (by omega) h2, by rw [List.length_append, h.len]; rfl⟩⟩
  · rw [if_pos h1] at hr; rw [decB_eq E _ _ hr]; rfl
  · rw [if_neg h1, if_pos h2] at hr; rw [decB_eq E _ _ hr]; rfl
  · rw [if_neg h1, if_neg h2] at hr
    rw [hr, show m - (i + 1) = j by omega, show 10 + 2 * (i + 1) = 10 + 2 * i + 2 by omega]
theorem LzQ.done {E : List Value} {m : Nat} {acc : List Nat} (h : LzQ E m m acc) : decB E = decL E acc := by
  have hr := h.run
  rw [Nat.sub_self, lasC] at hr
  rw [decB_eq E _ _ hr, if_pos rfl]
theorem LzQ.start {E : List Value} (h0 : ¬ ib2 E 0 < 0) (h1 : ¬ 256 < ib2 E 0) : LzQ E (ib2 E 0).toNat 0 [] := ⟨by unfold lasR; rw [if_neg h1, if_neg h0]; rfl, ⟨fun x hx => by simp at hx, fun i j x y _ hx => by simp at hx⟩, rfl⟩
theorem decB_neg {E : List Value} (h : ib2 E 0 < 0) : decB E = ([], 110) := by
  have hr : lasR E = ([], 110) := by unfold lasR; rw [if_neg (by omega), if_pos h]
  rw [decB_eq E _ _ hr]; rfl
theorem decB_many {E : List Value} (h : 256 < ib2 E 0) : decB E = ([], 100) := by
  have hr : lasR E = ([], 100) := by unfold lasR; rw [if_pos h]
  rw [decB_eq E _ _ hr]; rfl
theorem decB_two {E : List Value} (h : E.length < 2) : decB E = ([], 110) := by
  have hz : ib2 E 0 = 0 := by unfold ib2; rw [ub2_short _ _ (by omega)]; rfl
  have hr : lasR E = ([], 0) := by unfold lasR; rw [hz]; rfl
  rw [decB_eq E _ _ hr, if_pos rfl]
  exact dec_beyond _ _ (by rw [List.length_nil]; omega)
end Go.Proofs.Ytelhckckcilpaaa
