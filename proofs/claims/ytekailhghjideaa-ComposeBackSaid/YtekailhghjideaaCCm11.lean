/- Part 12 of the proof: CmT, CmU, Fix2, Fix3, May, Fix4, Eq4, Aff1, Rnd, Aff2. -/
import Derived.Deep.RegionHeld3
import Derived.StillTailTactics
import Derived.Test.YtekailhghjideaaCCm10

namespace Go.Proofs.Ytekailhghjideaa
open Go Go.RowKit
set_option linter.unusedVariables false
set_option linter.unusedSimpArgs false

def fldOf (f : Nat) (a b : Int) : Bool × Int × Int × Bool × Int × Int := if bt f 1 then (false, a, b, bt f 11 && !bt f 12, 0, 0) else (true, 0, 0, false, a, b)
def fldL (g : Int) (q : Bool × Int × Int × Bool × Int × Int) : List Value := [.int .i64 g, .int .i64 16384, .int .i64 0, .int .i64 0, .int .i64 16384, .bool q.1, .int .i64 q.2.1, .int .i64 q.2.2.1, .bool q.2.2.2.1, .int .i64 q.2.2.2.2.1, .int .i64 q.2.2.2.2.2]
theorem prt_fld (bs : List Value) (f k : Nat) : prV (prtOf bs f k) = prV ((((rsn bs 2 (k + 2) (rd2 bs (k + 2)) : Nat) : Int), matL (nums2 bs (k + 4 + 2 * widA f) ((frm f).getD 0)), fldOf f (valA bs f (k + 2 + 2)) (valA bs f (k + 2 + 2 + widA f)))) := by
  unfold prtOf fldOf matN
  cases bt f 1 <;> rfl
theorem rargs_any (B p : Nat) (bs : List Value) (k f : Nat) (w : World) (h : RR w B p bs k) (hf : f < 65536) (g : Int) :
    Calls Try.prog 51 #[.pointer (some ⟨p, 0, none⟩), .int .i64 f, .agg #[.int .i64 g, .int .i64 16384, .int .i64 0, .int .i64 0, .int .i64 16384, .bool false, .int .i64 0, .int .i64 0, .bool false, .int .i64 0, .int .i64 0]] w fun e w' => e = .returned (.agg (fldL g (fldOf f (valA bs f k) (valA bs f (k + widA f)))).toArray) ∧ RR w' B p bs (k + widA f + widA f) ∧ Only w w' [p] := by
  have e3 := bits_3 f hf
  cases h0 : bt f 0 <;> cases h1 : bt f 1
  · simp only [h0, h1, if_true, if_false, Bool.false_eq_true] at e3
    refine (rargs_0 B p bs k f w h hf g _ _ e3 h1 rfl rfl).mono fun e w' ⟨a, b, c⟩ => ⟨?_, ?_, c⟩
    · rw [a]; unfold fldOf valA widA; simp only [h0, h1, if_true, if_false, Bool.false_eq_true]; rfl
    · unfold widA; simp only [h0, if_true, if_false, Bool.false_eq_true]; exact b
  · simp only [h0, h1, if_true, if_false, Bool.false_eq_true] at e3
    cases h11 : bt f 11
    · refine (rargs_200 B p bs k f w h hf g _ _ e3 h1 h11 rfl rfl).mono fun e w' ⟨a, b, c⟩ => ⟨?_, ?_, c⟩
      · rw [a]; unfold fldOf valA widA; simp only [h0, h1, h11, if_true, if_false, Bool.false_eq_true]; rfl
      · unfold widA; simp only [h0, if_true, if_false, Bool.false_eq_true]; exact b
    · cases h12 : bt f 12
      · refine (rargs_210 B p bs k f w h hf g _ _ e3 h1 h11 h12 rfl rfl).mono fun e w' ⟨a, b, c⟩ => ⟨?_, ?_, c⟩
        · rw [a]; unfold fldOf valA widA; simp only [h0, h1, h11, h12, if_true, if_false, Bool.false_eq_true]; rfl
        · unfold widA; simp only [h0, if_true, if_false, Bool.false_eq_true]; exact b
      · refine (rargs_211 B p bs k f w h hf g _ _ e3 h1 h11 h12 rfl rfl).mono fun e w' ⟨a, b, c⟩ => ⟨?_, ?_, c⟩
        · rw [a]; unfold fldOf valA widA; simp only [h0, h1, h11, h12, if_true, if_false, Bool.false_eq_true]; rfl
        · unfold widA; simp only [h0, if_true, if_false, Bool.false_eq_true]; exact b
  · simp only [h0, h1, if_true, if_false, Bool.false_eq_true] at e3
    refine (rargs_1 B p bs k f w h hf g _ _ e3 h1 rfl rfl).mono fun e w' ⟨a, b, c⟩ => ⟨?_, ?_, c⟩
    · rw [a]; unfold fldOf valA widA; simp only [h0, h1, if_true, if_false, Bool.false_eq_true]; rfl
    · unfold widA; simp only [h0, if_true, if_false, Bool.false_eq_true]; exact b
  · simp only [h0, h1, if_true, if_false, Bool.false_eq_true] at e3
    cases h11 : bt f 11
    · refine (rargs_300 B p bs k f w h hf g _ _ e3 h1 h11 rfl rfl).mono fun e w' ⟨a, b, c⟩ => ⟨?_, ?_, c⟩
      · rw [a]; unfold fldOf valA widA; simp only [h0, h1, h11, if_true, if_false, Bool.false_eq_true]; rfl
      · unfold widA; simp only [h0, if_true, if_false, Bool.false_eq_true]; exact b
    · cases h12 : bt f 12
      · refine (rargs_310 B p bs k f w h hf g _ _ e3 h1 h11 h12 rfl rfl).mono fun e w' ⟨a, b, c⟩ => ⟨?_, ?_, c⟩
        · rw [a]; unfold fldOf valA widA; simp only [h0, h1, h11, h12, if_true, if_false, Bool.false_eq_true]; rfl
        · unfold widA; simp only [h0, if_true, if_false, Bool.false_eq_true]; exact b
      · refine (rargs_311 B p bs k f w h hf g _ _ e3 h1 h11 h12 rfl rfl).mono fun e w' ⟨a, b, c⟩ => ⟨?_, ?_, c⟩
        · rw [a]; unfold fldOf valA widA; simp only [h0, h1, h11, h12, if_true, if_false, Bool.false_eq_true]; rfl
        · unfold widA; simp only [h0, if_true, if_false, Bool.false_eq_true]; exact b

theorem rpart_any (B p : Nat) (bs : List Value) (k : Nat) (w : World) (h : RR w B p bs k) : Calls Try.prog 24 #[.pointer (some ⟨p, 0, none⟩)] w fun e w' =>
    ∃ P mo, e = .returned (.tuple #[prV P, .bool mo, .bool (okPrt bs (flgAt bs k) k)]) ∧ (okPrt bs (flgAt bs k) k = true → P = prtOf bs (flgAt bs k) k ∧ mo = bt (flgAt bs k) 5 ∧ RR w' B p bs (endP (flgAt bs k) k)) ∧ Only w w' [p] := by
  have hf := flgAt_lt h.bytes k
  obtain ⟨f, hff⟩ : ∃ f, flgAt bs k = f := ⟨_, rfl⟩
  have CA0 := fun g W (r : RR W B p bs (k + 2 + 2)) => rargs_any B p bs (k + 2 + 2) f W r (hff ▸ hf) g
  obtain ⟨g, hg⟩ : ∃ g, ((rsn bs 2 (k + 2) (rd2 bs (k + 2)) : Nat) : Int) = g := ⟨_, rfl⟩
  have CA := CA0 g
  unfold fldL at CA
  rw [hff] at hf ⊢
  rcases frm_cases f with ⟨hb2, hn⟩ | ⟨hb2, hn⟩ | ⟨hb2, hn⟩ | ⟨hb2, hn⟩ | ⟨h0, h1, h2, h3, hn⟩
  · have hend : endP f k = k + 2 + 2 + widA f + widA f := by unfold endP matN; rw [hn]; simp only [Option.getD_some]; omega
    have hok : okPrt bs f k = decide (k + 2 + 2 + widA f + widA f ≤ bs.length) := by unfold okPrt; rw [hn, hend]; rfl
    have hpv : prV (prtOf bs f k) = prV (g, matL (nums2 bs (k + 2 + 2 + widA f + widA f) 0), fldOf f (valA bs f (k + 2 + 2)) (valA bs f (k + 2 + 2 + widA f))) := by
      rw [prt_fld, hn, hg, show k + 4 + 2 * widA f = k + 2 + 2 + widA f + widA f by omega]; rfl
    rw [hok, hend]
    refine (rpart_0 B p bs k (k + 2 + 2 + widA f + widA f) f w h hf hff g _ _ _ _ _ _ (bt f 5)  hb2 hg rfl CA ).mono fun e w' ⟨a, b, c⟩ => ⟨prtOf bs f k, bt f 5, ?_, fun _ => ⟨rfl, rfl, b⟩, c⟩
    rw [a, hpv]
    rfl
  · have hend : endP f k = k + 2 + 2 + widA f + widA f + 2 := by unfold endP matN; rw [hn]; simp only [Option.getD_some]; omega
    have hok : okPrt bs f k = decide (k + 2 + 2 + widA f + widA f + 2 ≤ bs.length) := by unfold okPrt; rw [hn, hend]; rfl
    have hpv : prV (prtOf bs f k) = prV (g, matL (nums2 bs (k + 2 + 2 + widA f + widA f) 1), fldOf f (valA bs f (k + 2 + 2)) (valA bs f (k + 2 + 2 + widA f))) := by
      rw [prt_fld, hn, hg, show k + 4 + 2 * widA f = k + 2 + 2 + widA f + widA f by omega]; rfl
    rw [hok, hend]
    refine (rpart_1 B p bs k (k + 2 + 2 + widA f + widA f) f w h hf hff g _ _ _ _ _ _ (bt f 5) _ hb2 hg rfl CA rfl).mono fun e w' ⟨a, b, c⟩ => ⟨prtOf bs f k, bt f 5, ?_, fun _ => ⟨rfl, rfl, b⟩, c⟩
    rw [a, hpv]
    rfl
  · have hend : endP f k = k + 2 + 2 + widA f + widA f + 2 + 2 := by unfold endP matN; rw [hn]; simp only [Option.getD_some]; omega
    have hok : okPrt bs f k = decide (k + 2 + 2 + widA f + widA f + 2 + 2 ≤ bs.length) := by unfold okPrt; rw [hn, hend]; rfl
    have hpv : prV (prtOf bs f k) = prV (g, matL (nums2 bs (k + 2 + 2 + widA f + widA f) 2), fldOf f (valA bs f (k + 2 + 2)) (valA bs f (k + 2 + 2 + widA f))) := by
      rw [prt_fld, hn, hg, show k + 4 + 2 * widA f = k + 2 + 2 + widA f + widA f by omega]; rfl
    rw [hok, hend]
    refine (rpart_2 B p bs k (k + 2 + 2 + widA f + widA f) f w h hf hff g _ _ _ _ _ _ (bt f 5) _ _ hb2 hg rfl CA rfl rfl).mono fun e w' ⟨a, b, c⟩ => ⟨prtOf bs f k, bt f 5, ?_, fun _ => ⟨rfl, rfl, b⟩, c⟩
    rw [a, hpv]
    rfl
  · have hend : endP f k = k + 2 + 2 + widA f + widA f + 2 + 2 + 2 + 2 := by unfold endP matN; rw [hn]; simp only [Option.getD_some]; omega
    have hok : okPrt bs f k = decide (k + 2 + 2 + widA f + widA f + 2 + 2 + 2 + 2 ≤ bs.length) := by unfold okPrt; rw [hn, hend]; rfl
    have hpv : prV (prtOf bs f k) = prV (g, matL (nums2 bs (k + 2 + 2 + widA f + widA f) 4), fldOf f (valA bs f (k + 2 + 2)) (valA bs f (k + 2 + 2 + widA f))) := by
      rw [prt_fld, hn, hg, show k + 4 + 2 * widA f = k + 2 + 2 + widA f + widA f by omega]; rfl
    rw [hok, hend]
    refine (rpart_4 B p bs k (k + 2 + 2 + widA f + widA f) f w h hf hff g _ _ _ _ _ _ (bt f 5) _ _ _ _ hb2 hg rfl CA rfl rfl rfl rfl).mono fun e w' ⟨a, b, c⟩ => ⟨prtOf bs f k, bt f 5, ?_, fun _ => ⟨rfl, rfl, b⟩, c⟩
    rw [a, hpv]
    rfl

  · refine (rpart_x B p bs k (k + 2 + 2 + widA f + widA f) f w h hf hff g _ _ _ _ _ _ (bt f 5) h0 h1 h2 h3 hg rfl CA).mono fun e w' ⟨a, c⟩ => ⟨(g, one14, fldOf f (valA bs f (k + 2 + 2)) (valA bs f (k + 2 + 2 + widA f))), false, ?_, fun h => ?_, c⟩
    · rw [a]
      unfold okPrt
      rw [hn]
      rfl
    · unfold okPrt at h
      rw [hn] at h
      cases h
/-- Between two rounds of the reference's Decode. -/
structure RDQ (w : World) (bs : List Value) (R : List Prt × Int) (k : Nat) (L : List Prt) (v : Value) (W : World) : Prop where
  rs : RR W w.heap.size w.heap.size bs k
  own : W.ownsRow (w.heap.size + 1) 36 11 v L.length (L.flatMap prL)
  bel : Below w.heap.size w W
  size : w.heap.size + 1 ≤ W.heap.size
  go : L.length ≤ 63 ∧ decP bs (64 - L.length) k L = R
theorem decG_short {bs : List Value} (h : bs.length < 10) : decG bs = ([], 110) := by
  unfold decG
  split
  · rfl
  · exact decP_bad (by unfold okPrt endP; rw [decide_eq_false (by omega)]; simp)

set_option maxRecDepth 100000 in
set_option maxHeartbeats 1000000 in
theorem rdecode_any (A : Option Addr) (c : Nat) (bs : List Value) (w : World) (hE : Lists w w.heap.size A bs) (h8 : Bytes8 bs) (hc : bs.length ≤ c) (hc2 : c ≤ 9223372036854775807) (hm : bs.length ≤ 140737488355328) :
    Calls Try.prog 8 #[.slice A bs.length c] w (DecPost w (decG bs)) := by
  have al : Below w.heap.size w (w.alloc (.cells #[.slice A bs.length c, .int .i64 0, .bool false] 50)) := (Below.refl _ _).alloc (Nat.le_refl _) _
  have r0 : RR (w.alloc (.cells #[.slice A bs.length c, .int .i64 0, .bool false] 50)) w.heap.size w.heap.size bs 0 := .inl ⟨Nat.zero_le _, A, c, Blk.new _ _ _, hE.below al, h8, Nat.zero_le _, hc, hc2, hm, Nat.le_refl _⟩
  obtain ⟨x, hx⟩ : ∃ x, x = rdk bs 2 0 := ⟨_, rfl⟩
  have CI : ∀ W, RR W w.heap.size w.heap.size bs 0 → Calls Try.prog 22 #[.pointer (some ⟨w.heap.size, 0, none⟩)] W (RReadS W w.heap.size w.heap.size bs (0 + 2) x) := fun W r => by rw [hx]; exact rr_i16 _ _ bs 0 W r
  have CT : ∀ W, RR W w.heap.size w.heap.size bs (0 + 2) → Calls Try.prog 23 #[.pointer (some ⟨w.heap.size, 0, none⟩), .int .i64 8] W (RTookS W w.heap.size w.heap.size bs 10) := fun W r => rr_take _ _ bs 2 8 W r (by decide)
  obtain ⟨R, hR⟩ : ∃ R, R = decG bs := ⟨_, rfl⟩
  rw [← hR]
  have hsh : bs.length < 10 → R = ([], 110) := fun h => by rw [hR]; exact decG_short h
  have hps : 0 ≤ x → R = ([], 110) := fun h => by rw [hR]; unfold decG; rw [← hx, if_pos h]
  have hne : ¬ 0 ≤ x → decP bs 64 10 [] = R := fun h => by rw [hR]; unfold decG; rw [← hx, if_neg h]
  have HS := Lib.hid hsh
  have HP := Lib.hid hps
  have HN := Lib.hid hne
  obtain ⟨n, hn⟩ : ∃ n, n = bs.length := ⟨_, rfl⟩
  have HL := Lib.hid hn
  rw [← hn] at al r0 hm ⊢
  clear hE hc hx hR hsh hps hne hn
  by_cases hb : n < 10
  · have hR : R = ([], 110) := HS.out (by rw [← HL.out]; exact hb)
    go_enter Try.func8, Try.ntmps8
    go_wp2_with (first | (go_at_call 22; ((with_reducible refine (CI _ r0).mono ?_); rintro e w1 ⟨rfl, r1, o1⟩; have B1 := al.trans (o1.to_below al.size (by simp)); have s1 := o1.size; simp only [World.size_alloc] at s1)) |  (go_at_call 23; ((with_reducible refine (CT _ r1).mono ?_); rintro e w2 ⟨v2, rfl, r2, o2⟩; have B2 := B1.trans (o2.to_below B1.size (by simp)); have s2 := Nat.le_trans s1 o2.size; have fl := r2.flag; rw [show decide (bs.length < 10) = true by rw [← HL.out]; simp; omega] at fl)))
    exact bodyPost_ret (results_tmp2 rfl _ _ _) rfl ⟨.slice none 0 0, by rw [hR]; rfl, by rw [hR]; exact World.ownsRow_nil _ _ _ _, B2⟩
  · by_cases hx0 : 0 ≤ x
    · have d1 : decide (x ≥ 0) = true := by simpa using hx0
      have hR : R = ([], 110) := HP.out hx0
      go_enter Try.func8, Try.ntmps8
      go_wp2_with (first | (go_at_call 22; ((with_reducible refine (CI _ r0).mono ?_); rintro e w1 ⟨rfl, r1, o1⟩; have B1 := al.trans (o1.to_below al.size (by simp)); have s1 := o1.size; simp only [World.size_alloc] at s1)) |  (go_at_call 23; ((with_reducible refine (CT _ r1).mono ?_); rintro e w2 ⟨v2, rfl, r2, o2⟩; have B2 := B1.trans (o2.to_below B1.size (by simp)); have s2 := Nat.le_trans s1 o2.size; have fl := r2.flag; rw [show decide (bs.length < 10) = false by rw [← HL.out]; simp; omega] at fl)))
      exact bodyPost_ret (results_tmp2 rfl _ _ _) rfl ⟨.slice none 0 0, by rw [hR]; rfl, by rw [hR]; exact World.ownsRow_nil _ _ _ _, B2⟩
    · have d1 : decide (x ≥ 0) = false := by simpa using hx0
      have hgo := HN.out hx0
      go_enter Try.func8, Try.ntmps8
      go_wp2_with (first | (go_at_call 22; ((with_reducible refine (CI _ r0).mono ?_); rintro e w1 ⟨rfl, r1, o1⟩; have B1 := al.trans (o1.to_below al.size (by simp)); have s1 := o1.size; simp only [World.size_alloc] at s1)) |  (go_at_call 23; ((with_reducible refine (CT _ r1).mono ?_); rintro e w2 ⟨v2, rfl, r2, o2⟩; have B2 := B1.trans (o2.to_below B1.size (by simp)); have s2 := Nat.le_trans s1 o2.size; have fl := r2.flag; rw [show decide (bs.length < 10) = false by rw [← HL.out]; simp; omega] at fl)))
      have D0 : RDQ w bs R 10 [] (.slice none 0 0) w2 := ⟨r2, World.ownsRow_nil _ _ _ _, B2, s2, by simp, hgo⟩
      clear CI CT r0 r1 r2 o1 o2 B1 B2 hgo fl d1 al
      go_loopw [6] (fun v wr => ∃ (k : Nat) (L : List Prt), RDQ w bs R k L v wr) (fun v _ => 65 - sLenOf v)
      case atStart => exact ⟨10, [], D0⟩
      case round =>
        clear D0
        obtain ⟨k, L, D⟩ := hrel
        obtain ⟨hl63, hdec⟩ := D.go
        obtain ⟨A5, c5, rfl, l5, _⟩ := own_lists D.own
        have hDz := D.size
        obtain ⟨j, hj⟩ : ∃ j, 64 - L.length = j + 1 := ⟨63 - L.length, by omega⟩
        rw [hj] at hdec
        have HB := Lib.hid (decP_bad (bs := bs) (n := j) (k := k) (L := L))
        have HM := Lib.hid (decP_more (bs := bs) (n := j) (k := k) (L := L))
        have HZ := Lib.hid (decP_last (bs := bs) (n := j) (k := k) (L := L))
        have HD := Lib.hid hdec
        have CP := rpart_any w.heap.size w.heap.size bs k wr D.rs
        clear hdec
        generalize flgAt bs k = f at *
        simp only [prV] at CP
        obtain ⟨i0, hi, hz0, hz1, hz2⟩ := info_parts prInfo
        cases hok : okPrt bs f k
        · rw [hok] at CP
          have hR : R = ([], 110) := by rw [← HD.out]; exact HB.out hok
          go_wp2_with (first | (go_at_call 24; ((with_reducible refine (CP).mono ?_); rintro e w5 ⟨P, mo, rfl, hPm, o5⟩; have s5 := o5.size; have hpl : (prL P).length = 11 := rfl)) | (refine wpList_store_row rfl 36 (.tmp 7) (.tmp 28) (by with_reducible rfl) w5.heap.size (prL P).toArray (by rfl) (by rfl) 36 #[.int .i64 0, .int .i64 0, .int .i64 0, .int .i64 0, .int .i64 0, .bool false, .int .i64 0, .int .i64 0, .bool false, .int .i64 0, .int .i64 0] (by exact Blk.new _ _ _) prSize rfl (by simp [prL, Value.oneCell']) ?_; rw [World.setRow_alloc_new]))
          exact bodyPost_ret (results_tmp2 rfl _ _ _) rfl ⟨.slice none 0 0, by rw [hR]; rfl, by rw [hR]; exact World.ownsRow_nil _ _ _ _, (D.bel.trans (o5.to_below D.bel.size (by simp))).alloc (by have := D.bel.size; omega) _⟩
        · rw [hok] at CP
          cases hb5 : bt f 5
          · have HN2 : R = (L ++ [prtOf bs f k], 0) := by rw [← HD.out]; exact HZ.out hok hb5
            have HN2 := Lib.hid HN2
            clear HB HM HZ HD HN
            rw [hb5] at CP
            go_wp2_with (first | (go_at_call 24; ((with_reducible refine (CP).mono ?_); rintro e w5 ⟨P, mo, rfl, hPm, o5⟩; have s5 := o5.size; have hpl : (prL P).length = 11 := rfl; obtain ⟨hPP, hmo, r5⟩ := hPm rfl; subst hmo; have HPP := Lib.hid hPP; clear hPP hPm)) | (refine wpList_store_row rfl 36 (.tmp 7) (.tmp 28) (by with_reducible rfl) w5.heap.size (prL P).toArray (by rfl) (by rfl) 36 #[.int .i64 0, .int .i64 0, .int .i64 0, .int .i64 0, .int .i64 0, .bool false, .int .i64 0, .int .i64 0, .bool false, .int .i64 0, .int .i64 0] (by exact Blk.new _ _ _) prSize rfl (by simp [prL, Value.oneCell']) ?_; rw [World.setRow_alloc_new]) | (refine wpList_load_row rfl 36 (.tmp 7) (by with_reducible rfl) w5.heap.size (by rfl) 36 (prL P).toArray (0, 0) _ (by exact Blk.new _ _ _) Try.underlying36 rfl prSize ?_) | (at_builtin; rw [fold_pr P]; have own6 := own_only (own_only (own_only D.own o5 (fun b hb e => by have := own_lowc D.own b hb; simp at e; omega)) ((Only.refl w5 []).alloc (.cells (prL P).toArray 36)) (fun _ _ h => (nomatch h))) ((Only.refl (w5.alloc (.cells (prL P).toArray 36)) []).alloc (.cells (prL P).toArray 36)) (fun _ _ h => (nomatch h)); have r6 := (r5.below ((Below.refl w5.heap.size w5).alloc (Nat.le_refl _) (.cells (prL P).toArray 36))).below ((Below.refl (w5.alloc (.cells (prL P).toArray 36)).heap.size (w5.alloc (.cells (prL P).toArray 36))).alloc (Nat.le_refl _) (.cells (prL P).toArray 36)); have B6 := ((D.bel.trans (o5.to_below D.bel.size (by simp))).alloc (by omega) (.cells (prL P).toArray 36)).alloc (by simp; omega) (.cells (prL P).toArray 36); refine wpList_append_src _ rfl (.tmp 33) (.tmp 35) 23 rfl (w.heap.size + 1) 36 i0 (.agg #[.int .i64 0, .int .i64 0, .int .i64 0, .int .i64 0, .int .i64 0, .bool false, .int .i64 0, .int .i64 0, .bool false, .int .i64 0, .int .i64 0]) 11 88 Try.underlying23 hi hz0 hz1 hz2 rfl (by decide) (.slice A5 L.length c5) L.length (L.flatMap prL) rfl own6 (w5.heap.size + 1 + 1) (some ⟨w5.heap.size + 1, 0, none⟩) 1 1 (prL P) (by rfl) (lists_row_at (w5.alloc (.cells (prL P).toArray 36)) (prL P) 36 (w5.heap.size + 1) (by simp)) rfl (by simp [prL, Value.oneCell']) (by simp only [maxLen]; omega) (by omega) (by simp; omega) ?_; intro v9 w9 own9 hg9 hat9; have g9 : Only _ w9 (blk (.slice A5 L.length c5)) := (Only.refl _ _).grown hg9 (fun b hb => .inl (by have hb' : (Value.slice A5 L.length c5).ownBlock = some b := hb; simp [blk, hb'])); have r9 := r6.other g9 (fun hm => by have := own_lowc D.own _ hm; omega) (fun b hb => by have := own_lowc D.own b hb; omega); have B9 := B6.trans (g9.to_below (by have := B6.size; exact this) (fun b hb => by have := own_lowc D.own b hb; omega)); have s9 : w.heap.size + 1 ≤ w9.heap.size := (by have := g9.size; simp at this; omega); have own9 : w9.ownsRow (w.heap.size + 1) 36 11 v9 (L.length + 1) ((L ++ [P]).flatMap prL) := (by rw [flat_snoc]; exact own9); obtain ⟨A9, c9, rfl, _, _⟩ := own_lists own9))
            exact bodyPost_ret (results_tmp2 rfl _ _ _) rfl ⟨_, by rw [HN2.out]; rfl, by rw [HN2.out, ← HPP.out]; simp only [List.length_append, List.length_singleton]; exact lowRow own9 (base1 := w.heap.size) (by omega), B9⟩
          · have HN2 : decP bs j (endP f k) (L ++ [prtOf bs f k]) = R := by rw [← HD.out]; exact (HM.out hok hb5).symm
            have HN2 := Lib.hid HN2
            clear HB HM HZ HD HN
            rw [hb5] at CP
            by_cases h64 : L.length = 63
            · have hR : R = ([], 120) := by rw [← HN2.out, show j = 0 by omega]; rfl
              have hj0 : L.length + 1 = 64 := by omega
              have H64 := Lib.hid h64
              clear h64
              go_wp2_with (first | (go_at_call 24; ((with_reducible refine (CP).mono ?_); rintro e w5 ⟨P, mo, rfl, hPm, o5⟩; have s5 := o5.size; have hpl : (prL P).length = 11 := rfl; obtain ⟨hPP, hmo, r5⟩ := hPm rfl; subst hmo; have HPP := Lib.hid hPP; clear hPP hPm)) | (refine wpList_store_row rfl 36 (.tmp 7) (.tmp 28) (by with_reducible rfl) w5.heap.size (prL P).toArray (by rfl) (by rfl) 36 #[.int .i64 0, .int .i64 0, .int .i64 0, .int .i64 0, .int .i64 0, .bool false, .int .i64 0, .int .i64 0, .bool false, .int .i64 0, .int .i64 0] (by exact Blk.new _ _ _) prSize rfl (by simp [prL, Value.oneCell']) ?_; rw [World.setRow_alloc_new]) | (refine wpList_load_row rfl 36 (.tmp 7) (by with_reducible rfl) w5.heap.size (by rfl) 36 (prL P).toArray (0, 0) _ (by exact Blk.new _ _ _) Try.underlying36 rfl prSize ?_) | (at_builtin; rw [fold_pr P]; have own6 := own_only (own_only (own_only D.own o5 (fun b hb e => by have := own_lowc D.own b hb; simp at e; omega)) ((Only.refl w5 []).alloc (.cells (prL P).toArray 36)) (fun _ _ h => (nomatch h))) ((Only.refl (w5.alloc (.cells (prL P).toArray 36)) []).alloc (.cells (prL P).toArray 36)) (fun _ _ h => (nomatch h)); have r6 := (r5.below ((Below.refl w5.heap.size w5).alloc (Nat.le_refl _) (.cells (prL P).toArray 36))).below ((Below.refl (w5.alloc (.cells (prL P).toArray 36)).heap.size (w5.alloc (.cells (prL P).toArray 36))).alloc (Nat.le_refl _) (.cells (prL P).toArray 36)); have B6 := ((D.bel.trans (o5.to_below D.bel.size (by simp))).alloc (by omega) (.cells (prL P).toArray 36)).alloc (by simp; omega) (.cells (prL P).toArray 36); refine wpList_append_src _ rfl (.tmp 33) (.tmp 35) 23 rfl (w.heap.size + 1) 36 i0 (.agg #[.int .i64 0, .int .i64 0, .int .i64 0, .int .i64 0, .int .i64 0, .bool false, .int .i64 0, .int .i64 0, .bool false, .int .i64 0, .int .i64 0]) 11 88 Try.underlying23 hi hz0 hz1 hz2 rfl (by decide) (.slice A5 L.length c5) L.length (L.flatMap prL) rfl own6 (w5.heap.size + 1 + 1) (some ⟨w5.heap.size + 1, 0, none⟩) 1 1 (prL P) (by rfl) (lists_row_at (w5.alloc (.cells (prL P).toArray 36)) (prL P) 36 (w5.heap.size + 1) (by simp)) rfl (by simp [prL, Value.oneCell']) (by simp only [maxLen]; omega) (by omega) (by simp; omega) ?_; intro v9 w9 own9 hg9 hat9; have g9 : Only _ w9 (blk (.slice A5 L.length c5)) := (Only.refl _ _).grown hg9 (fun b hb => .inl (by have hb' : (Value.slice A5 L.length c5).ownBlock = some b := hb; simp [blk, hb'])); have r9 := r6.other g9 (fun hm => by have := own_lowc D.own _ hm; omega) (fun b hb => by have := own_lowc D.own b hb; omega); have B9 := B6.trans (g9.to_below (by have := B6.size; exact this) (fun b hb => by have := own_lowc D.own b hb; omega)); have s9 : w.heap.size + 1 ≤ w9.heap.size := (by have := g9.size; simp at this; omega); have own9 : w9.ownsRow (w.heap.size + 1) 36 11 v9 (L.length + 1) ((L ++ [P]).flatMap prL) := (by rw [flat_snoc]; exact own9); obtain ⟨A9, c9, rfl, _, _⟩ := own_lists own9))
              exact bodyPost_ret (results_tmp2 rfl _ _ _) rfl ⟨.slice none 0 0, by rw [hR]; rfl, by rw [hR]; exact World.ownsRow_nil _ _ _ _, B9⟩
            · have d2' : ¬ L.length = 63 := h64
              have d3 : ¬ L.length + 1 = 64 := by omega
              go_wp2_with (first | (go_at_call 24; ((with_reducible refine (CP).mono ?_); rintro e w5 ⟨P, mo, rfl, hPm, o5⟩; have s5 := o5.size; have hpl : (prL P).length = 11 := rfl; obtain ⟨hPP, hmo, r5⟩ := hPm rfl; subst hmo; have HPP := Lib.hid hPP; clear hPP hPm)) | (refine wpList_store_row rfl 36 (.tmp 7) (.tmp 28) (by with_reducible rfl) w5.heap.size (prL P).toArray (by rfl) (by rfl) 36 #[.int .i64 0, .int .i64 0, .int .i64 0, .int .i64 0, .int .i64 0, .bool false, .int .i64 0, .int .i64 0, .bool false, .int .i64 0, .int .i64 0] (by exact Blk.new _ _ _) prSize rfl (by simp [prL, Value.oneCell']) ?_; rw [World.setRow_alloc_new]) | (refine wpList_load_row rfl 36 (.tmp 7) (by with_reducible rfl) w5.heap.size (by rfl) 36 (prL P).toArray (0, 0) _ (by exact Blk.new _ _ _) Try.underlying36 rfl prSize ?_) | (at_builtin; rw [fold_pr P]; have own6 := own_only (own_only (own_only D.own o5 (fun b hb e => by have := own_lowc D.own b hb; simp at e; omega)) ((Only.refl w5 []).alloc (.cells (prL P).toArray 36)) (fun _ _ h => (nomatch h))) ((Only.refl (w5.alloc (.cells (prL P).toArray 36)) []).alloc (.cells (prL P).toArray 36)) (fun _ _ h => (nomatch h)); have r6 := (r5.below ((Below.refl w5.heap.size w5).alloc (Nat.le_refl _) (.cells (prL P).toArray 36))).below ((Below.refl (w5.alloc (.cells (prL P).toArray 36)).heap.size (w5.alloc (.cells (prL P).toArray 36))).alloc (Nat.le_refl _) (.cells (prL P).toArray 36)); have B6 := ((D.bel.trans (o5.to_below D.bel.size (by simp))).alloc (by omega) (.cells (prL P).toArray 36)).alloc (by simp; omega) (.cells (prL P).toArray 36); refine wpList_append_src _ rfl (.tmp 33) (.tmp 35) 23 rfl (w.heap.size + 1) 36 i0 (.agg #[.int .i64 0, .int .i64 0, .int .i64 0, .int .i64 0, .int .i64 0, .bool false, .int .i64 0, .int .i64 0, .bool false, .int .i64 0, .int .i64 0]) 11 88 Try.underlying23 hi hz0 hz1 hz2 rfl (by decide) (.slice A5 L.length c5) L.length (L.flatMap prL) rfl own6 (w5.heap.size + 1 + 1) (some ⟨w5.heap.size + 1, 0, none⟩) 1 1 (prL P) (by rfl) (lists_row_at (w5.alloc (.cells (prL P).toArray 36)) (prL P) 36 (w5.heap.size + 1) (by simp)) rfl (by simp [prL, Value.oneCell']) (by simp only [maxLen]; omega) (by omega) (by simp; omega) ?_; intro v9 w9 own9 hg9 hat9; have g9 : Only _ w9 (blk (.slice A5 L.length c5)) := (Only.refl _ _).grown hg9 (fun b hb => .inl (by have hb' : (Value.slice A5 L.length c5).ownBlock = some b := hb; simp [blk, hb'])); have r9 := r6.other g9 (fun hm => by have := own_lowc D.own _ hm; omega) (fun b hb => by have := own_lowc D.own b hb; omega); have B9 := B6.trans (g9.to_below (by have := B6.size; exact this) (fun b hb => by have := own_lowc D.own b hb; omega)); have s9 : w.heap.size + 1 ≤ w9.heap.size := (by have := g9.size; simp at this; omega); have own9 : w9.ownsRow (w.heap.size + 1) 36 11 v9 (L.length + 1) ((L ++ [P]).flatMap prL) := (by rw [flat_snoc]; exact own9); obtain ⟨A9, c9, rfl, _, _⟩ := own_lists own9))
              go_roundw
              case rel => exact ⟨endP f k, L ++ [P], ⟨r9, by rw [List.length_append, List.length_singleton]; exact own9, B9, s9, by simp; omega, by rw [HPP.out, List.length_append, List.length_singleton, show 64 - (L.length + 1) = j by omega]; exact HN2.out⟩⟩
              case measure => simp [sLenOf]; omega
end Go.Proofs.Ytekailhghjideaa

namespace Go.Proofs.Ytekailhghjideaa
open Go Go.RowKit
set_option linter.unusedVariables false
set_option linter.unusedSimpArgs false

section
variable {E : List Value} {N : Nat}
theorem crsn_take {m k x : Nat} (h : k + m ≤ N) : rsn (E.take N) m k x = rsn E m k x := by
  unfold rsn
  rw [List.length_take]
  by_cases h1 : k + m ≤ E.length
  · rw [if_pos h1, if_pos (by omega)]
  · rw [if_neg h1, if_neg (by omega)]
theorem crdk_take {kd k : Nat} (hk : kd ≤ 2) (h : k + wid kd ≤ N) : rdk (E.take N) kd k = rdk E kd k := by
  match kd, hk with
  | 0, _ =>
    unfold rdk
    simp only [wid] at h
    simp only [crsn_take (E := E) (N := N) h, byteAt_take (a := E) (show k < N by omega)]
  | 1, _ =>
    unfold rdk
    simp only [wid] at h
    simp only [crsn_take (E := E) (N := N) h, rd2_take (a := E) (show k + 1 < N by omega)]
  | 2, _ =>
    unfold rdk
    simp only [wid] at h
    simp only [crsn_take (E := E) (N := N) h, rd2_take (a := E) (show k + 1 < N by omega)]
theorem flg_take {k : Nat} (h : k + 2 ≤ N) : flgAt (E.take N) k = flgAt E k := by
  unfold flgAt
  rw [crsn_take h, rd2_take (by omega)]
theorem valA_take {f k : Nat} (h : k + widA f ≤ N) : valA (E.take N) f k = valA E f k := by
  unfold valA
  unfold widA at h
  cases h0 : bt f 0 <;> rw [h0] at h <;> simp only [if_true, if_false, Bool.false_eq_true] at h ⊢
  · rw [crdk_take (by omega) (by simp only [wid]; exact h), crsn_take h, byteAt_take (by omega)]
  · rw [crdk_take (by omega) (by simp only [wid]; exact h), crdk_take (by omega) (by simp only [wid]; exact h)]
theorem nums2_take {k n : Nat} (h : k + 2 * n ≤ N) : nums2 (E.take N) k n = nums2 E k n := by
  unfold nums2
  refine List.map_congr_left fun i hi => ?_
  have := List.mem_range.1 hi
  exact crdk_take (by omega) (by simp only [wid]; omega)
theorem widA_le (f : Nat) : 1 ≤ widA f ∧ widA f ≤ 2 := by unfold widA; split <;> omega
theorem matN_le (f : Nat) : matN f ≤ 4 := by have := matN_cases f; omega
theorem prt_take {f k : Nat} (h : endP f k ≤ N) : prtOf (E.take N) f k = prtOf E f k := by
  have h1 := widA_le f
  unfold endP at h
  unfold prtOf
  rw [crdk_take (kd := 1) (by omega) (by simp only [wid]; omega), valA_take (by omega), valA_take (by omega), nums2_take (by omega)]
theorem okPrt_take {f k : Nat} (h : endP f k ≤ N) : okPrt (E.take N) f k = okPrt E f k := by
  unfold okPrt
  rw [List.length_take]
  congr 1
  rw [decide_eq_decide]
  omega
theorem decP_take : ∀ (n k : Nat) (L : List Prt), k + 16 * n ≤ N → decP (E.take N) n k L = decP E n k L
  | 0, _, _, _ => rfl
  | n + 1, k, L, h => by
    have h0 : flgAt (E.take N) k = flgAt E k := flg_take (by omega)
    have h1 := widA_le (flgAt E k)
    have h2 := matN_le (flgAt E k)
    have h3 : endP (flgAt E k) k ≤ k + 16 := by unfold endP; omega
    unfold decP
    rw [h0, okPrt_take (by omega), prt_take (by omega), decP_take n _ _ (by omega)]
end
theorem decG_take (E : List Value) : decG (E.take 1034) = decG E := by
  unfold decG
  rw [crdk_take (by omega) (by decide), decP_take 64 10 [] (by omega)]
end Go.Proofs.Ytekailhghjideaa

namespace Go.Proofs.Ytekailhghjideaa
open Go.RowKit

theorem ret_iiv {k l : IntKind} {a b a' b' : Int} {v : Value} (h : a = a') (g : b = b') : Ending.returned (.tuple #[.int k a, .int l b, v]) = .returned (.tuple #[.int k a', .int l b', v]) := by rw [h, g]

end Go.Proofs.Ytekailhghjideaa

namespace Go.Proofs.Ytekailhghjideaa
open Go.RowKit

theorem ret_ii {k l : IntKind} {a b a' b' : Int} (h : a = a') (g : b = b') : Ending.returned (.tuple #[.int k a, .int l b]) = .returned (.tuple #[.int k a', .int l b']) := by rw [h, g]

end Go.Proofs.Ytekailhghjideaa

namespace Go.Proofs.Ytekailhghjideaa
open Go.RowKit

theorem all_take_snoc (f : Int → Bool) (zs : List Int) (k : Nat) (h : k < zs.length) : (zs.take (k + 1)).all f = ((zs.take k).all f && f (zs.getD k 0)) := by
  rw [List.take_succ_eq_append_getElem h, List.all_append]; simp [List.getD, h]

theorem all_false_of_take (f : Int → Bool) (zs : List Int) (k : Nat) (h : (zs.take k).all f = false) : zs.all f = false := by
  have e := List.take_append_drop k zs
  rw [← e, List.all_append, h, Bool.false_and]

end Go.Proofs.Ytekailhghjideaa

namespace Go.Proofs.Ytekailhghjideaa
open Go.RowKit

theorem cells2 (w0 : World) (b : Nat) (hb : w0.heap.size = b) (x y : Int) (t : TypeId) (j : Nat) (hj : j < [x, y].length) :
    (w0.alloc (.cells #[.int .i64 x, .int .i64 y] t)).cell? ⟨b, 0 + j, none⟩ = some (.int .i64 ([x, y].getD j 0)) := by
  rw [World.cell?_alloc_at _ _ _ _ hb.symm]
  match j, hj with
  | 0, _ => rfl
  | 1, _ => rfl

theorem cells3 (w0 : World) (b : Nat) (hb : w0.heap.size = b) (x y z : Int) (t : TypeId) (j : Nat) (hj : j < [x, y, z].length) :
    (w0.alloc (.cells #[.int .i64 x, .int .i64 y, .int .i64 z] t)).cell? ⟨b, 0 + j, none⟩ = some (.int .i64 ([x, y, z].getD j 0)) := by
  rw [World.cell?_alloc_at _ _ _ _ hb.symm]
  match j, hj with
  | 0, _ => rfl
  | 1, _ => rfl
  | 2, _ => rfl

theorem all2 (x y : Int) : [x, y].all mayB = (mayB x && mayB y) := by simp
theorem all3 (x y z : Int) : [x, y, z].all mayB = (mayB x && mayB y && mayB z) := by simp [Bool.and_assoc]

/-- a result, if it may be -/
def outR (x : Int) : Int := if mayB x then x else 0
def outE (x : Int) : Int := if mayB x then 0 else 10

theorem mayB_lo {x : Int} (h : mayB x = true) : -2147483648 ≤ x := by unfold mayB at h; simp at h; exact h.1
theorem mayB_hi {x : Int} (h : mayB x = true) : x ≤ 2147483648 := by unfold mayB at h; simp at h; exact h.2

theorem below_next {w w1 w2 : World} (h : Below w.heap.size w w1) (g : Below w1.heap.size w1 w2) : Below w.heap.size w w2 := h.trans (g.mono h.size)
theorem below_a1 (w : World) (o : Obj) : Below w.heap.size w (w.alloc o) := (Below.refl _ _).alloc (Nat.le_refl _) o
theorem below_a2 (w : World) (o p : Obj) : Below w.heap.size w ((w.alloc o).alloc p) := (below_a1 w o).alloc (by simp) p
theorem below_a3 (w : World) (o p q : Obj) : Below w.heap.size w (((w.alloc o).alloc p).alloc q) := (below_a2 w o p).alloc (by simp; omega) q
theorem below_a4 (w : World) (o p q r : Obj) : Below w.heap.size w ((((w.alloc o).alloc p).alloc q).alloc r) := (below_a3 w o p q).alloc (by simp; omega) r
theorem below_a5 (w : World) (o p q r s : Obj) : Below w.heap.size w (((((w.alloc o).alloc p).alloc q).alloc r).alloc s) := (below_a4 w o p q r).alloc (by simp; omega) s

end Go.Proofs.Ytekailhghjideaa

namespace Go.Proofs.Ytekailhghjideaa
open Go.RowKit

/-- are two quadruples the same? -/
def eq4 (a b c d a' b' c' d' : Int) : Bool := a == a' && b == b' && c == c' && d == d'

theorem eqM_run (a b c d a' b' c' d' : Int) (w : World) :
    (binOp .eql 34 (.agg #[.int .i64 a, .int .i64 b, .int .i64 c, .int .i64 d]) (.agg #[.int .i64 a', .int .i64 b', .int .i64 c', .int .i64 d'])).run Try.prog w = .ok (.bool (eq4 a b c d a' b' c' d')) w := by
  have hS : Try.prog.underlying 34 = some (.struct (Try.prog.fieldsOf 34)) := by kernel_rfl
  have hp : Try.prog.stoodInHeld 34 = false := by kernel_rfl
  have u3 := Try.underlying3
  have a3 := Try.isAgg3
  have z3 := Try.sizeOf3
  rw [run_eql_struct, show (10000 : Nat) = 9999 + 1 from rfl, run_equalIn_agg w 9999 34 _ _ hS hp]
  simp only [Program.fieldsOf, Try.underlying34]
  unfold eq4
  go_simp
  by_cases h1 : a = a' <;> by_cases h2 : b = b' <;> by_cases h3 : c = c' <;> by_cases h4 : d = d' <;> simp [h1, h2, h3, h4]

theorem eqM_guard (a b c d a' b' c' d' : Int) (x y : Operand) (w : World) :
    (eqGuard .eql 34 x y (.agg #[.int .i64 a, .int .i64 b, .int .i64 c, .int .i64 d]) (.agg #[.int .i64 a', .int .i64 b', .int .i64 c', .int .i64 d'])).run Try.prog w = .ok () w :=
  run_eqGuard_agg w .eql 34 x y _ _ (by kernel_rfl)

end Go.Proofs.Ytekailhghjideaa

namespace Go.Proofs.Ytekailhghjideaa
open Go.RowKit

/-- a number of a matrix, cut off -/
def clampP (x : Int) : Int := min (max x (-32768)) 32767
def fitB (x : Int) : Bool := decide (-32768 ≤ x) && decide (x < 32768)

theorem clamp_any (x : Int) (w : World) :
    Calls Try.prog 65 #[.int .i64 x] w fun e w' => e = .returned (.int .i64 (clampP x)) ∧ w = w' := by
  unfold clampP
  go_enter Try.func65, Try.ntmps65
  go_wp2
  all_goals go_ret
  all_goals exact ⟨ret_int (by omega), rfl⟩

set_option maxHeartbeats 1000000 in
theorem eachPart_clamp (a b c d : Int) (w : World) :
    Calls Try.prog 64 #[.agg #[.int .i64 a, .int .i64 b, .int .i64 c, .int .i64 d], .func (.func 65) #[] #[]] w fun e w' =>
      e = .returned (.agg #[.int .i64 (clampP a), .int .i64 (clampP b), .int .i64 (clampP c), .int .i64 (clampP d)]) ∧ Below w.heap.size w w' := by
  go_enter Try.func64, Try.ntmps64
  go_wp2
  go_region_held3 (fun w' => w'.cell? ⟨w.heap.size, 0, none⟩ = some (.int .i64 a) ∧ w'.cell? ⟨w.heap.size, 1, none⟩ = some (.int .i64 b) ∧ w'.cell? ⟨w.heap.size, 2, none⟩ = some (.int .i64 c) ∧ w'.cell? ⟨w.heap.size, 3, none⟩ = some (.int .i64 d))
    (go_keep) (first | (go_at_call 65; refine (clamp_any _ _).mono ?_; rintro e w' ⟨rfl, rfl⟩))
  go_wp2
  refine bodyPost_ret (v := .agg #[.int .i64 (clampP a), .int .i64 (clampP b), .int .i64 (clampP c), .int .i64 (clampP d)]) (by simp [results, Try.results64, go_sem]) rfl ⟨rfl, ?_⟩
  exact below_drewN (below_a2 _ _ _) 1

theorem bcell {W w1 : World} (hb : Below W.heap.size W w1) : (∀ b o, b < W.heap.size → w1.cell? ⟨b, o, none⟩ = W.cell? ⟨b, o, none⟩) ∧ (∀ b o, b < W.heap.size → w1.frozen? ⟨b, o, none⟩ = W.frozen? ⟨b, o, none⟩) :=
  ⟨fun _ _ h => hb.cell h, fun _ _ h => hb.frozen h⟩

/-- may a matrix be? -/
def fitM (a b c d : Int) : Bool := fitB a && fitB b && fitB c && fitB d

theorem clamp_fit (a : Int) : (a == clampP a) = fitB a := by
  unfold fitB clampP
  rw [Bool.eq_iff_iff]; simp; omega

theorem eq4_clamp (a b c d : Int) : eq4 a b c d (clampP a) (clampP b) (clampP c) (clampP d) = fitM a b c d := by
  unfold eq4 fitM; rw [clamp_fit, clamp_fit, clamp_fit, clamp_fit]

set_option maxHeartbeats 1000000 in
theorem mayM_any (a b c d : Int) (w : World) :
    Calls Try.prog 37 #[.agg #[.int .i64 a, .int .i64 b, .int .i64 c, .int .i64 d]] w fun e w' =>
      e = .returned (.bool (fitM a b c d)) ∧ Below w.heap.size w w' := by
  have q1 := fun w => eqM_run a b c d (clampP a) (clampP b) (clampP c) (clampP d) w
  rw [eq4_clamp] at q1
  have q2 := fun x y w => eqM_guard a b c d (clampP a) (clampP b) (clampP c) (clampP d) x y w
  go_enter Try.func37, Try.ntmps37
  go_wp2
  go_region_held3 (fun w' => w'.cell? ⟨w.heap.size, 0, none⟩ = some (.int .i64 a) ∧ w'.cell? ⟨w.heap.size, 1, none⟩ = some (.int .i64 b) ∧ w'.cell? ⟨w.heap.size, 2, none⟩ = some (.int .i64 c) ∧ w'.cell? ⟨w.heap.size, 3, none⟩ = some (.int .i64 d))
    (go_keep) (first | (go_at_call 64; refine (eachPart_clamp _ _ _ _ _).mono ?_; rintro e w1 ⟨rfl, hb⟩; obtain ⟨hc, hf⟩ := bcell hb))
  all_goals go_wp2
  go_ret
  exact ⟨rfl, (below_a1 _ _).drew.trans (hb.mono (below_a1 _ _).size)⟩

end Go.Proofs.Ytekailhghjideaa

namespace Go.Proofs.Ytekailhghjideaa
open Go.RowKit

theorem i64_mask (n : Int) (k : Nat) (hk : k ≤ 62) : bits .and .i64 n ((2 ^ k - 1 : Nat) : Int) = n % ((2 ^ k : Nat) : Int) := by
  have hlt : 2 ^ k ≤ 2 ^ 62 := Nat.pow_le_pow_right (by omega) hk
  have hpos : 0 < 2 ^ k := Nat.two_pow_pos k
  have h1 : (BitVec.ofInt 64 ((2 ^ k - 1 : Nat) : Int)).toNat = 2 ^ k - 1 := by
    rw [BitVec.ofInt_natCast, BitVec.toNat_ofNat]; exact Nat.mod_eq_of_lt (by omega)
  have key : (BitVec.ofInt 64 n &&& BitVec.ofInt 64 ((2 ^ k - 1 : Nat) : Int)).toNat = (n % ((2 ^ 64 : Nat) : Int)).toNat % 2 ^ k := by
    rw [BitVec.toNat_and, BitVec.toNat_ofInt, h1, Nat.and_two_pow_sub_one_eq_mod]
  show IntKind.i64.wrap ((BitVec.ofInt 64 n &&& BitVec.ofInt 64 ((2 ^ k - 1 : Nat) : Int)).toNat : Nat) = _
  have hd : ((2 ^ k : Nat) : Int) ∣ ((2 ^ 64 : Nat) : Int) := Int.natCast_dvd_natCast.mpr (Nat.pow_dvd_pow 2 (by omega))
  have hm : n % ((2 ^ 64 : Nat) : Int) % ((2 ^ k : Nat) : Int) = n % ((2 ^ k : Nat) : Int) := Int.emod_emod_of_dvd n hd
  have h0 : 0 ≤ n % ((2 ^ 64 : Nat) : Int) := Int.emod_nonneg n (by omega)
  have hb := Int.emod_lt_of_pos n (show (0 : Int) < ((2 ^ k : Nat) : Int) by omega)
  have hb0 := Int.emod_nonneg n (show ((2 ^ k : Nat) : Int) ≠ 0 by omega)
  rw [key, Int.natCast_emod, Int.toNat_of_nonneg h0, hm]
  exact IntWalk.i64_in _ (by omega)

theorem i64_and63 (n : Int) : bits .and .i64 n 63 = n % 64 := i64_mask n 6 (by decide)
theorem i64_and1 (n : Int) : bits .and .i64 n 1 = n % 2 := i64_mask n 1 (by decide)

end Go.Proofs.Ytekailhghjideaa

namespace Go.Proofs.Ytekailhghjideaa
open Go.RowKit

theorem fits_any (x : Int) (w : World) :
    Calls Try.prog 66 #[.int .i64 x] w fun e w' => e = .returned (.bool (fitB x)) ∧ w = w' := by
  unfold fitB
  by_cases h1 : -32768 ≤ x <;> by_cases h2 : x < 32768
  all_goals
    go_enter Try.func66, Try.ntmps66
    go_wp2
    go_ret
    simp [h1, h2]

theorem rmayM_any (a b c d : Int) (w : World) :
    Calls Try.prog 39 #[.agg #[.int .i64 a, .int .i64 b, .int .i64 c, .int .i64 d]] w fun e w' =>
      e = .returned (.bool (fitM a b c d)) ∧ Below w.heap.size w w' := by
  unfold fitM
  have F := fun x w => fits_any x w
  cases ha : fitB a <;> cases hb : fitB b <;> cases hc : fitB c <;> cases hd : fitB d
  all_goals
    have F1 := fun w => F a w
    have F2 := fun w => F b w
    have F3 := fun w => F c w
    have F4 := fun w => F d w
    rw [ha] at F1
    rw [hb] at F2
    rw [hc] at F3
    rw [hd] at F4
    clear ha hb hc hd F
    go_enter Try.func39, Try.ntmps39
    go_wp2_with (first | (go_at_call 66; ((with_reducible refine (F1 _).mono ?_); rintro e w' ⟨rfl, rfl⟩)) | (go_at_call 66; ((with_reducible refine (F2 _).mono ?_); rintro e w' ⟨rfl, rfl⟩)) | (go_at_call 66; ((with_reducible refine (F3 _).mono ?_); rintro e w' ⟨rfl, rfl⟩)) | (go_at_call 66; ((with_reducible refine (F4 _).mono ?_); rintro e w' ⟨rfl, rfl⟩)))
    go_ret
    exact ⟨rfl, below_a1 _ _⟩

theorem one_any (w : World) :
    Calls Try.prog 41 #[] w fun e w' => e = .returned (.agg #[.int .i64 16384, .int .i64 0, .int .i64 0, .int .i64 16384]) ∧ Below w.heap.size w w' := by
  go_enter Try.func41, Try.ntmps41
  go_wp2
  refine bodyPost_ret (v := .agg #[.int .i64 16384, .int .i64 0, .int .i64 0, .int .i64 16384]) (by simp [results, Try.results41, go_sem]) rfl ⟨rfl, ?_⟩
  exact below_a1 _ _

theorem fitB_lo {x : Int} (h : fitB x = true) : -32768 ≤ x := by unfold fitB at h; simp at h; exact h.1
theorem fitB_hi {x : Int} (h : fitB x = true) : x < 32768 := by unfold fitB at h; simp at h; exact h.2
theorem prod_lim {x a : Int} (hx : mayB x = true) (ha : fitB a = true) : -70368744177664 ≤ x * a ∧ x * a ≤ 70368744177664 :=
  mul_bound 2147483648 32768 (mayB_lo hx) (mayB_hi hx) (fitB_lo ha) (by have := fitB_hi ha; omega)

/-- what Apply answers: the error, and the two numbers behind the matrix -/
def apX (a c x y : Int) : Int := near (x * a + y * c) 16384
def apE (a b c d x y : Int) : Int := if fitM a b c d then (if mayB x && mayB y then (if mayB (apX a c x y) && mayB (apX b d x y) then 0 else 10) else 10) else 1
def apR (e v : Int) : Int := if e = 0 then v else 0

theorem ret_iii {a b c a' b' c' : Int} (h : a = a') (g : b = b') (k : c = c') : Ending.returned (.tuple #[.int .i64 a, .int .i64 b, .int .i64 c]) = .returned (.tuple #[.int .i64 a', .int .i64 b', .int .i64 c']) := by rw [h, g, k]

end Go.Proofs.Ytekailhghjideaa
