/- Part 18 of the proof: SpRe, Rw1. -/
import Derived.Test.YtelhckckcilpaaaM1SimpleEncodes

namespace Go.Proofs.Ytelhckckcilpaaa
open Go Go.RowKit
set_option linter.unusedVariables false
set_option linter.unusedSimpArgs false

theorem SDecP.no {w w' : World} {R : List (List Pt) × Int} {z : Int} (h : R = ([], z)) (b : Below w.heap.size w w') : SDecP w R (.returned (.tuple #[.slice none 0 0, .int .i64 z])) w' := by
  subst h; exact ⟨_, rfl, Own2.nil _ _, b⟩
theorem rr_take8S (B p : Nat) (bs : List Value) (k : Nat) (w : World) (h : RR w B p bs k) : Calls Try.prog 25 #[.pointer (some ⟨p, 0, none⟩), .int .i64 8] w (RTookS w B p bs (k + 8)) := rr_take B p bs k 8 w h (by decide)
theorem rr_u2S (B p : Nat) (bs : List Value) (k : Nat) (w : World) (h : RR w B p bs k) : Calls Try.prog 26 #[.pointer (some ⟨p, 0, none⟩), .int .i64 2] w (RReadS w B p bs (k + 2) (ub2 bs k : Nat)) := rr_u2 B p bs k w h
theorem rr_i16S (B p : Nat) (bs : List Value) (k : Nat) (w : World) (h : RR w B p bs k) : Calls Try.prog 24 #[.pointer (some ⟨p, 0, none⟩)] w (RReadS w B p bs (k + 2) (ib2 bs k)) := rr_i16 B p bs k w h
theorem sum_bd : ∀ (x : Int) (D A : List Int), sumI x D = some A → ∀ a ∈ A, -32768 ≤ a ∧ a ≤ 32767
  | x, [], A, h => by rw [sumI] at h; cases h; simp
  | x, d :: D, A, h => by
    rw [sumI] at h
    split at h
    · rename_i hi
      cases h2 : sumI (x + d) D with
      | none => rw [h2] at h; cases h
      | some A2 =>
        rw [h2] at h
        cases h
        intro a ha
        rcases List.mem_cons.1 ha with rfl | ha
        · exact inS_iff.1 hi
        · exact sum_bd (x + d) D A2 h2 a ha
    · cases h
theorem SDecP.yes {w w' : World} {R : List (List Pt) × Int} {L : List (List Pt)} {v : Value} (h : R = (L, 0)) (ho : Own2 w' w.heap.size v L) (b : Below w.heap.size w w') : SDecP w R (.returned (.tuple #[v, .int .i64 0])) w' := by
  subst h; exact ⟨v, rfl, ho, b⟩
theorem own2_base {w : World} {b0 b1 : Nat} {v : Value} {Ls : List (List Pt)} (h : Own2 w b1 v Ls) (hb : b0 ≤ b1) : Own2 w b0 v Ls := by
  obtain ⟨rows, h1, h2, h3⟩ := h
  refine ⟨rows, own_base h1 hb, fun i L hL => ?_, h3⟩
  obtain ⟨r, hr, ho⟩ := h2 i L hL
  exact ⟨r, hr, own_base ho hb⟩
/-- What the places and the last points come to. -/
def DecEnd (w : World) (R : List (List Pt) × Int) (e : Ending) (w' : World) : Prop := SDecP w R e w'
set_option maxRecDepth 100000 in
set_option maxHeartbeats 8000000 in
theorem rdec_ne (A : Option Addr) (c n : Nat) (E : List Value) (w : World) (hE : Lists w w.heap.size A E) (hn : E.length = n) (h8 : Bytes8 E) (hc : n ≤ c) (hc2 : c ≤ 9223372036854775807) (hm : n ≤ 140737488355328) (hne : 1 ≤ n) :
    Calls Try.prog 8 #[.slice A n c] w (SDecP w (decB E)) := by
  obtain ⟨R, hR⟩ : ∃ R, R = decB E := ⟨_, rfl⟩
  rw [← hR]
  obtain ⟨s, hs⟩ : ∃ s, s = w.heap.size := ⟨_, rfl⟩
  have al : Below w.heap.size w (w.alloc (.cells #[.slice A n c, .int .i64 0, .bool false] 51)) := (Below.refl _ _).alloc (Nat.le_refl _) _
  have r0 : RR (w.alloc (.cells #[.slice A n c, .int .i64 0, .bool false] 51)) w.heap.size w.heap.size E 0 := .inl ⟨Nat.zero_le _, A, c, by rw [hn]; exact Blk.new _ _ _, hE.below al, h8, Nat.zero_le _, by omega, hc2, by omega, Nat.le_refl _⟩
  have CI := fun W (r : RR W w.heap.size w.heap.size E 0) => rr_i16S _ _ E 0 W r
  have CT := fun W (r : RR W w.heap.size w.heap.size E (0 + 2)) => rr_take8S _ _ E (0 + 2) W r
  obtain ⟨hv0, hv1⟩ := ib2_bd h8 0
  have d0 : ((n : Int) == 0) = false := by simp; omega
  have HR := Lib.hid hR
  have HN := Lib.hid hn
  have H8 := Lib.hid h8
  have HNEG := Lib.hid (fun h => hR.trans (decB_neg (E := E) h))
  have HMANY := Lib.hid (fun h => hR.trans (decB_many (E := E) h))
  have HTWO := Lib.hid (fun h => hR.trans (decB_two (E := E) h))
  have HST := Lib.hid (fun h0 h1 => LzQ.start (E := E) h0 h1)
  obtain ⟨i0, hi, hz0, hz1, hz2⟩ := info_partsS intInfoS
  obtain ⟨i1, hi1, hx1, hs1, hy1⟩ := info_parts1 ptInfo
  obtain ⟨i2, hi2, hx2, hs2, hy2⟩ := info_parts1 rowInfo
  clear hE hn h8 hR hs
  generalize ib2 E 0 = v0 at *
  by_cases hsh : n < 2
  · have HD2 := Lib.hid (show decide (n < 0 + 2) = true by simp; omega)
    have HNO := Lib.hid (HTWO.out (by rw [HN.out]; exact hsh))
    go_enter Try.func8, Try.ntmps8
    go_wp2_with (first | (go_at_call 24; ((with_reducible refine (CI _ r0).mono ?_); rintro e w1 ⟨rfl, r1, o1⟩; have B1 := al.trans (o1.to_below al.size (by simp)); have s1 := o1.size; simp only [World.size_alloc] at s1; have fl := r1.flag; have pl := r1.low.2; rw [HN.out, HD2.out] at fl)))
    go_ret2
    exact SDecP.no HNO.out B1
  · have HD2 := Lib.hid (show decide (n < 0 + 2) = false by simp; omega)
    by_cases hneg : v0 < 0
    · have HNO := Lib.hid (HNEG.out hneg)
      go_enter Try.func8, Try.ntmps8
      go_wp2_with (first | (go_at_call 24; ((with_reducible refine (CI _ r0).mono ?_); rintro e w1 ⟨rfl, r1, o1⟩; have B1 := al.trans (o1.to_below al.size (by simp)); have s1 := o1.size; simp only [World.size_alloc] at s1; have fl := r1.flag; have pl := r1.low.2; rw [HN.out, HD2.out] at fl)))
      go_ret2
      exact SDecP.no HNO.out B1
    · by_cases hbig : 256 < v0
      · have HNO := Lib.hid (HMANY.out hbig)
        go_enter Try.func8, Try.ntmps8
        go_wp2_with (first | (go_at_call 24; ((with_reducible refine (CI _ r0).mono ?_); rintro e w1 ⟨rfl, r1, o1⟩; have B1 := al.trans (o1.to_below al.size (by simp)); have s1 := o1.size; simp only [World.size_alloc] at s1; have fl := r1.flag; have pl := r1.low.2; rw [HN.out, HD2.out] at fl)))
        go_ret2
        exact SDecP.no HNO.out B1
      · have HQ0 := Lib.hid (HST.out hneg hbig)
        obtain ⟨m, rfl⟩ : ∃ m : Nat, v0 = (m : Int) := ⟨v0.toNat, by omega⟩
        rw [Int.toNat_natCast] at HQ0
        clear HNEG HMANY HTWO HST hv0 hv1
        go_enter Try.func8, Try.ntmps8
        go_wp2_with (first
          | (go_at_call 24; ((with_reducible refine (CI _ r0).mono ?_); rintro e w1 ⟨rfl, r1, o1⟩; have B1 := al.trans (o1.to_below al.size (by simp)); have s1 := o1.size; simp only [World.size_alloc] at s1; have fl := r1.flag; have pl := r1.low.2; rw [HN.out, HD2.out] at fl))
          | (go_at_call 25; ((with_reducible refine (CT _ r1).mono ?_); rintro e w2 ⟨v2, rfl, r2, o2⟩; have B2 := B1.trans (o2.to_below B1.size (by simp)); have s2 := o2.size)))
        have s02 : w.heap.size + 1 ≤ w2.heap.size := by omega
        have HR2 := Lib.hid r2
        have HB2 := Lib.hid B2
        clear r0 r1 r2 o1 o2 B1 B2 CI CT fl pl s1 s2 al
        go_loopw [6, 7, 8] (fun v lv iv wr => ∃ (i : Nat) (acc : List Nat), i ≤ m ∧ iv = .int .i64 (i : Nat) ∧ lv = .int .i64 ((cntL acc : Nat) - 1 : Int) ∧ wr.ownsRow (w.heap.size + 1) 3 1 v i (ints acc) ∧ RR wr w.heap.size w.heap.size E (10 + 2 * i) ∧ Below w.heap.size w wr ∧ w.heap.size + 1 ≤ wr.heap.size ∧ Hid (LzQ E m i acc)) (fun _ _ iv _ => m - (intOf iv).toNat)
        case atStart => exact ⟨0, [], Nat.zero_le _, rfl, rfl, World.ownsRow_nil _ _ _ _, HR2.out, HB2.out, s02, HQ0⟩
        case round =>
          clear HQ0 HR2 HB2
          obtain ⟨i, acc, him, rfl, rfl, hown, hr, hb, hsz, HQ⟩ := hrel
          obtain ⟨A6, c6, rfl, _, _⟩ := own_lists hown
          have hlow := ownS_low hown
          have hcn := cnt_le HQ.out.ris
          by_cases hlt : i < m
          · have d1 : decide ((i : Int) < (m : Int)) = true := by simp; omega
            have CU := fun W (r : RR W w.heap.size w.heap.size E (10 + 2 * i)) => rr_u2S _ _ E (10 + 2 * i) W r
            obtain ⟨st1, st2, st3⟩ := HQ.out.step hlt
            have hsho := Lib.hid (fun h => HR.out.trans (HQ.out.short hlt h))
            have hux : ub2 E (10 + 2 * i) < 65536 := u2_lt H8.out _
            have APP := Lib.hid (show ints (acc ++ [ub2 E (10 + 2 * i)]) = ints acc ++ [.int .i64 ((ub2 E (10 + 2 * i) : Nat) : Int)] by rw [ints_app]; rfl)
            have CNT := Lib.hid (cntL_snoc acc (ub2 E (10 + 2 * i)))
            have ST1 := Lib.hid st1
            have ST2 := Lib.hid st2
            have ST3 := Lib.hid st3
            clear st1 st2 st3
            generalize ub2 E (10 + 2 * i) = x at *
            generalize hcnt : cntL acc = cn at *
            clear hcnt
            by_cases hbk : n < 10 + 2 * i + 2
            · have HNO := Lib.hid (hsho.out (by rw [HN.out]; exact hbk))
              have HDK := Lib.hid (show decide (n < 10 + 2 * i + 2) = true by simpa using hbk)
              go_wp2_with (first | (go_at_call 26; ((with_reducible refine (CU _ hr).mono ?_); rintro e w3 ⟨rfl, r3, o3⟩; have B3 := hb.trans (o3.to_below hb.size (by simp)); have fl := r3.flag; have pl := r3.low.2; rw [HN.out, HDK.out] at fl)))
              go_ret2
              exact SDecP.no HNO.out B3
            · have HDK := Lib.hid (show decide (n < 10 + 2 * i + 2) = false by simpa using hbk)
              by_cases hx4 : 4096 ≤ x
              · have HNO := Lib.hid (HR.out.trans (ST1.out hx4))
                have d2 : decide ((x : Int) ≤ (cn : Int) - 1) = false := by simp; omega
                have d3 : decide ((x : Int) > 4095) = true := by simp; omega
                have d3' : decide ((4095 : Int) < (x : Int)) = true := by simp; omega
                go_wp2_with (first | (go_at_call 26; ((with_reducible refine (CU _ hr).mono ?_); rintro e w3 ⟨rfl, r3, o3⟩; have B3 := hb.trans (o3.to_below hb.size (by simp)); have fl := r3.flag; have pl := r3.low.2; rw [HN.out, HDK.out] at fl)))
                go_ret2
                exact SDecP.no HNO.out B3
              · by_cases hxc : x < cn
                · have HNO := Lib.hid (HR.out.trans (ST2.out hx4 hxc))
                  have d2 : decide ((x : Int) ≤ (cn : Int) - 1) = true := by simp; omega
                  go_wp2_with (first | (go_at_call 26; ((with_reducible refine (CU _ hr).mono ?_); rintro e w3 ⟨rfl, r3, o3⟩; have B3 := hb.trans (o3.to_below hb.size (by simp)); have fl := r3.flag; have pl := r3.low.2; rw [HN.out, HDK.out] at fl)))
                  go_ret2
                  exact SDecP.no HNO.out B3
                · have HQN := Lib.hid (ST3.out hx4 hxc)
                  have d2 : decide ((x : Int) ≤ (cn : Int) - 1) = false := by simp; omega
                  have d3 : decide ((x : Int) > 4095) = false := by simp; omega
                  have d3' : decide ((4095 : Int) < (x : Int)) = false := by simp; omega
                  go_wp2_with (first
                    | (go_at_call 26; ((with_reducible refine (CU _ hr).mono ?_); rintro e w3 ⟨rfl, r3, o3⟩; have B3 := hb.trans (o3.to_below hb.size (by simp)); have fl := r3.flag; have pl := r3.low.2; rw [HN.out, HDK.out] at fl; have own3 := own_only hown o3 (fun b hb hm => by have := hlow b hb; simp at hm; omega); have s3 := Nat.le_trans hsz o3.size))
                    | (at_builtin; refine wpList_append_src _ rfl (.tmp 57) (.tmp 59) 38 rfl (w.heap.size + 1) 3 i0 (.int .i64 0) 1 8 Try.underlying38 hi hz0 hz1 hz2 rfl (by decide) _ i (ints acc) rfl (ownS_stay own3 (below_a1 _ _)) (w3.heap.size + 1) (some ⟨w3.heap.size, 0, none⟩) 1 1 [.int .i64 (x : Nat)] (by rfl) (lists_row w3 [.int .i64 (x : Nat)] 3) rfl (by simp [Value.oneCell']) (by simp only [maxLen]; omega) (by omega) (by simp; omega) ?_; intro v6 w6 own6 hg6 hat6))
                  have hlow6 := ownS_low own3
                  have og : Only _ w6 (blk (.slice A6 i c6)) := (Only.refl _ (blk (.slice A6 i c6))).grown hg6 (fun b hb' => .inl (by have h9 : (Value.slice A6 i c6).ownBlock = some b := hb'; unfold blk; rw [h9]; simp))
                  have r6 := (r3.below (below_a1 w3 (.cells #[.int .i64 (x : Nat)] 3))).other og (fun hm => by have := hlow6 _ hm; omega) (fun b hb => by have := hlow6 b hb; omega)
                  have b6 : Below w.heap.size w w6 := (B3.alloc B3.size (.cells #[.int .i64 (x : Nat)] 3)).trans (og.to_below (by simp; omega) (fun b hb => by have := hlow6 b hb; omega))
                  have s6 : w.heap.size + 1 ≤ w6.heap.size := by have := og.size; simp at this; omega
                  go_roundw
                  case rel => exact ⟨i + 1, _, by omega, by first | rfl | (go_num), by rw [CNT.out]; exact congrArg (Value.int .i64) (by omega), by rw [APP.out]; exact own6, r6, b6, s6, HQN⟩
                  case measure => first | (simp [intOf]; done) | (simp [intOf]; omega)
          · obtain rfl : i = m := by omega
            have d1 : decide ((i : Int) < (i : Int)) = false := by simp
            have HDL := Lib.hid (HR.out.trans HQ.out.done)
            have hlen := HQ.out.len
            have hris := HQ.out.ris
            have CU := fun W (r : RR W w.heap.size w.heap.size E (10 + 2 * i)) => rr_u2S _ _ E (10 + 2 * i) W r
            obtain ⟨u, hu⟩ : ∃ u, u = ub2 E (10 + 2 * i) := ⟨_, rfl⟩
            rw [← hu] at CU
            have hu6 : u < 65536 := by rw [hu]; exact u2_lt H8.out _
            have CT := fun W (r : RR W w.heap.size w.heap.size E (10 + 2 * i + 2)) => rr_take0 _ _ E (10 + 2 * i + 2) u W r
            obtain ⟨k1, hk1⟩ : ∃ k1, k1 = k1E E acc := ⟨_, rfl⟩
            have hk1v : 10 + 2 * i + 2 + u = k1 := by rw [hk1]; unfold k1E; rw [hlen, hu]
            rw [hk1v] at CT
            have HB1 := Lib.hid (fun h => HDL.out.trans (dl_bad1 E acc h))
            rw [← hk1] at HB1
            have hfit := fit_of hris
            have HFIT := Lib.hid hfit
            have HLEN := Lib.hid hlen
            have hlt4 : ∀ x ∈ acc, x < 4096 := hris.1
            have HL4 := Lib.hid hlt4
            obtain ⟨cn, hcn'⟩ : ∃ cn, cn = cntL acc := ⟨_, rfl⟩
            rw [← hcn'] at hcn HFIT
            rw [show cntL acc = cn from hcn'.symm]
            have HCN := Lib.hid hcn'
            clear hu HQ hlen hris hfit hlt4 hcn'
            have e1 : IntKind.i64.wrap ((cn : Int) - 1 + 1) = (cn : Int) := by rw [Int.sub_add_cancel]; exact IntWalk.i64_in _ (by omega)
            have e1' : IntKind.i64.wrap (cn : Int) = (cn : Int) := IntWalk.i64_in _ (by omega)
            by_cases hb1 : n < k1
            · have HNO := Lib.hid (HB1.out (by rw [HN.out]; exact hb1))
              have HDK := Lib.hid (show decide (n < k1) = true by simpa using hb1)
              go_wp2_with (first | (go_at_call 26; ((with_reducible refine (CU _ hr).mono ?_); rintro e w3 ⟨rfl, r3, o3⟩; have B3 := hb.trans (o3.to_below hb.size (by simp)); have s3 := o3.size; have own3 := own_only hown o3 (fun b hb hm => by have := hlow b hb; simp at hm; omega))) | (go_at_call 25; ((with_reducible refine (CT _ r3).mono ?_); rintro e w4 ⟨v4, rfl, r4, o4⟩; have B4 := B3.trans (o4.to_below B3.size (by simp)); have s4 := o4.size; have own4 := own_only own3 o4 (fun b hb hm => by have := hlow b hb; simp at hm; omega); have fl := r4.flag; have pl := r4.low.2; rw [HN.out, HDK.out] at fl)))
              go_ret2
              exact SDecP.no HNO.out B4
            · have HDK := Lib.hid (show decide (n < k1) = false by simpa using hb1)
              obtain ⟨⟨F, k2⟩, hF⟩ : ∃ q, flgC E cn cn k1 [] = q := ⟨_, rfl⟩
              have CF := fun W (r : RR W w.heap.size w.heap.size E k1) => rrflags_any _ _ k1 cn E W r (by omega)
              rw [hF] at CF
              cases hfl : decide (F.length = cn ∧ k2 ≤ n)
              · have HNO := Lib.hid (HDL.out.trans (dl_bad2 E acc (by rw [← HCN.out, ← hk1, hF, HN.out]; simpa using hfl)))
                have HFL := Lib.hid (show decide ((F, k2).1.length = cn ∧ (F, k2).2 ≤ E.length) = false by rw [HN.out]; exact hfl)
                clear hF hfl
                go_wp2_with (first | (go_at_call 26; ((with_reducible refine (CU _ hr).mono ?_); rintro e w3 ⟨rfl, r3, o3⟩; have B3 := hb.trans (o3.to_below hb.size (by simp)); have s3 := o3.size; have own3 := own_only hown o3 (fun b hb hm => by have := hlow b hb; simp at hm; omega))) | (go_at_call 25; ((with_reducible refine (CT _ r3).mono ?_); rintro e w4 ⟨v4, rfl, r4, o4⟩; have B4 := B3.trans (o4.to_below B3.size (by simp)); have s4 := o4.size; have own4 := own_only own3 o4 (fun b hb hm => by have := hlow b hb; simp at hm; omega); have fl := r4.flag; have pl := r4.low.2; rw [HN.out, HDK.out] at fl)) | (go_at_call 27; ((with_reducible refine (CF _ r4).mono ?_); rintro e w5 ⟨A10, c10, F', bf, rfl, own10, hbf, hyf, o5⟩; rw [HFL.out] at hbf; subst hbf; have B5 := B4.trans (o5.to_below B4.size (by simp)); have s5 := o5.size; have own5 := own_only own4 o5 (fun b hb hm => by have := hlow b hb; simp at hm; omega))))
                go_ret2
                exact SDecP.no HNO.out B5
              · obtain ⟨f1, f2⟩ := of_decide_eq_true hfl
                have HFL := Lib.hid (show decide ((F, k2).1.length = cn ∧ (F, k2).2 ≤ E.length) = true by rw [HN.out]; exact hfl)
                have hFc : flgC E (cntL acc) (cntL acc) (k1E E acc) [] = (F, k2) := by rw [← HCN.out, ← hk1]; exact hF
                have hlc : F.length = cntL acc := by rw [← HCN.out]; exact f1
                have HB3 := Lib.hid (fun h => HDL.out.trans (dl_bad3 E acc F k2 hFc hlc h))
                have HB4 := Lib.hid (fun h => HDL.out.trans (dl_bad4 E acc F k2 hFc hlc h))
                have HB5 := Lib.hid (fun h => HDL.out.trans (dl_bad5 E acc F k2 hFc hlc h))
                have HB6 := Lib.hid (fun h => HDL.out.trans (dl_bad6 E acc F k2 hFc hlc h))
                have HOK := Lib.hid (fun A B hA hB h => HDL.out.trans (dl_ok E acc F k2 hFc hlc A B hA hB h))
                have hF8 : ∀ f ∈ F, f < 256 := by
                  have := flg_lt H8.out cn cn k1 [] (fun f hf => by simp at hf)
                  rw [hF] at this
                  exact this
                rw [← HCN.out] at HB3 HB4 HB5 HB6 HOK
                have CX := fun W (r : RR W w.heap.size w.heap.size E k2) A c hA => rrsteps_any w.heap.size w.heap.size k2 cn 1 4 2 16 A c F E W r and_2S and_16S (by decide) (by decide) hA f1 (by omega) hF8
                rw [show carr (rf1 E) (rf2 E) 1 4 F (zer cn) k2 = rpX E cn F k2 from rfl] at CX
                have CY0 := fun k3 W (r : RR W w.heap.size w.heap.size E k3) A c hA => rrsteps_any w.heap.size w.heap.size k3 cn 2 5 4 32 A c F E W r and_4S and_32S (by decide) (by decide) hA f1 (by omega) hF8
                have CY := CY0 (rpX E cn F k2).2
                rw [show carr (rf1 E) (rf2 E) 2 5 F (zer cn) (rpX E cn F k2).2 = rpY E cn F k2 from rfl] at CY
                clear CY0 hF hfl hFc hlc
                generalize (rpX E cn F k2).1 = D1 at *
                generalize (rpX E cn F k2).2 = K1 at *
                generalize (rpY E cn F k2).1 = D2 at *
                generalize (rpY E cn F k2).2 = K2 at *
                have HF8 := Lib.hid hF8
                have HF1 := Lib.hid f1
                cases hS1 : sumI 0 D1 with
                | none =>
                  rw [hS1] at CX
                  have HNO := Lib.hid (HB3.out hS1)
                  clear hF8 f1
                  go_wp2_with (first | (go_at_call 26; ((with_reducible refine (CU _ hr).mono ?_); rintro e w3 ⟨rfl, r3, o3⟩; have B3 := hb.trans (o3.to_below hb.size (by simp)); have s3 := o3.size; have own3 := own_only hown o3 (fun b hb hm => by have := hlow b hb; simp at hm; omega))) | (go_at_call 25; ((with_reducible refine (CT _ r3).mono ?_); rintro e w4 ⟨v4, rfl, r4, o4⟩; have B4 := B3.trans (o4.to_below B3.size (by simp)); have s4 := o4.size; have own4 := own_only own3 o4 (fun b hb hm => by have := hlow b hb; simp at hm; omega); have fl := r4.flag; have pl := r4.low.2; rw [HN.out, HDK.out] at fl)) | (go_at_call 27; ((with_reducible refine (CF _ r4).mono ?_); rintro e w5 ⟨A10, c10, F', bf, rfl, own10, hbf, hyf, o5⟩; rw [HFL.out] at hbf; subst hbf; have B5 := B4.trans (o5.to_below B4.size (by simp)); have s5 := o5.size; have own5 := own_only own4 o5 (fun b hb hm => by have := hlow b hb; simp at hm; omega); obtain ⟨hFe, r5⟩ := hyf rfl; have hFe : F = F' := hFe.symm; subst hFe; have hA5 : ∀ V, Only w5 V [w.heap.size] → Lists V V.heap.size A10 (ints F) := (fun V oV => (own_at (own_only own10 oV (fun b hb hm => by have := ownS_low own10 b hb; simp at hm; omega))).1); rw [HF1.out] at own10 ⊢)) | (go_at_call 28; ((with_reducible refine (CX _ r5 A10 c10 hA5).mono ?_); rintro e w6 ⟨rfl, o6⟩; have B6 := B5.trans (o6.to_below B5.size (by simp)); have s6 := o6.size; have own6 := own_only own5 o6 (fun b hb hm => by have := hlow b hb; simp at hm; omega))))
                  go_ret2
                  exact SDecP.no HNO.out B6
                | some AX =>
                  rw [hS1] at CX
                  cases hK1 : decide (K1 ≤ n)
                  · have HNO := Lib.hid (HB4.out (by rw [HN.out]; simpa using hK1))
                    have HK1 := Lib.hid (show decide (K1 ≤ E.length) = false by rw [HN.out]; exact hK1)
                    clear hF8 f1
                    go_wp2_with (first | (go_at_call 26; ((with_reducible refine (CU _ hr).mono ?_); rintro e w3 ⟨rfl, r3, o3⟩; have B3 := hb.trans (o3.to_below hb.size (by simp)); have s3 := o3.size; have own3 := own_only hown o3 (fun b hb hm => by have := hlow b hb; simp at hm; omega))) | (go_at_call 25; ((with_reducible refine (CT _ r3).mono ?_); rintro e w4 ⟨v4, rfl, r4, o4⟩; have B4 := B3.trans (o4.to_below B3.size (by simp)); have s4 := o4.size; have own4 := own_only own3 o4 (fun b hb hm => by have := hlow b hb; simp at hm; omega); have fl := r4.flag; have pl := r4.low.2; rw [HN.out, HDK.out] at fl)) | (go_at_call 27; ((with_reducible refine (CF _ r4).mono ?_); rintro e w5 ⟨A10, c10, F', bf, rfl, own10, hbf, hyf, o5⟩; rw [HFL.out] at hbf; subst hbf; have B5 := B4.trans (o5.to_below B4.size (by simp)); have s5 := o5.size; have own5 := own_only own4 o5 (fun b hb hm => by have := hlow b hb; simp at hm; omega); obtain ⟨hFe, r5⟩ := hyf rfl; have hFe : F = F' := hFe.symm; subst hFe; have hA5 : ∀ V, Only w5 V [w.heap.size] → Lists V V.heap.size A10 (ints F) := (fun V oV => (own_at (own_only own10 oV (fun b hb hm => by have := ownS_low own10 b hb; simp at hm; omega))).1); rw [HF1.out] at own10 ⊢)) | (go_at_call 28; ((with_reducible refine (CX _ r5 A10 c10 hA5).mono ?_); rintro e w6 ⟨⟨A12, c12, rfl, own12, hl12, r6⟩, o6⟩; rw [HK1.out]; have B6 := B5.trans (o6.to_below B5.size (by simp)); have s6 := o6.size; have own6 := own_only own5 o6 (fun b hb hm => by have := hlow b hb; simp at hm; omega); have hA6 : ∀ V, Only w6 V [w.heap.size] → Lists V V.heap.size A10 (ints F) := (fun V oV => hA5 V (o6.trans oV (fun b hb => .inl hb))))))
                    go_ret2
                    exact SDecP.no HNO.out B6
                  · have HK1 := Lib.hid (show decide (K1 ≤ E.length) = true by rw [HN.out]; exact hK1)
                    cases hS2 : sumI 0 D2 with
                    | none =>
                      rw [hS2] at CY
                      have HNO := Lib.hid (HB5.out hS2)
                      clear hF8 f1
                      go_wp2_with (first | (go_at_call 26; ((with_reducible refine (CU _ hr).mono ?_); rintro e w3 ⟨rfl, r3, o3⟩; have B3 := hb.trans (o3.to_below hb.size (by simp)); have s3 := o3.size; have own3 := own_only hown o3 (fun b hb hm => by have := hlow b hb; simp at hm; omega))) | (go_at_call 25; ((with_reducible refine (CT _ r3).mono ?_); rintro e w4 ⟨v4, rfl, r4, o4⟩; have B4 := B3.trans (o4.to_below B3.size (by simp)); have s4 := o4.size; have own4 := own_only own3 o4 (fun b hb hm => by have := hlow b hb; simp at hm; omega); have fl := r4.flag; have pl := r4.low.2; rw [HN.out, HDK.out] at fl)) | (go_at_call 27; ((with_reducible refine (CF _ r4).mono ?_); rintro e w5 ⟨A10, c10, F', bf, rfl, own10, hbf, hyf, o5⟩; rw [HFL.out] at hbf; subst hbf; have B5 := B4.trans (o5.to_below B4.size (by simp)); have s5 := o5.size; have own5 := own_only own4 o5 (fun b hb hm => by have := hlow b hb; simp at hm; omega); obtain ⟨hFe, r5⟩ := hyf rfl; have hFe : F = F' := hFe.symm; subst hFe; have hA5 : ∀ V, Only w5 V [w.heap.size] → Lists V V.heap.size A10 (ints F) := (fun V oV => (own_at (own_only own10 oV (fun b hb hm => by have := ownS_low own10 b hb; simp at hm; omega))).1); rw [HF1.out] at own10 ⊢)) | (go_at_call 28; ((with_reducible refine (CX _ r5 A10 c10 hA5).mono ?_); rintro e w6 ⟨⟨A12, c12, rfl, own12, hl12, r6⟩, o6⟩; rw [HK1.out]; have B6 := B5.trans (o6.to_below B5.size (by simp)); have s6 := o6.size; have own6 := own_only own5 o6 (fun b hb hm => by have := hlow b hb; simp at hm; omega); have hA6 : ∀ V, Only w6 V [w.heap.size] → Lists V V.heap.size A10 (ints F) := (fun V oV => hA5 V (o6.trans oV (fun b hb => .inl hb))))) | (go_at_call 28; ((with_reducible refine (CY _ r6 A10 c10 hA6).mono ?_); rintro e w7 ⟨rfl, o7⟩; have B7 := B6.trans (o7.to_below B6.size (by simp)); have s7 := o7.size)))
                      go_ret2
                      exact SDecP.no HNO.out B7
                    | some AY =>
                      rw [hS2] at CY
                      cases hK2 : decide (K2 ≤ n)
                      · have HNO := Lib.hid (HB6.out (by rw [HN.out]; simpa using hK2))
                        have HK2 := Lib.hid (show decide (K2 ≤ E.length) = false by rw [HN.out]; exact hK2)
                        clear hF8 f1
                        go_wp2_with (first | (go_at_call 26; ((with_reducible refine (CU _ hr).mono ?_); rintro e w3 ⟨rfl, r3, o3⟩; have B3 := hb.trans (o3.to_below hb.size (by simp)); have s3 := o3.size; have own3 := own_only hown o3 (fun b hb hm => by have := hlow b hb; simp at hm; omega))) | (go_at_call 25; ((with_reducible refine (CT _ r3).mono ?_); rintro e w4 ⟨v4, rfl, r4, o4⟩; have B4 := B3.trans (o4.to_below B3.size (by simp)); have s4 := o4.size; have own4 := own_only own3 o4 (fun b hb hm => by have := hlow b hb; simp at hm; omega); have fl := r4.flag; have pl := r4.low.2; rw [HN.out, HDK.out] at fl)) | (go_at_call 27; ((with_reducible refine (CF _ r4).mono ?_); rintro e w5 ⟨A10, c10, F', bf, rfl, own10, hbf, hyf, o5⟩; rw [HFL.out] at hbf; subst hbf; have B5 := B4.trans (o5.to_below B4.size (by simp)); have s5 := o5.size; have own5 := own_only own4 o5 (fun b hb hm => by have := hlow b hb; simp at hm; omega); obtain ⟨hFe, r5⟩ := hyf rfl; have hFe : F = F' := hFe.symm; subst hFe; have hA5 : ∀ V, Only w5 V [w.heap.size] → Lists V V.heap.size A10 (ints F) := (fun V oV => (own_at (own_only own10 oV (fun b hb hm => by have := ownS_low own10 b hb; simp at hm; omega))).1); rw [HF1.out] at own10 ⊢)) | (go_at_call 28; ((with_reducible refine (CX _ r5 A10 c10 hA5).mono ?_); rintro e w6 ⟨⟨A12, c12, rfl, own12, hl12, r6⟩, o6⟩; rw [HK1.out]; have B6 := B5.trans (o6.to_below B5.size (by simp)); have s6 := o6.size; have own6 := own_only own5 o6 (fun b hb hm => by have := hlow b hb; simp at hm; omega); have hA6 : ∀ V, Only w6 V [w.heap.size] → Lists V V.heap.size A10 (ints F) := (fun V oV => hA5 V (o6.trans oV (fun b hb => .inl hb))))) | (go_at_call 28; ((with_reducible refine (CY _ r6 A10 c10 hA6).mono ?_); rintro e w7 ⟨⟨A13, c13, rfl, own13, hl13, r7⟩, o7⟩; rw [HK2.out]; have B7 := B6.trans (o7.to_below B6.size (by simp)); have s7 := o7.size)))
                        go_ret2
                        exact SDecP.no HNO.out B7
                      · have HK2 := Lib.hid (show decide (K2 ≤ E.length) = true by rw [HN.out]; exact hK2)
                        have HRES := Lib.hid (HOK.out AX AY hS1 hS2 (by rw [HN.out]; simpa using hK2))
                        clear hF8 f1
                        go_wp2_with (first | (go_at_call 26; ((with_reducible refine (CU _ hr).mono ?_); rintro e w3 ⟨rfl, r3, o3⟩; have B3 := hb.trans (o3.to_below hb.size (by simp)); have s3 := o3.size; have own3 := own_only hown o3 (fun b hb hm => by have := hlow b hb; simp at hm; omega))) | (go_at_call 25; ((with_reducible refine (CT _ r3).mono ?_); rintro e w4 ⟨v4, rfl, r4, o4⟩; have B4 := B3.trans (o4.to_below B3.size (by simp)); have s4 := o4.size; have own4 := own_only own3 o4 (fun b hb hm => by have := hlow b hb; simp at hm; omega); have fl := r4.flag; have pl := r4.low.2; rw [HN.out, HDK.out] at fl)) | (go_at_call 27; ((with_reducible refine (CF _ r4).mono ?_); rintro e w5 ⟨A10, c10, F', bf, rfl, own10, hbf, hyf, o5⟩; rw [HFL.out] at hbf; subst hbf; have B5 := B4.trans (o5.to_below B4.size (by simp)); have s5 := o5.size; have own5 := own_only own4 o5 (fun b hb hm => by have := hlow b hb; simp at hm; omega); obtain ⟨hFe, r5⟩ := hyf rfl; have hFe : F = F' := hFe.symm; subst hFe; have hA5 : ∀ V, Only w5 V [w.heap.size] → Lists V V.heap.size A10 (ints F) := (fun V oV => (own_at (own_only own10 oV (fun b hb hm => by have := ownS_low own10 b hb; simp at hm; omega))).1); rw [HF1.out] at own10 ⊢)) | (go_at_call 28; ((with_reducible refine (CX _ r5 A10 c10 hA5).mono ?_); rintro e w6 ⟨⟨A12, c12, rfl, own12, hl12, r6⟩, o6⟩; rw [HK1.out]; have B6 := B5.trans (o6.to_below B5.size (by simp)); have s6 := o6.size; have own6 := own_only own5 o6 (fun b hb hm => by have := hlow b hb; simp at hm; omega); have hA6 : ∀ V, Only w6 V [w.heap.size] → Lists V V.heap.size A10 (ints F) := (fun V oV => hA5 V (o6.trans oV (fun b hb => .inl hb))))) | (go_at_call 28; ((with_reducible refine (CY _ r6 A10 c10 hA6).mono ?_); rintro e w7 ⟨⟨A13, c13, rfl, own13, hl13, r7⟩, o7⟩; rw [HK2.out]; have B7 := B6.trans (o7.to_below B6.size (by simp)); have s7 := o7.size)))
                        have LE : Lists w7 w7.heap.size A6 (ints acc) := (own_at (own_only own6 o7 (fun b hb hm => by have := hlow b hb; simp at hm; omega))).1
                        have LF : Lists w7 w7.heap.size A10 (ints F) := hA6 w7 o7
                        have LX : Lists w7 w7.heap.size A12 (intCells AX) := (own_at (own_only own12 o7 (fun b hb hm => by have := ownS_low own12 b hb; simp at hm; omega))).1
                        have LY : Lists w7 w7.heap.size A13 (intCells AY) := (own_at own13).1
                        have b7w : w.heap.size ≤ w7.heap.size := B7.size
                        have HB7 := Lib.hid B7
                        have HLE := Lib.hid LE
                        have HLF := Lib.hid LF
                        have HLX := Lib.hid LX
                        have HLY := Lib.hid LY
                        have HXL := Lib.hid hl12
                        have HYL := Lib.hid hl13
                        obtain ⟨P, hP⟩ : ∃ P, P = zipP F AX AY := ⟨_, rfl⟩
                        have HPL := Lib.hid (show P.length = cn by rw [hP, zip_len F AX AY (by rw [hl12, HF1.out]) (by rw [hl13, HF1.out]), HF1.out])
                        have HPA := Lib.hid (fun (j f : Nat) (a b : Int) h1 h2 h3 => show P[j]? = some (a * 65536, b * 65536, knd f) by rw [hP]; exact zip_at F AX AY j f a b h1 h2 h3)
                        have HXB := Lib.hid (sum_bd 0 D1 AX hS1)
                        have HYB := Lib.hid (sum_bd 0 D2 AY hS2)
                        have hres := HRES.out
                        rw [← hP] at hres
                        obtain ⟨RR0, hRR0⟩ : ∃ RR0, RR0 = conC P acc 0 := ⟨_, rfl⟩
                        rw [← hRR0] at hres
                        have HRES2 := Lib.hid hres
                        have Q0 : Hid (RR0 = [] ++ conC P (acc.drop 0) 0 ∧ FitL cn (acc.drop 0) 0) := Lib.hid ⟨by rw [hRR0]; rfl, HFIT.out⟩
                        clear hP hres hRR0 HRES LE LF LX LY hl12 hl13 own6 own12 own13 own10 hA5 hA6 o3 o4 o5 o6 o7 r3 r4 r5 r6 r7 hr hb hown B3 B4 B5 B6 B7 hlow CU CT CF CX CY HB3 HB4 HB5 HB6 HB1 HOK fl pl hyf hS1 hS2 hK1 hK2
                        have hcnb : cn ≤ 4096 := hcn
                        go_loopw [14, 15, 16] (fun ov av iv wr => ∃ (j first : Nat) (done : List (List Pt)), j ≤ i ∧ done.length = j ∧ first ≤ cn ∧ iv = .int .i64 (j : Nat) ∧ av = .int .i64 (first : Nat) ∧ Own2 wr w7.heap.size ov done ∧ Below w7.heap.size w7 wr ∧ Hid (RR0 = done ++ conC P (acc.drop j) first ∧ FitL cn (acc.drop j) first)) (fun _ _ iv _ => i - (intOf iv).toNat)
                        case atStart => exact ⟨0, 0, [], Nat.zero_le _, rfl, Nat.zero_le _, rfl, rfl, Own2.nil _ _, Below.refl _ _, Q0⟩
                        case round =>
                          clear Q0
                          obtain ⟨j, first, done, hji, hdn, hfn, rfl, rfl, hO, hbo, hQ⟩ := hrel
                          obtain ⟨wo, rfl⟩ : ∃ wo, wo = wr := ⟨_, rfl⟩
                          by_cases hltj : j < i
                          · have d9 : decide ((j : Int) < (i : Int)) = true := by simp; omega
                            obtain ⟨l, hl⟩ : ∃ l, acc[j]? = some l := ⟨_, List.getElem?_eq_getElem (by rw [HLEN.out]; exact hltj)⟩
                            obtain ⟨f1', f2', f3'⟩ := fit_next hl hQ.out.2
                            have HQ2 := Lib.hid (show RR0 = (done ++ [(P.drop first).take (l + 1 - first)]) ++ conC P (acc.drop (j + 1)) (l + 1) ∧ FitL cn (acc.drop (j + 1)) (l + 1) from ⟨by rw [hQ.out.1, con_next hl]; simp, f3'⟩)
                            have hil : (ints acc)[j]? = some (.int .i64 (l : Nat)) := by unfold ints; rw [List.getElem?_map, hl]; rfl
                            obtain ⟨bl, ol, hAe, hbl, hcl⟩ := HLE.out.plain (by intro e; rw [e] at hil; simp at hil)
                            subst hAe
                            have c0 := (hbo.cell (p := ⟨bl, ol + j, none⟩) hbl).trans (hcl j _ hil)
                            have hbs := hbo.size
                            have HC0 := Lib.hid c0
                            have hblr : bl < wo.heap.size := by omega
                            obtain ⟨rows, ho, hi'⟩ := hO
                            have HO := Lib.hid ho
                            have HI := Lib.hid hi'
                            rw [hdn] at ho
                            have HOJ := Lib.hid ho
                            clear hl hQ hil hcl c0 f3' ho hi'
                            go_wp2
                            go_loopw [15, 17] (fun av cv wr => ∃ t z : Nat, z ≤ l + 1 ∧ Hid (z = first + t) ∧ av = .int .i64 (z : Nat) ∧ wr.ownsRow wo.heap.size 57 3 cv t (ptCells ((P.drop first).take t)) ∧ Below wo.heap.size wo wr) (fun av _ _ => l + 1 - (intOf av).toNat)
                            case atStart => exact ⟨0, first, by omega, Lib.hid rfl, rfl, World.ownsRow_nil _ _ _ _, Below.refl _ _⟩
                            case round =>
                              obtain ⟨t, z, hzl, HZ, rfl, hrow, hbq⟩ := hrel
                              have hqs := hbq.size
                              have g9 := (hbq.cell (p := ⟨bl, ol + j, none⟩) hblr).trans HC0.out
                              have g8 : bl < wr.heap.size := by omega
                              by_cases htl : z ≤ l
                              · have d10 : decide ((z : Int) ≤ (l : Int)) = true := by simp; omega
                                have hzc : z < cn := by omega
                                have htz : t ≤ z := by have := HZ.out; omega
                                obtain ⟨f, hf⟩ : ∃ f, F[z]? = some f := ⟨_, List.getElem?_eq_getElem (by rw [HF1.out]; exact hzc)⟩
                                obtain ⟨a, ha⟩ : ∃ a, AX[z]? = some a := ⟨_, List.getElem?_eq_getElem (by rw [HXL.out]; exact hzc)⟩
                                obtain ⟨b, hb'⟩ : ∃ b, AY[z]? = some b := ⟨_, List.getElem?_eq_getElem (by rw [HYL.out]; exact hzc)⟩
                                have hfi : (ints F)[z]? = some (.int .i64 (f : Nat)) := by unfold ints; rw [List.getElem?_map, hf]; rfl
                                have hai : (intCells AX)[z]? = some (.int .i64 a) := by unfold intCells; rw [List.getElem?_map, ha]; rfl
                                have hbi : (intCells AY)[z]? = some (.int .i64 b) := by unfold intCells; rw [List.getElem?_map, hb']; rfl
                                obtain ⟨fb, fo, hfe, hfb, hfc⟩ := HLF.out.plain (by intro e; rw [e] at hfi; simp at hfi)
                                obtain ⟨xb, xo, hxe, hxb, hxc⟩ := HLX.out.plain (by intro e; rw [e] at hai; simp at hai)
                                obtain ⟨yb, yo, hye, hyb, hyc⟩ := HLY.out.plain (by intro e; rw [e] at hbi; simp at hbi)
                                have BQ : Below w7.heap.size w7 wr := hbo.trans (hbq.mono hbs)
                                have gf := (BQ.cell (p := ⟨fb, fo + z, none⟩) hfb).trans (hfc z _ hfi)
                                have gx := (BQ.cell (p := ⟨xb, xo + z, none⟩) hxb).trans (hxc z _ hai)
                                have gy := (BQ.cell (p := ⟨yb, yo + z, none⟩) hyb).trans (hyc z _ hbi)
                                have hxw : xb < wr.heap.size := Nat.lt_of_lt_of_le hxb BQ.size
                                have hyw : yb < wr.heap.size := Nat.lt_of_lt_of_le hyb BQ.size
                                have hfw : fb < wr.heap.size := Nat.lt_of_lt_of_le hfb BQ.size
                                have hpt := HPA.out z f a b hf ha hb'
                                have HT := Lib.hid (show ptCells ((P.drop first).take (t + 1)) = ptCells ((P.drop first).take t) ++ [.int .i64 (a * 65536), .int .i64 (b * 65536), .int .i64 (knd f)] by
                                  rw [List.take_add_one, List.getElem?_drop, ← HZ.out, hpt, Option.toList_some, ptCells_append]; rfl)
                                obtain ⟨xa0, xa1⟩ := HXB.out a (List.mem_of_getElem? ha)
                                obtain ⟨yb0, yb1⟩ := HYB.out b (List.mem_of_getElem? hb')
                                have hf8 := HF8.out f (List.mem_of_getElem? hf)
                                have e1f : bits .and .i64 ((f : Nat) : Int) 1 = if bt f 0 then 1 else 0 := by
                                  rw [show (1 : Int) = ((1 : Nat) : Int) from rfl, and_nat _ 1 (by omega) (by omega), and_1]
                                  cases bt f 0 <;> rfl
                                have hkn : knd f = if bt f 0 then 1 else 2 := rfl
                                have m1 : wrap64 (a * 65536) = a * 65536 := by unfold wrap64; omega
                                have m2 : wrap64 (b * 65536) = b * 65536 := by unfold wrap64; omega
                                clear hfc hxc hyc hfi hai hbi hpt hf ha hb'
                                subst hfe hxe hye
                                go_wp2
                                go_region
                                have BK : Below wr.heap.size wr (wr.alloc (.cells #[.int .i64 (a * 65536), .int .i64 (b * 65536), .int .i64 2] 57)).drew := (below_a1 wr _).drew
                                have K4 : Blk (wr.alloc (.cells #[.int .i64 (a * 65536), .int .i64 (b * 65536), .int .i64 2] 57)).drew wr.heap.size 57 #[.int .i64 (a * 65536), .int .i64 (b * 65536), .int .i64 2] := (Blk.new wr _ _).below ((Below.refl _ _).drew)
                                have gf4 := (BK.cell (p := ⟨fb, fo + z, none⟩) hfw).trans gf
                                have hf4 : fb < (wr.alloc (.cells #[.int .i64 (a * 65536), .int .i64 (b * 65536), .int .i64 2] 57)).drew.heap.size := Nat.lt_of_lt_of_le hfw BK.size
                                obtain ⟨W4, hW4⟩ : ∃ W4, W4 = (wr.alloc (.cells #[.int .i64 (a * 65536), .int .i64 (b * 65536), .int .i64 2] 57)).drew := ⟨_, rfl⟩
                                rw [← hW4] at BK K4 gf4 hf4 ⊢
                                clear hW4
                                have HBK := Lib.hid BK
                                have HROW := Lib.hid hrow
                                obtain ⟨q, hq⟩ : ∃ q, q = wr.heap.size := ⟨_, rfl⟩
                                rw [← hq] at K4 ⊢
                                have hql : q < W4.heap.size := K4.lt
                                have HQQ := Lib.hid hq
                                have y0 := K4.cell 0
                                have y1 := K4.cell 1
                                have y2 := K4.cell 2
                                simp only [List.getElem?_toArray, List.getElem?_cons_zero, List.getElem?_cons_succ] at y0 y1 y2
                                have yf := K4.frozen 2
                                have HK4 := Lib.hid K4
                                have HBQ := Lib.hid hbq
                                obtain ⟨Ar, cr, rfl, _, _⟩ := own_lists hrow
                                clear hq BK gf gx gy hrow K4 hbq BQ
                                cases hb0 : bt f 0
                                · rw [hb0] at e1f hkn
                                  simp only [Bool.false_eq_true, if_false] at e1f hkn
                                  have HROW5 := Lib.hid (own_stay HROW.out HBK.out)
                                  have HB5 := Lib.hid (HBQ.out.trans (HBK.out.mono hqs))
                                  rw [hkn] at HT
                                  go_wp2_with (at_builtin; refine wpList_append_src _ rfl (.tmp 124) (.tmp 126) 43 rfl wo.heap.size 57 i1 (.agg #[.int .i64 0, .int .i64 0, .int .i64 0]) 3 24 Try.underlying43 hi1 hx1 hs1 hy1 rfl (by decide) _ t (ptCells ((P.drop first).take t)) rfl (own_stay HROW5.out (below_a1 _ _)) _ _ 1 1 [.int .i64 (a * 65536), .int .i64 (b * 65536), .int .i64 2] rfl (lists_row W4 [.int .i64 (a * 65536), .int .i64 (b * 65536), .int .i64 2] 57) rfl (by simp [Value.oneCell']) (by simp only [maxLen]; omega) (by omega) (by have := HB5.out.size; simp at this ⊢; omega) ?_; intro v6 w6 own6 hg6 hat6)
                                  have hlr := sp_low HROW5.out
                                  have b6 : Below wo.heap.size wo w6 := (HB5.out.alloc HB5.out.size (.cells #[.int .i64 (a * 65536), .int .i64 (b * 65536), .int .i64 2] 57)).grown hg6 (by have := HB5.out.size; simp at this ⊢; omega) (own_lowL HROW5.out)
                                  go_roundw
                                  case rel => exact ⟨t + 1, z + 1, by omega, Lib.hid (by rw [HZ.out]; omega), by first | rfl | (go_num), by rw [HT.out]; exact own6, b6⟩
                                  case measure => first | (simp [intOf]; done) | (simp [intOf]; omega)
                                · rw [hb0] at e1f hkn
                                  simp only [if_true] at e1f hkn
                                  have o5 : Only W4 (W4.setCell ⟨q, 2, none⟩ (.int .i64 1)) [q] := (Only.refl _ _).set (.inl (by simp)) _
                                  have HROW5 := Lib.hid (own_only (own_stay HROW.out HBK.out) o5 (fun x hx hm => by have := blk_lt HROW.out x hx; have := HQQ.out; simp at hm; omega))
                                  have HB5 := Lib.hid ((HBQ.out.trans (HBK.out.mono hqs)).trans (o5.to_below (by have := HBK.out.size; omega) (fun x hx => by have := HQQ.out; simp at hx; omega)))
                                  rw [hkn] at HT
                                  go_wp2_with (at_builtin; refine wpList_append_src _ rfl (.tmp 124) (.tmp 126) 43 rfl wo.heap.size 57 i1 (.agg #[.int .i64 0, .int .i64 0, .int .i64 0]) 3 24 Try.underlying43 hi1 hx1 hs1 hy1 rfl (by decide) _ t (ptCells ((P.drop first).take t)) rfl (own_stay HROW5.out (below_a1 _ _)) _ _ 1 1 [.int .i64 (a * 65536), .int .i64 (b * 65536), .int .i64 1] rfl (lists_row_at (W4.setCell ⟨q, 2, none⟩ (.int .i64 1)) [.int .i64 (a * 65536), .int .i64 (b * 65536), .int .i64 1] 57 W4.heap.size (by simp)) rfl (by simp [Value.oneCell']) (by simp only [maxLen]; omega) (by omega) (by have := HB5.out.size; simp at this ⊢; omega) ?_; intro v6 w6 own6 hg6 hat6)
                                  have hlr := sp_low HROW5.out
                                  have b6 : Below wo.heap.size wo w6 := (HB5.out.alloc HB5.out.size (.cells #[.int .i64 (a * 65536), .int .i64 (b * 65536), .int .i64 1] 57)).grown hg6 (by have := HB5.out.size; simp at this ⊢; omega) (own_lowL HROW5.out)
                                  go_roundw
                                  case rel => exact ⟨t + 1, z + 1, by omega, Lib.hid (by rw [HZ.out]; omega), by first | rfl | (go_num), by rw [HT.out]; exact own6, b6⟩
                                  case measure => first | (simp [intOf]; done) | (simp [intOf]; omega)
                              · obtain rfl : z = l + 1 := by omega
                                have d10 : decide (((l + 1 : Nat) : Int) ≤ (l : Int)) = false := by simp; omega
                                have d10' : decide ((l : Int) + 1 ≤ (l : Int)) = false := by simp; omega
                                have htl : t = l + 1 - first := by have := HZ.out; omega
                                have hkn : ((P.drop first).take (l + 1 - first)).length = t := by rw [List.length_take, List.length_drop, HPL.out]; omega
                                rw [← htl] at HQ2 hkn
                                have HKN := Lib.hid hkn
                                have HROW := Lib.hid hrow
                                have HBQ := Lib.hid hbq
                                obtain ⟨Ar, cr, rfl, _, _⟩ := own_lists hrow
                                clear htl hkn hrow hbq
                                generalize (P.drop first).take t = L9 at *
                                go_wp2_with (at_builtin; refine wpList_append_src _ rfl (.tmp 130) (.tmp 132) 23 rfl w7.heap.size 43 i2 (.slice none 0 0) 1 24 Try.underlying23 hi2 hx2 hs2 hy2 rfl (by decide) _ j rows rfl (own_stay (own_stay HOJ.out HBQ.out) ((Below.refl _ _).alloc (Nat.le_refl _) _)) _ _ 1 1 [.slice Ar t cr] rfl (lists_new1 wr _ _) rfl (fun u hu => by simp at hu; subst hu; rfl) (by simp only [maxLen]; omega) (by omega) (by have := HBQ.out.size; simp; omega) ?_; intro v2' w9 own2' hg2' _)
                                have hN2 : Own2 w9 w7.heap.size v2' (done ++ [L9]) := own2_push hbs HO.out HI.out HBQ.out (by rw [HKN.out]; exact HROW.out) ((Below.refl wr.heap.size wr).alloc (Nat.le_refl _) (.cells #[.slice Ar t cr] 43)) (by rw [hdn]; exact own2') hg2'
                                have hB2 : Below w7.heap.size w7 w9 := ((hbo.trans (HBQ.out.mono hbs)).alloc (Nat.le_trans hbs HBQ.out.size) (.cells #[.slice Ar t cr] 43)).grown hg2' (by have := HBQ.out.size; simp; omega) (fun x hx => (HO.out.lt x hx).1)
                                go_roundw
                                case rel => exact ⟨j + 1, l + 1, _, by omega, by simp [hdn], by omega, by first | rfl | (go_num), by first | rfl | (go_num), hN2, hB2, HQ2⟩
                                case measure => first | (simp [intOf]; done) | (simp [intOf]; omega)
                          · obtain rfl : j = i := by omega
                            have d9 : decide ((j : Int) < (j : Int)) = false := by simp
                            have HRE := Lib.hid (show RR0 = done by rw [hQ.out.1, List.drop_eq_nil_of_le (by rw [HLEN.out]; exact Nat.le_refl _)]; simp [conC])
                            have HO := Lib.hid hO
                            have HBO := Lib.hid hbo
                            clear hQ hO hbo
                            go_wp2
                            go_ret2
                            exact SDecP.yes (HRES2.out.trans (by rw [HRE.out])) (own2_base HO.out b7w) (HB7.out.trans (HBO.out.mono b7w))
theorem rdec_any (A : Option Addr) (c n : Nat) (E : List Value) (w : World) (hE : Lists w w.heap.size A E) (hn : E.length = n) (h8 : Bytes8 E) (hc : n ≤ c) (hc2 : c ≤ 9223372036854775807) (hm : n ≤ 140737488355328) :
    Calls Try.prog 8 #[.slice A n c] w (SDecP w (decS E)) := by
  by_cases h0 : E = []
  · subst h0
    obtain rfl : 0 = n := hn
    unfold decS
    rw [if_pos rfl]
    go_enter Try.func8, Try.ntmps8
    go_wp2
    go_ret2
    exact SDecP.no rfl (Below.refl _ _)
  · have := rdec_ne A c n E w hE hn h8 hc hc2 hm (by have := List.length_pos_iff.2 h0; omega)
    unfold decS
    rw [if_neg h0, decB_take E h8]
    exact this
end Go.Proofs.Ytelhckckcilpaaa

namespace Go.Proofs.Ytelhckckcilpaaa
open Go Go.RowKit

/-- The reference's writer at block q. -/
def RWr (w : World) (q R : Nat) (F : Bool) (L : List Value) (fp : List Nat) : Prop :=
  ∃ bv, Blk w q 81 #[bv, .int .i64 (R : Nat), .bool F] ∧ w.ownsRow 0 5 1 bv L.length L ∧ Bytes8 L ∧ L.length ≤ R ∧ fp = q :: blk bv
def RPut (w w' : World) (q R : Nat) (F : Bool) (L : List Value) (fp : List Nat) (E : List Value) : Prop :=
  ∃ fp', RWr w' q R (putF R F L E) (putL R F L E) fp' ∧ Only w w' fp ∧ ∀ b ∈ fp', b ∈ fp ∨ w.heap.size ≤ b

theorem own_zeroB {w : World} {base : Nat} {e : TypeId} {size n : Nat} {v : Value} {xs : List Value} (h : w.ownsRow base e size v n xs) : w.ownsRow 0 e size v n xs :=
  ⟨h.1, h.2.imp id fun ⟨g, cap, cur, h1, _, h3⟩ => ⟨g, cap, cur, h1, Nat.zero_le _, h3⟩⟩

theorem RWr.lt {w : World} {q R : Nat} {F : Bool} {L : List Value} {fp : List Nat} (h : RWr w q R F L fp) : ∀ b ∈ fp, b < w.heap.size := by
  obtain ⟨bv, hb, hd, _, _, rfl⟩ := h
  intro b hm
  rcases List.mem_cons.1 hm with rfl | hm
  · exact hb.lt
  · exact blk_lt hd b hm
theorem RWr.only {w w1 : World} {q R : Nat} {F : Bool} {L : List Value} {fp fq : List Nat} (h : RWr w q R F L fp) (k : Only w w1 fq) (hn : ∀ b ∈ fp, b ∉ fq) : RWr w1 q R F L fp := by
  obtain ⟨bv, hb, hd, h2, h3, rfl⟩ := h
  exact ⟨bv, hb.only k (hn q (by simp)), own_only hd k (fun b hm => hn b (by simp [hm])), h2, h3, rfl⟩

set_option maxRecDepth 100000 in
set_option maxHeartbeats 1000000 in
theorem rdata_any (q R : Nat) (F : Bool) (L : List Value) (fp : List Nat) (A : Option Addr) (m c B : Nat) (E : List Value) (w : World) (hW : RWr w q R F L fp) (hR : R ≤ 1099511627776) (hE : Lists w B A E) (hm : E.length = m) (hB : B ≤ w.heap.size) (h8 : Bytes8 E) :
    Calls Try.prog 54 #[.pointer (some ⟨q, 0, none⟩), .slice A m c] w fun e w' => e = .returned (.tuple #[]) ∧ RPut w w' q R F L fp E := by
  obtain ⟨bv, hb, hd, k2, k3, k5⟩ := id hW
  obtain ⟨A0, c0, rfl, lD, hc0⟩ := own_lists hd
  have n1 := own_ne hd hb (by decide)
  have HK : ∀ w', Below w.heap.size w w' → KB w' [(q, [.slice A0 L.length c0, .int .i64 (R : Nat), .bool F])] := fun w' hS => (hb.below hS).kb
  have s1 : IntKind.i64.wrap ((R : Int) - (L.length : Int)) = (R : Int) - (L.length : Int) := IntWalk.i64_in _ (by omega)
  have HM := Lib.hid hm
  have H5 := Lib.hid k5
  have HW := Lib.hid hW
  cases hf : putF R F L E
  · have hF : F = false := by unfold putF at hf; simp at hf; exact hf.1
    have hx : L.length + E.length ≤ R := by unfold putF at hf; simp at hf; exact hf.2
    subst hF
    have d1 : decide ((R : Int) - (L.length : Int) < (m : Int)) = false := by simp; omega
    have HX := Lib.hid hx
    have HF := Lib.hid hf
    obtain ⟨i0, hi, hz0, hz1, hz2⟩ := info_parts u8Info
    clear hm k5 hW hf hx
    go_enter Try.func54, Try.ntmps54
    go_wp2
    refine wp_region_plan (fun w' => Below w.heap.size w w') _ rfl (by kernel_rfl) (by kernel_rfl) ((Below.refl _ _).drew) ?_
    repeat (first
      | (refine PlanL.skip (by rfl) ?_; simp only [Act.put, List.setIfInBounds_toArray, List.set_cons_zero, List.set_cons_succ])
      | (refine PlanL.val (v := ?_) (by rfl) ?_ ?_; rotate_left; (focus (intro w' hS; have F := HK _ hS; simp only [KB, CellsAt, Nat.zero_add, Nat.reduceAdd, and_true] at F; go_simp <;> with_reducible rfl)); try simp only [Act.put, List.setIfInBounds_toArray, List.set_cons_zero, List.set_cons_succ]))
    refine PlanL.nil ?_
    intro w' hS
    have F := HK _ hS; simp only [KB, CellsAt, Nat.zero_add, Nat.reduceAdd, and_true] at F
    have hb1 := hb.below hS
    clear HK s1
    go_wp2_with (first | (at_builtin; refine wpList_append_src _ rfl (.tmp 27) (.tmp 31) 22 rfl w'.heap.size 5 i0 (.int .u8 0) 1 1 Try.underlying22 hi hz0 hz1 hz2 rfl (by decide) (.slice (some ⟨w'.heap.size, 0, none⟩) 0 0) 0 [] rfl ⟨rfl, .inr ⟨w'.heap.size, 0, #[], rfl, Nat.le_refl _, heap_alloc_new w' _, Nat.le_refl _, Nat.zero_le _, rfl, rfl⟩⟩ w.heap.size A0 L.length c0 L rfl ((lD.below hS).alloc hS.size _) (by rw [Nat.mul_one]) k2.one (by simp only [maxLen]; omega) (by omega) (by simp) ?_; intro v1 w1 hown1 hg1 hat1; rw [Nat.zero_add, List.nil_append] at hown1; have b1 : Below w.heap.size w w1 := (hS.alloc hS.size _).grown hg1 (by simp; have := hS.size; omega) (fun j hj => by cases hj; exact hS.size); have t1 : ∀ b ∈ blk v1, w.heap.size ≤ b := (fun b hb => by have := hS.size; rcases hat1 with e | e <;> (unfold blk at hb; rw [e] at hb; simp [Value.ownBlock] at hb; omega))) | (at_builtin; refine wpList_append_src _ rfl (.tmp 32) (.tmp 33) 22 rfl w'.heap.size 5 i0 (.int .u8 0) 1 1 Try.underlying22 hi hz0 hz1 hz2 rfl (by decide) v1 L.length L rfl hown1 w.heap.size A m c E rfl ((hE.below (b1.mono hB)).more hB) (by rw [HM.out, Nat.mul_one]) h8.one (by simp only [maxLen]; have := HM.out; have := HX.out; omega) (by have := HM.out; have := HX.out; omega) (by have := hg1.size; simp at this; omega) ?_; intro v2 w2 hown2 hg2 hat2; obtain ⟨A2, k2', rfl, _, _⟩ := own_lists hown2; have b2 : Below w.heap.size w w2 := b1.grown hg2 b1.size (fun j hj => t1 j (by unfold blk; rw [hj]; simp)); have hb2 := hb.below b2; have F2 := hb2.kb; simp only [KB, CellsAt, Nat.zero_add, Nat.reduceAdd, and_true] at F2))
    go_end0
    obtain ⟨v2, hv2⟩ : ∃ v, v = Value.slice A2 (L.length + m) k2' := ⟨_, rfl⟩
    rw [← hv2] at hown2 hat2 ⊢
    have n2 := own_ne hown2 hb2 (by decide)
    have o3 : Only w2 (w2.setCell ⟨q, 0, none⟩ v2) [q] := (Only.refl _ _).set (.inl (by simp)) _
    refine ⟨rfl, q :: blk v2, ?_, ?_, ?_⟩
    · rw [HF.out]
      unfold putL
      rw [HF.out, if_neg (by simp)]
      refine ⟨v2, hb2.set 0 v2, ?_, k2.append h8, by rw [List.length_append]; exact HX.out, rfl⟩
      rw [show (L ++ E).length = L.length + m by rw [List.length_append, HM.out]]
      exact own_only (own_zeroB hown2) o3 (fun b hm e => by simp at e; subst e; exact n2 hm)
    · rw [H5.out]
      exact (Only.of_below b2 _).set (.inl (by simp)) _
    · intro b hm
      rw [H5.out]
      rcases List.mem_cons.1 hm with rfl | hm
      · exact .inl (by simp)
      · right
        rcases hat2 with e | e
        · exact t1 b (by unfold blk at hm ⊢; rw [← e]; exact hm)
        · have : b = w1.heap.size := by unfold blk at hm; rw [e] at hm; simpa using hm
          have := b1.size
          omega
  · have hx : F = true ∨ (F = false ∧ R < L.length + E.length) := by
      unfold putF at hf
      cases F
      · simp at hf; exact .inr ⟨rfl, hf⟩
      · exact .inl rfl
    have hfin : ∀ w', Below w.heap.size w w' → RPut w (w'.setCell ⟨q, 2, none⟩ (.bool true)) q R F L fp E := fun w' hS => by
      have o3 : Only w (w'.setCell ⟨q, 2, none⟩ (.bool true)) [q] := (Only.of_below hS _).set (.inl (by simp)) _
      refine ⟨fp, ?_, by rw [H5.out]; exact o3.more (fun b hm => by simp at hm; subst hm; simp), fun b hm => .inl hm⟩
      rw [hf]
      unfold putL
      rw [hf, if_pos rfl]
      exact ⟨_, (hb.below hS).set 2 (.bool true), own_only hd o3 (fun b hm e => by simp at e; subst e; exact n1 hm), k2, k3, k5⟩
    have HFIN := Lib.hid hfin
    rcases hx with rfl | ⟨rfl, hx⟩
    · clear hm k5 hW hf hfin
      go_enter Try.func54, Try.ntmps54
      go_wp2
      refine wp_region_plan (fun w' => Below w.heap.size w w') _ rfl (by kernel_rfl) (by kernel_rfl) ((Below.refl _ _).drew) ?_
      repeat (first
        | (refine PlanL.skip (by rfl) ?_; simp only [Act.put, List.setIfInBounds_toArray, List.set_cons_zero, List.set_cons_succ])
        | (refine PlanL.val (v := ?_) (by rfl) ?_ ?_; rotate_left; (focus (intro w' hS; have F := HK _ hS; simp only [KB, CellsAt, Nat.zero_add, Nat.reduceAdd, and_true] at F; go_simp <;> with_reducible rfl)); try simp only [Act.put, List.setIfInBounds_toArray, List.set_cons_zero, List.set_cons_succ]))
      refine PlanL.nil ?_
      intro w' hS
      have F := HK _ hS; simp only [KB, CellsAt, Nat.zero_add, Nat.reduceAdd, and_true] at F
      clear HK s1
      go_wp2
      refine bodyPost_ret (results_none rfl _ _ _) rfl ?_
      exact ⟨rfl, HFIN.out _ hS⟩
    · have d1 : decide ((R : Int) - (L.length : Int) < (m : Int)) = true := by simp; omega
      clear hm k5 hW hf hfin hx
      go_enter Try.func54, Try.ntmps54
      go_wp2
      refine wp_region_plan (fun w' => Below w.heap.size w w') _ rfl (by kernel_rfl) (by kernel_rfl) ((Below.refl _ _).drew) ?_
      repeat (first
        | (refine PlanL.skip (by rfl) ?_; simp only [Act.put, List.setIfInBounds_toArray, List.set_cons_zero, List.set_cons_succ])
        | (refine PlanL.val (v := ?_) (by rfl) ?_ ?_; rotate_left; (focus (intro w' hS; have F := HK _ hS; simp only [KB, CellsAt, Nat.zero_add, Nat.reduceAdd, and_true] at F; go_simp <;> with_reducible rfl)); try simp only [Act.put, List.setIfInBounds_toArray, List.set_cons_zero, List.set_cons_succ]))
      refine PlanL.nil ?_
      intro w' hS
      have F := HK _ hS; simp only [KB, CellsAt, Nat.zero_add, Nat.reduceAdd, and_true] at F
      clear HK s1
      go_wp2
      refine bodyPost_ret (results_none rfl _ _ _) rfl ?_
      exact ⟨rfl, HFIN.out _ hS⟩

end Go.Proofs.Ytelhckckcilpaaa
