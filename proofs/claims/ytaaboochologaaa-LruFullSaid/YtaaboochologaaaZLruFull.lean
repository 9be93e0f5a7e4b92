/- LruFull: masks of one size: as many are kept as the budget has room for, those that were put last; for all ints. -/
import Derived.Test.YtaaboochologaaaM0LruFull

namespace Go.Proofs.Ytaaboochologaaa.lruFull
open Go Go.ChangeShapes Go.WideShapes Go.ChangeAt Go.RowKit
set_option linter.unusedVariables false
set_option linter.unusedSimpArgs false

set_option maxRecDepth 100000 in
set_option maxHeartbeats 2000000 in
theorem walk_main (bud : Int) (hb : 0 ≤ bud ∧ bud ≤ 20000) (n k : Nat) (hn : 1 ≤ n ∧ n ≤ 300) (hk : k ≤ 60) (w : World) : Calls Try.prog 5 #[.int .i64 bud, .int .i64 (n : Nat), .int .i64 (k : Nat)] w fun e w' => e = .returned (.bool true) ∧ Below w.heap.size w w' := by
  obtain ⟨N, hN⟩ : ∃ N, N = w.heap.size := ⟨_, rfl⟩
  have CN := stnew_any bud (by simp [inZ]; omega) N w w (Below.refl _ _) (by omega)
  have CL := fun W => lives25_any W
  obtain ⟨r, hr⟩ : ∃ r, decide (64 + (n : Int) ≤ bud) = r := ⟨_, rfl⟩
  have HP := Lib.hid (fun (W : World) (p : Nat) (j : Nat) (C : Cs) (g : Nat) (h : StC N w W p bud ((revF n j).take (bud / (64 + (n : Int))).toNat) C) (hj : j ≤ 60) (hg : Blk W g 5 (repL n (j : Int)).toArray) => show Calls Try.prog 16 #[.pointer (some ⟨p, 0, none⟩), .agg #[.int .i64 (j : Nat), .int .i64 0, .int .i64 0, .int .i64 0], .agg #[.int .i64 0, .int .i64 0, .int .i64 (n : Nat), .int .i64 1, .slice (some ⟨g, 0, none⟩) n n]] W (fun e w' => ∃ C', e = .returned (.tuple #[.bool r, .int .i64 0]) ∧ StC N w w' p bud ((revF n (j + 1)).take (bud / (64 + (n : Int))).toNat) C' ∧ ModC W w' p C C') from by
    have := stput_any N p w W bud _ C (kyN (j : Int)) (kyN_w _ (by unfold in64; omega)) ⟨0, 0, (n : Int), 1⟩ g n (repL n (j : Int)) h (repL_len _ _) hg (repL_8 (by omega)) n
    rw [full_step bud hb.1 n hn j, chkC_one n hn, show lputB bud ⟨0, 0, (n : Int), 1⟩ n = r by unfold lputB; rw [chk_one n hn, ← hr]; rfl] at this
    exact this)
  have d1 : decide (bud < 0) = false := by simp; omega
  have d2 : decide (20000 < bud) = false := by simp; omega
  have d3 : decide ((n : Int) < 1) = false := by simp; omega
  have d4 : decide (300 < (n : Int)) = false := by simp; omega
  have d5 : decide ((k : Int) < 0) = false := by simp
  have d6 : decide (60 < (k : Int)) = false := by simp; omega
  have hw : wrap64 (64 + (n : Int)) = 64 + (n : Int) := by unfold wrap64; omega
  have HN := Lib.hid hN
  have HB := Lib.hid (And.intro hb (And.intro hn hk))
  clear hN
  go_enter Try.func5, Try.ntmps5
  go_upto_region 4 with (go_at_call 8; refine (CN).mono ?_; rintro e w1 ⟨p, C0, rfl, s0⟩)
  go_wp2_with (go_at_call 9; refine (CL _).mono ?_; rintro e w2 ⟨rfl, b2⟩)
  have s1 := s0.below b2
  have H1 := Lib.hid s1
  clear s0 s1 CN d1 d2 d3 d4 d5 d6 hb
  go_loopw [9, 10, 11] (fun i _ _ wr => ∃ (j : Nat) (C : Cs), j ≤ k ∧ i = .int .i64 (j : Nat) ∧ StC N w wr p bud ((revF n j).take (bud / (64 + (n : Int))).toNat) C) (fun i _ _ _ => k - (intOf i).toNat)
  case atStart => exact ⟨0, C0, Nat.zero_le _, rfl, by rw [show (revF n 0).take _ = [] from List.take_nil]; exact H1.out⟩
  case round =>
    obtain ⟨j, C, hj, rfl, hst⟩ := hrel
    have HS := Lib.hid hst
    clear hst
    by_cases hlt : j < k
    · have hu : IntKind.u8.wrap (j : Int) = (j : Int) := by
        have := HB.out.2.2
        simp [IntKind.wrap]
        simp [IntKind.signed, IntKind.bits]
        omega
      go_upto_region 10 with (first
        | (go_at_call 18; refine (lmask_any n (j : Int) ⟨HB.out.2.1.1, by have := HB.out.2.1; omega⟩ _).mono ?_; rintro e wm ⟨gm, rfl, gmb, gms, bm⟩; have PP := HP.out wm p j C gm (HS.out.below bm) (by have := HB.out.2.2; omega) gmb)
        | (go_at_call 16; refine (PP).mono ?_; rintro e wp ⟨Cp, rfl, sp, mp⟩))
      have HSP := Lib.hid sp
      clear sp mp PP gmb gms bm
      cases r
      all_goals
        go_wp2
        go_roundw
        case rel => exact ⟨j + 1, Cp, by omega, by go_num, HSP.out⟩
        case measure => simp [intOf]; omega
    · obtain rfl : k = j := by omega
      go_upto_region 13 with fail
      obtain ⟨V, hV⟩ : ∃ V : Nat, V = (bud / (64 + (n : Int))).toNat := ⟨_, rfl⟩
      have hq : wrap64 (bud.tdiv (64 + (n : Int))) = (V : Int) := by
        have h1 := HB.out.1
        rw [Int.tdiv_eq_ediv_of_nonneg h1.1, hV, Int.toNat_of_nonneg (Int.ediv_nonneg h1.1 (by omega))]
        have h2 : bud / (64 + (n : Int)) ≤ bud := Int.ediv_le_self _ h1.1
        have h3 : 0 ≤ bud / (64 + (n : Int)) := Int.ediv_nonneg h1.1 (by omega)
        unfold wrap64
        omega
      rw [hq]
      rw [← hV] at HS
      have KK := lrkeys_any N p bud _ C wr HS.out.1
      have hlen : ((revF n k).take V).length = min V k := by rw [List.length_take, revF_len]
      rw [hlen] at KK
      obtain ⟨m, hm⟩ : ∃ m, m = min V k := ⟨_, rfl⟩
      rw [← hm] at KK
      have hcells : ∀ j, j < m → (kysL ((revF n k).take V))[j * 4]? = some (.int .i64 ((k - 1 - j : Nat) : Int)) := fun j hj => by
        have h1 : ((revF n k).take V)[j]? = some (enF n (k - 1 - j)) := by
          rw [List.getElem?_take, if_pos (by omega), revF_get n k j (by omega)]
        have := flat_at (f := fun e : En => kyL e.1) (sz := 4) (fun _ => rfl) _ j _ h1 0 _ rfl
        rw [Nat.add_zero] at this
        exact this
      have hne : 0 < m → kysL ((revF n k).take V) ≠ [] := fun h e => by
        have := hcells 0 h
        rw [e] at this
        simp at this
      have HCL := Lib.hid (And.intro hcells hne)
      have HKK := Lib.hid KK
      have HM := Lib.hid hm
      clear hq KK hlen hcells hne hV hw CL HP
      have hmk : m ≤ k := by omega
      have hk60 := HB.out.2.2
      rcases Nat.lt_or_ge k V with hvk | hvk
      · obtain rfl : k = m := by omega
        have hvk2 : decide ((k : Int) < (V : Int)) = true := by simp; omega
        clear hm hmk
        go_upto_region 19 with (go_at_call 19; refine (HKK.out).mono ?_; rintro e wk ⟨A, c, rfl, hls, bk⟩)
        have HE := Lib.hid (And.intro hls (HS.out.2.1.trans (bk.mono HS.out.2.2.2)))
        clear hls bk
        go_loopw [14] (fun i wr2 => wr2 = wk ∧ ∃ j : Nat, j ≤ k ∧ i = .int .i64 (j : Nat)) (fun i _ => k - (intOf i).toNat)
        case atStart => exact ⟨rfl, 0, Nat.zero_le _, rfl⟩
        case round =>
          obtain ⟨rfl, j, hj, rfl⟩ := hrel
          by_cases hlt : j < k
          · obtain ⟨b, o, rfl, hb, hc⟩ := HE.out.1.plain (HCL.out.2 (by omega))
            have cj := hc (j * 4) _ (HCL.out.1 j hlt)
            rw [show ((k - 1 - j : Nat) : Int) = (k : Int) - 1 - (j : Int) by omega] at cj
            clear hc
            go_wp2
            go_roundw
            case rel => exact ⟨trivial, j + 1, by omega, by go_num⟩
            case measure => simp [intOf]; omega
          · obtain rfl : k = j := by omega
            go_wp2
            go_ret
            refine ⟨rfl, ?_⟩
            have := HE.out.2
            rw [HN.out] at this
            exact this
      · obtain rfl : V = m := by omega
        have hvk2 : decide ((k : Int) < (V : Int)) = false := by simp; omega
        clear hm hmk
        go_upto_region 19 with (go_at_call 19; refine (HKK.out).mono ?_; rintro e wk ⟨A, c, rfl, hls, bk⟩)
        have HE := Lib.hid (And.intro hls (HS.out.2.1.trans (bk.mono HS.out.2.2.2)))
        clear hls bk
        go_loopw [14] (fun i wr2 => wr2 = wk ∧ ∃ j : Nat, j ≤ V ∧ i = .int .i64 (j : Nat)) (fun i _ => V - (intOf i).toNat)
        case atStart => exact ⟨rfl, 0, Nat.zero_le _, rfl⟩
        case round =>
          obtain ⟨rfl, j, hj, rfl⟩ := hrel
          by_cases hlt : j < V
          · obtain ⟨b, o, rfl, hb, hc⟩ := HE.out.1.plain (HCL.out.2 (by omega))
            have cj := hc (j * 4) _ (HCL.out.1 j hlt)
            rw [show ((k - 1 - j : Nat) : Int) = (k : Int) - 1 - (j : Int) by omega] at cj
            clear hc
            go_wp2
            go_roundw
            case rel => exact ⟨trivial, j + 1, by omega, by go_num⟩
            case measure => simp [intOf]; omega
          · obtain rfl : V = j := by omega
            go_wp2
            go_ret
            refine ⟨rfl, ?_⟩
            have := HE.out.2
            rw [HN.out] at this
            exact this
theorem walk_out (bud n k : Int) (h : ¬ (0 ≤ bud ∧ bud ≤ 20000 ∧ 1 ≤ n ∧ n ≤ 300 ∧ 0 ≤ k ∧ k ≤ 60)) (w : World) : Calls Try.prog 5 #[.int .i64 bud, .int .i64 n, .int .i64 k] w fun e w' => e = .returned (.bool true) ∧ Below w.heap.size w w' := by
  have CL := fun W => lives25_any W
  by_cases h1 : bud < 0
  · go_enter Try.func5, Try.ntmps5
    go_wp2_with (go_at_call 9; refine (CL _).mono ?_; rintro e w2 ⟨rfl, b2⟩)
    go_ret
    exact ⟨rfl, b2⟩
  · by_cases h2 : 20000 < bud
    · go_enter Try.func5, Try.ntmps5
      go_wp2_with (go_at_call 9; refine (CL _).mono ?_; rintro e w2 ⟨rfl, b2⟩)
      go_ret
      exact ⟨rfl, b2⟩
    · by_cases h3 : n < 1
      · go_enter Try.func5, Try.ntmps5
        go_wp2_with (go_at_call 9; refine (CL _).mono ?_; rintro e w2 ⟨rfl, b2⟩)
        go_ret
        exact ⟨rfl, b2⟩
      · by_cases h4 : 300 < n
        · go_enter Try.func5, Try.ntmps5
          go_wp2_with (go_at_call 9; refine (CL _).mono ?_; rintro e w2 ⟨rfl, b2⟩)
          go_ret
          exact ⟨rfl, b2⟩
        · by_cases h5 : k < 0
          · go_enter Try.func5, Try.ntmps5
            go_wp2_with (go_at_call 9; refine (CL _).mono ?_; rintro e w2 ⟨rfl, b2⟩)
            go_ret
            exact ⟨rfl, b2⟩
          · have h6 : 60 < k := by omega
            clear h
            go_enter Try.func5, Try.ntmps5
            go_wp2_with (go_at_call 9; refine (CL _).mono ?_; rintro e w2 ⟨rfl, b2⟩)
            go_ret
            exact ⟨rfl, b2⟩
theorem walk (bud : Int) (_ : (Lit.int .i64 bud).wf = true) (n : Int) (_ : (Lit.int .i64 n).wf = true) (k : Int) (_ : (Lit.int .i64 k).wf = true) (w : World) : Calls Try.prog 5 #[.int .i64 bud, .int .i64 n, .int .i64 k] w fun e w' => e = .returned (.bool true) ∧ Below w.heap.size w w' := by
  by_cases h : 0 ≤ bud ∧ bud ≤ 20000 ∧ 1 ≤ n ∧ n ≤ 300 ∧ 0 ≤ k ∧ k ≤ 60
  · obtain ⟨a, rfl⟩ : ∃ a : Nat, n = a := ⟨n.toNat, by omega⟩
    obtain ⟨b, rfl⟩ : ∃ b : Nat, k = b := ⟨k.toNat, by omega⟩
    exact walk_main bud (by omega) a b (by omega) (by omega) w
  · exact walk_out bud n k h w

set_option linter.unusedVariables false in
set_option maxRecDepth 100000 in
theorem lifted (os : Os) (started : os.Started) (H : Type) (enc : TypeId × Value → H) :
    ReturnsInHanded {} Try.checked os 5 .any (Rows.lruFullSpec.pre6 enc Try.prog Try.f5 Rows.lruFullRow.domain false) (Rows.lruFullSpec.post enc Try.prog Try.f5 false true false false) := by
  refine returnsInHanded_of_change (C := Try.checked) Try.own started (by kernel_rfl) Try.func5
    (ChangeSpec.witness6 (enc := enc) (C := Try.checked) false ⟨#[], #[.int .i64 0, .int .i64 0, .int .i64 0], []⟩ 8 (by kernel_rfl) (by kernel_rfl) (by kernel_rfl) (by kernel_rfl)) ?_
  intro W base args ds gs before hval0 hW hcnd _
  have hval : ∀ (j : Nat) t v, Try.f5.params[j]? = some t → args[j]? = some v → Value.okWide Try.prog W .any base t v := hval0
  have hW' := hW
  obtain ⟨p, q, hA0, hV, rfl, hfz, hnd⟩ := hW
  have hA : DataW.TrodAll enc Try.prog W 0 (fun _ => true) true Try.f5.params.toList args.toList ds p := hA0
  rw [Try.params5] at hA hval
  obtain ⟨v0, vs0, d0, ds0, p0, q0, hargs, rfl, rfl, h0, r0⟩ := trodAll_cons hA
  obtain ⟨v1, vs1, d1, ds1, p1, q1, rfl, rfl, rfl, h1, r1⟩ := trodAll_cons r0
  obtain ⟨v2, vs2, d2, ds2, p2, q2, rfl, rfl, rfl, h2, r2⟩ := trodAll_cons r1
  obtain ⟨rfl, rfl, rfl⟩ := trodAll_nil r2
  obtain rfl : args = #[v0, v1, v2] := by cases args; simp_all
  obtain ⟨rfl, rfl⟩ := trodVars_none hV
  obtain ⟨a0, rfl, rfl, rfl, w0⟩ := open_int Try.underlying3 (hval 0 3 v0 rfl rfl) h0
  obtain ⟨a1, rfl, rfl, rfl, w1⟩ := open_int Try.underlying3 (hval 1 3 v1 rfl rfl) h1
  obtain ⟨a2, rfl, rfl, rfl, w2⟩ := open_int Try.underlying3 (hval 2 3 v2 rfl rfl) h2
  clear hA0 hval0
  simp only [List.append_nil] at hW'
  refine (walk a0 w0 a1 w1 a2 w2 W).mono fun e W' ⟨he, hg⟩ => ?_
  subst he
  exact ⟨_, rfl, law_post Try.laidOut rfl Try.underlying4 (by kernel_rfl) rfl rfl rfl rfl hW' hg⟩

theorem over : Rows.lruFullRow.holds Try.pinned (OpenSpec.ofChange Rows.lruFullSpec) :=
  OpenClaim.holds_of_wide 5 Try.f5 rfl rfl rfl rfl rfl rfl rfl ⟨rfl, rfl, rfl, rfl, rfl⟩ rfl rfl rfl rfl rfl (by kernel_rfl) Try.func5 (by kernel_rfl)
    (of_decide_eq_true (by kernel_rfl)) (by unfold Func.isWrapper; first | (rw [if_pos (by decide +kernel)]; kernel_rfl) | (rw [if_neg (by decide +kernel)]; exact ⟨rfl, rfl⟩))
    (fun os started H enc _ => lifted os started H enc)

theorem proved : Rows.LruFullSaid :=
  over

end Go.Proofs.Ytaaboochologaaa.lruFull
