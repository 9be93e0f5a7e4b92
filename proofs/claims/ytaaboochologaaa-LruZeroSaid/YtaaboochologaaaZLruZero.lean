/- LruZero: with a budget below the cost of any mask nothing is kept, and nothing is found; for all budgets and calls. -/
import Derived.Test.YtaaboochologaaaM0LruZero

namespace Go.Proofs.Ytaaboochologaaa.lruZero
open Go Go.ChangeShapes Go.WideShapes Go.ChangeAt Go.RowKit
set_option linter.unusedVariables false
set_option linter.unusedSimpArgs false

variable {W : World}
theorem ctInfoL : (Try.prog.info? 41).map (·.size) = some 11 := by kernel_rfl
set_option maxRecDepth 100000 in
set_option maxHeartbeats 4000000 in
theorem walk_main (bud : Int) (hb : 0 ≤ bud ∧ bud ≤ 63) (A : Option Addr) (c : Nat) (L : List LRec) (hc : L.length ≤ c) (hm : c ≤ 9223372036854775807) (hl : Lists W W.heap.size A (L.flatMap lrL)) (hs : ∀ r ∈ L, LrOk W W.heap.size r) : Calls Try.prog 7 #[.int .i64 bud, .slice A L.length c] W fun e w' => e = .returned (.bool true) ∧ Below W.heap.size W w' := by
  obtain ⟨N, hN⟩ : ∃ N, N = W.heap.size := ⟨_, rfl⟩
  have CN := stnew_any bud (by simp [inZ]; omega) N W W (Below.refl _ _) (by omega)
  have CL := fun W => lives25_any W
  have CM := fun W => rlmay_any bud W
  rw [show inZ 0 16777216 bud = true by simp [inZ]; omega] at CM
  have HL := Lib.hid (And.intro hl hs)
  have HN := Lib.hid hN
  have HBU := Lib.hid hb
  obtain ⟨n, hn⟩ : ∃ n, n = L.length := ⟨_, rfl⟩
  have hnc : n ≤ 9223372036854775807 := by omega
  rw [← hn]
  have HNL := Lib.hid hn
  have d1 : decide (bud < 0) = false := by simp; omega
  have d2 : decide (63 < bud) = false := by simp; omega
  clear hl hs hN hn
  go_enter Try.func7, Try.ntmps7
  go_upto_region 4 with (go_at_call 8; refine (CN).mono ?_; rintro e w1 ⟨p, C0, rfl, s0⟩)
  go_wp2_with (go_at_call 9; refine (CL _).mono ?_; rintro e w2 ⟨rfl, b2⟩)
  have H1 := Lib.hid (s0.below b2)
  clear s0 b2 CN d1 d2 hb
  go_loopw [7, 8, 9, 10, 11, 12] (fun i _ _ _ _ _ wr => ∃ (j : Nat) (C : Cs), j ≤ n ∧ i = .int .i64 (j : Nat) ∧ StC N W wr p bud [] C) (fun i _ _ _ _ _ _ => n - (intOf i).toNat)
  case atStart => exact ⟨0, C0, Nat.zero_le _, rfl, H1.out⟩
  case round =>
    obtain ⟨j, C, hj, rfl, hst⟩ := hrel
    have HS := Lib.hid hst
    clear hst
    rcases Nat.lt_or_ge j n with hlt | hge
    · rcases Nat.lt_or_ge j 60 with h60 | h60
      · have e60 : decide ((j : Int) < 60) = true := by simp; omega
        have hjL : j < L.length := by rw [← HNL.out]; exact hlt
        have hjl : j < L.length := by omega
        obtain ⟨r, hr0⟩ : ∃ r, r = L[j]'hjl := ⟨_, rfl⟩
        have hrj : L[j]? = some r := by rw [hr0]; exact List.getElem?_eq_getElem _
        have hok := HL.out.2 r (by rw [hr0]; exact List.getElem_mem hjl)
        obtain ⟨b, o, rfl, hb, hrg⟩ := lrL_range HL.out.1 hrj
        obtain ⟨m, hmm⟩ : ∃ m, m = r.m.length := ⟨_, rfl⟩
        rw [← hmm] at hrg
        have hr : wr.rangeAt b (o + j * 11) #[.int .i64 r.kd, .int .i64 r.k.1, .int .i64 r.k.2.1, .int .i64 r.k.2.2.1, .int .i64 r.k.2.2.2, .int .i64 r.a.x0, .int .i64 r.a.y0, .int .i64 r.a.x1, .int .i64 r.a.y1, .slice r.am m r.mc, .int .i64 r.n].toList := fun jj v hv => (HS.out.2.1.cell (p := ⟨b, o + j * 11 + jj, none⟩) (by rw [HN.out]; exact hb)).trans (hrg jj v hv)
        have HR0 := Lib.hid (Blk.new wr 41 #[.int .i64 0, .int .i64 0, .int .i64 0, .int .i64 0, .int .i64 0, .int .i64 0, .int .i64 0, .int .i64 0, .int .i64 0, .slice none 0 0, .int .i64 0])
        have HOK := Lib.hid (And.intro hok hmm)
        clear hr0 hrj hok hrg hmm hjl
        go_upto_region 10 with (first
          | (refine wpList_load_mid rfl 41 (.tmp 47) (by with_reducible rfl) b (o + j * 11) (by rfl) #[.int .i64 r.kd, .int .i64 r.k.1, .int .i64 r.k.2.1, .int .i64 r.k.2.2.1, .int .i64 r.k.2.2.2, .int .i64 r.a.x0, .int .i64 r.a.y0, .int .i64 r.a.x1, .int .i64 r.a.y1, .slice r.am m r.mc, .int .i64 r.n].toList _ hr Try.underlying41 rfl ctInfoL ?_)
          | (refine wpList_store_row rfl 41 (.tmp 8) (.tmp 48) (by with_reducible rfl) wr.heap.size #[.int .i64 r.kd, .int .i64 r.k.1, .int .i64 r.k.2.1, .int .i64 r.k.2.2.1, .int .i64 r.k.2.2.2, .int .i64 r.a.x0, .int .i64 r.a.y0, .int .i64 r.a.x1, .int .i64 r.a.y1, .slice r.am m r.mc, .int .i64 r.n] (by rfl) (by rfl) 41 #[.int .i64 0, .int .i64 0, .int .i64 0, .int .i64 0, .int .i64 0, .int .i64 0, .int .i64 0, .int .i64 0, .int .i64 0, .slice none 0 0, .int .i64 0] (by exact HR0.out) ctInfoL rfl (by simp [Value.oneCell']) ?_))
        obtain ⟨w1, hw1⟩ : ∃ w1, w1 = (wr.alloc (.cells #[.int .i64 0, .int .i64 0, .int .i64 0, .int .i64 0, .int .i64 0, .int .i64 0, .int .i64 0, .int .i64 0, .int .i64 0, .slice none 0 0, .int .i64 0] 41)).setRow wr.heap.size #[.int .i64 r.kd, .int .i64 r.k.1, .int .i64 r.k.2.1, .int .i64 r.k.2.2.1, .int .i64 r.k.2.2.2, .int .i64 r.a.x0, .int .i64 r.a.y0, .int .i64 r.a.x1, .int .i64 r.a.y1, .slice r.am m r.mc, .int .i64 r.n] := ⟨_, rfl⟩
        rw [← hw1]
        have B1 : Below wr.heap.size wr w1 := hw1 ▸ below_setRow (g := wr.heap.size) (below_a1 _ _) (Nat.le_refl _) _
        obtain ⟨q, hq⟩ : ∃ q, q = wr.heap.size := ⟨_, rfl⟩
        rw [← hq]
        have K : Blk w1 q 41 #[.int .i64 r.kd, .int .i64 r.k.1, .int .i64 r.k.2.1, .int .i64 r.k.2.2.1, .int .i64 r.k.2.2.2, .int .i64 r.a.x0, .int .i64 r.a.y0, .int .i64 r.a.x1, .int .i64 r.a.y1, .slice r.am m r.mc, .int .i64 r.n] := by rw [hw1, hq]; exact blk_row HR0.out _
        have HK := Lib.hid K
        have HB1 := Lib.hid B1
        have HQ := Lib.hid hq
        clear hw1 B1 hr hq
        have t0 := K.cell 0; have t1 := K.cell 1; have t2 := K.cell 2; have t3 := K.cell 3; have t4 := K.cell 4; have t5 := K.cell 5; have t6 := K.cell 6; have t7 := K.cell 7; have t8 := K.cell 8; have t9 := K.cell 9; have t10 := K.cell 10; have tl := K.lt; simp only [List.getElem?_toArray, List.getElem?_cons_succ, List.getElem?_cons_zero] at t0 t1 t2 t3 t4 t5 t6 t7 t8 t9 t10
        by_cases hbig : 16384 < m
        · go_wp2
          go_roundw
          case rel => exact ⟨j + 1, C, by omega, by go_num, HS.out.below HB1.out⟩
          case measure => simp [intOf]; omega
        · have PP := stput_low N p W w1 bud [] C r (by rw [HN.out]; exact HOK.out.1) HN.out (HS.out.below HB1.out)
          rw [lputB_none HBU.out.2, lputL_none HBU.out.2, ← HOK.out.2] at PP
          have HPP := Lib.hid PP
          clear PP
          go_upto_region 12 with (go_at_call 16; refine (HPP.out).mono ?_; rintro e w2 ⟨C1, rfl, s1, m1⟩)
          have K2 := HK.out.only m1.1 ((HS.out.below HB1.out).1.v.other HK.out (by decide) (by decide) (by decide))
          have HK2 := Lib.hid K2
          have HS1 := Lib.hid s1
          clear s1 m1 t0 t1 t2 t3 t4 t5 t6 t7 t8 t9 t10 tl K
          have t0 := K2.cell 0; have t1 := K2.cell 1; have t2 := K2.cell 2; have t3 := K2.cell 3; have t4 := K2.cell 4; have t5 := K2.cell 5; have t6 := K2.cell 6; have t7 := K2.cell 7; have t8 := K2.cell 8; have t9 := K2.cell 9; have t10 := K2.cell 10; have tl := K2.lt; simp only [List.getElem?_toArray, List.getElem?_cons_succ, List.getElem?_cons_zero] at t0 t1 t2 t3 t4 t5 t6 t7 t8 t9 t10
          have CK := fun W => rckmask_any r.a r.am m r.mc W
          go_upto_region 14 with (go_at_call 15; refine (CK _).mono ?_; rintro e w3 ⟨rfl, b3⟩; have K3 := HK2.out.below b3; have t0 := K3.cell 0; have t1 := K3.cell 1; have t2 := K3.cell 2; have t3 := K3.cell 3; have t4 := K3.cell 4; have t5 := K3.cell 5; have t6 := K3.cell 6; have t7 := K3.cell 7; have t8 := K3.cell 8; have t9 := K3.cell 9; have t10 := K3.cell 10; have tl := K3.lt; simp only [List.getElem?_toArray, List.getElem?_cons_succ, List.getElem?_cons_zero] at t0 t1 t2 t3 t4 t5 t6 t7 t8 t9 t10; have GM := stget_miss N p W w3 bud [] C1 r.k HOK.out.1.2.2.2.2 (HS1.out.below b3) rfl)
          go_upto_region 15 with (first
            | (go_at_call 13; refine (GM).mono ?_; rintro e w4 ⟨rfl, s4, b4⟩; have HR4 := Lib.hid (Blk.new w4 37 #[.int .i64 0, .int .i64 0, .int .i64 0, .int .i64 0, .slice none 0 0]))
            | (refine wpList_store_row rfl 37 (.tmp 11) (.tmp 76) (by with_reducible rfl) w4.heap.size #[.int .i64 0, .int .i64 0, .int .i64 0, .int .i64 0, .slice none 0 0] (by rfl) (by rfl) 37 #[.int .i64 0, .int .i64 0, .int .i64 0, .int .i64 0, .slice none 0 0] (by exact HR4.out) mkInfoL rfl (by simp [Value.oneCell']) ?_))
          obtain ⟨w5, hw5⟩ : ∃ w5, w5 = (w4.alloc (.cells #[.int .i64 0, .int .i64 0, .int .i64 0, .int .i64 0, .slice none 0 0] 37)).setRow w4.heap.size #[.int .i64 0, .int .i64 0, .int .i64 0, .int .i64 0, .slice none 0 0] := ⟨_, rfl⟩
          rw [← hw5]
          have B5 : Below w4.heap.size w4 w5 := hw5 ▸ below_setRow (g := w4.heap.size) (below_a1 _ _) (Nat.le_refl _) _
          have s5 := s4.below B5
          have K5 := (K3.below b4).below B5
          have LL := lrlen_any N p _ w5 s5.1.v
          have HH := lrheld_any N p _ w5 s5.1.v
          rw [s5.1.sum.2.2.2.2] at LL
          rw [s5.1.sum.1] at HH
          have DD := stdrop_any N p W w5 bud [] _ r.k HOK.out.1.2.2.2.2 s5
          rw [show hasE r.k [] = false from rfl, show dropE r.k [] = [] from rfl] at DD
          clear t0 t1 t2 t3 t4 t5 t6 t7 t8 t9 t10 tl K2 K3 s4 b4 b3 hw5 B5 s5 GM
          have t0 := K5.cell 0; have t1 := K5.cell 1; have t2 := K5.cell 2; have t3 := K5.cell 3; have t4 := K5.cell 4; have t5 := K5.cell 5; have t6 := K5.cell 6; have t7 := K5.cell 7; have t8 := K5.cell 8; have t9 := K5.cell 9; have t10 := K5.cell 10; have tl := K5.lt; simp only [List.getElem?_toArray, List.getElem?_cons_succ, List.getElem?_cons_zero] at t0 t1 t2 t3 t4 t5 t6 t7 t8 t9 t10
          go_wp2_with (first
            | (go_at_call 21; refine (LL).mono ?_; rintro e wl ⟨rfl, rfl⟩)
            | (go_at_call 22; refine (HH).mono ?_; rintro e wl ⟨rfl, rfl⟩)
            | (go_at_call 20; refine (DD).mono ?_; rintro e w6 ⟨C6, rfl, s6, m6⟩))
          go_roundw
          case rel => exact ⟨j + 1, C6, by omega, by go_num, s6⟩
          case measure => simp [intOf]; omega
      · have e60 : decide ((j : Int) < 60) = false := by simp; omega
        go_wp2_with (go_at_call 10; refine (CM _).mono ?_; rintro e wm ⟨rfl, rfl⟩)
        go_ret
        refine ⟨rfl, ?_⟩
        have := HS.out.2.1
        rw [HN.out] at this
        exact this
    · go_wp2_with (go_at_call 10; refine (CM _).mono ?_; rintro e wm ⟨rfl, rfl⟩)
      go_ret
      refine ⟨rfl, ?_⟩
      have := HS.out.2.1
      rw [HN.out] at this
      exact this
theorem walk (bud : Int) (_ : (Lit.int .i64 bud).wf = true) (A : Option Addr) (c : Nat) (L : List LRec) (hc : L.length ≤ c) (hm : c ≤ 9223372036854775807) (hl : Lists W W.heap.size A (L.flatMap lrL)) (hs : ∀ r ∈ L, LrOk W W.heap.size r) : Calls Try.prog 7 #[.int .i64 bud, .slice A L.length c] W fun e w' => e = .returned (.bool true) ∧ Below W.heap.size W w' := by
  by_cases h : 0 ≤ bud ∧ bud ≤ 63
  · exact walk_main bud h A c L hc hm hl hs
  · have CL := fun W => lives25_any W
    clear hl hs
    by_cases h1 : bud < 0
    · go_enter Try.func7, Try.ntmps7
      go_wp2_with (go_at_call 9; refine (CL _).mono ?_; rintro e w2 ⟨rfl, b2⟩)
      go_ret
      exact ⟨rfl, b2⟩
    · have h2 : 63 < bud := by omega
      clear h
      go_enter Try.func7, Try.ntmps7
      go_wp2_with (go_at_call 9; refine (CL _).mono ?_; rintro e w2 ⟨rfl, b2⟩)
      go_ret
      exact ⟨rfl, b2⟩

set_option linter.unusedVariables false in
set_option maxRecDepth 100000 in
theorem lifted (os : Os) (started : os.Started) (H : Type) (enc : TypeId × Value → H) :
    ReturnsInHanded {} Try.checked os 7 .any (Rows.lruZeroSpec.pre6 enc Try.prog Try.f7 Rows.lruZeroRow.domain false) (Rows.lruZeroSpec.post enc Try.prog Try.f7 false true false false) := by
  refine returnsInHanded_of_change (C := Try.checked) Try.own started (by kernel_rfl) Try.func7
    (ChangeSpec.witness6 (enc := enc) (C := Try.checked) false ⟨#[], #[.int .i64 0, .slice none 0 0], []⟩ 8 (by kernel_rfl) (by kernel_rfl) (by kernel_rfl) (by kernel_rfl)) ?_
  intro W base args ds gs before hval0 hW hcnd _
  have hval : ∀ (j : Nat) t v, Try.f7.params[j]? = some t → args[j]? = some v → Value.okWide Try.prog W .any base t v := hval0
  have hW' := hW
  obtain ⟨p, q, hA0, hV, rfl, hfz, hnd⟩ := hW
  have hA : DataW.TrodAll enc Try.prog W 0 (fun _ => true) true Try.f7.params.toList args.toList ds p := hA0
  rw [Try.params7] at hA hval
  obtain ⟨v0, vs0, d0, ds0, p0, q0, hargs, rfl, rfl, h0, r0⟩ := trodAll_cons hA
  obtain ⟨v1, vs1, d1, ds1, p1, q1, rfl, rfl, rfl, h1, r1⟩ := trodAll_cons r0
  obtain ⟨rfl, rfl, rfl⟩ := trodAll_nil r1
  obtain rfl : args = #[v0, v1] := by cases args; simp_all
  obtain ⟨rfl, rfl⟩ := trodVars_none hV
  obtain ⟨a0, rfl, rfl, rfl, w0⟩ := open_int Try.underlying3 (hval 0 3 v0 rfl rfl) h0
  obtain ⟨A1, c1, L1, rfl, k1, m1, l1, s1⟩ := open_lcalls (hval 1 22 v1 rfl rfl) h1
  clear hA0 hval0
  simp only [List.append_nil] at hW'
  refine (walk (W := W) a0 w0 A1 c1 L1 k1 m1 l1 s1).mono fun e W' ⟨he, hg⟩ => ?_
  subst he
  exact ⟨_, rfl, law_post Try.laidOut rfl Try.underlying4 (by kernel_rfl) rfl rfl rfl rfl hW' hg⟩

theorem over : Rows.lruZeroRow.holds Try.pinned (OpenSpec.ofChange Rows.lruZeroSpec) :=
  OpenClaim.holds_of_wide 7 Try.f7 rfl rfl rfl rfl rfl rfl rfl ⟨rfl, rfl, rfl, rfl, rfl⟩ rfl rfl rfl rfl rfl (by kernel_rfl) Try.func7 (by kernel_rfl)
    (of_decide_eq_true (by kernel_rfl)) (by unfold Func.isWrapper; first | (rw [if_pos (by decide +kernel)]; kernel_rfl) | (rw [if_neg (by decide +kernel)]; exact ⟨rfl, rfl⟩))
    (fun os started H enc _ => lifted os started H enc)

theorem proved : Rows.LruZeroSaid :=
  over

end Go.Proofs.Ytaaboochologaaa.lruZero
