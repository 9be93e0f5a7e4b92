/- Part 16 of the proof: LrAl. -/
import Derived.Test.YtaaboochologaaaM14LruDoes

namespace Go.Proofs.Ytaaboochologaaa
open Go Go.RowKit
set_option linter.unusedVariables false
set_option linter.unusedSimpArgs false
variable {W : World}
theorem rcInfoL : (Try.prog.info? 32).map (·.size) = some 2 := by kernel_rfl
theorem wrapS1 (n : Nat) (h : n ≤ 524288) : wrap64 ((n : Int) - 1) + 1 = (n : Int) := by unfold wrap64; omega
theorem find_in : ∀ {L : List En} {en : En}, (L.map fun e => e.1).Nodup → en ∈ L → L.find? (isK en.1) = some en
  | [], en, _, h => by simp at h
  | e :: L, en, hd, h => by
    rw [List.map_cons] at hd
    have hd := List.nodup_cons.1 hd
    rw [List.find?_cons]
    rcases List.mem_cons.1 h with rfl | h1
    · simp [isK]
    · have hne : e.1 ≠ en.1 := fun hk => hd.1 (List.mem_map.2 ⟨en, h1, hk.symm⟩)
      have : isK en.1 e = false := by simp [isK, hne]
      rw [this]
      exact find_in hd.2 h1
theorem StC.kyw {i : Inhabited BanT} {N p : Nat} {w0 w : World} {bud : Int} {L : List En} {C : Cs} (h : @StC i N w0 w p bud L C) {en : En} (hm : en ∈ L) : kyW en.1 := by
  obtain ⟨⟨ord, h1, rfl, h3⟩, h4⟩ := h
  obtain ⟨i, hi, rfl⟩ := List.mem_map.1 hm
  exact h1.i.ky i hi
theorem BothC.base {N p q : Nat} {W1 w : World} {bud : Int} {L : List En} (h : BothC N W1 w p q bud L) : Below N W1 w := by
  obtain ⟨C, E, lv, h1, _⟩ := h
  exact h1.2.1
theorem do_any (N p q : Nat) (W1 w : World) (bud : Int) (L : List En) (r : LRec) (m : Nat) (h : BothC N W1 w p q bud L) (hk : kyW r.k) (hl : Lists W1 N r.am r.m) (h8 : Bytes8 r.m) (hm : m = r.m.length) (hm2 : m ≤ 16384) : Calls Try.prog 11 #[.pointer (some ⟨p, 0, none⟩), .pointer (some ⟨q, 0, none⟩), .agg #[.int .i64 r.kd, .int .i64 r.k.1, .int .i64 r.k.2.1, .int .i64 r.k.2.2.1, .int .i64 r.k.2.2.2, .int .i64 r.a.x0, .int .i64 r.a.y0, .int .i64 r.a.x1, .int .i64 r.a.y1, .slice r.am m r.mc, .int .i64 r.n]] w fun e w' => ∃ bud' L', e = .returned (.bool true) ∧ BothC N W1 w' p q bud' L' := by
  by_cases h1 : r.kd = 1
  · cases hf : L.find? (isK r.k) with
    | none => exact do_getno N p q W1 w bud L r m h hk h1 (fun e he hek => by have := List.find?_eq_none.1 hf e he; simp [isK, hek] at this)
    | some en => exact do_getyes N p q W1 w bud L r m h hk h1 en hf
  · by_cases h2 : r.kd = 2
    · exact do_put N p q W1 w bud L r m h hk h2 hl h8 hm.symm hm2
    · by_cases h3 : r.kd = 3
      · exact do_drop N p q W1 w bud L r m h hk h3
      · by_cases h4 : r.kd = 4
        · exact do_resize N p q W1 w bud L r m h h4
        · exact do_none N p q W1 w bud L r m h h1 h2 h3 h4
set_option maxRecDepth 100000 in
set_option maxHeartbeats 8000000 in
theorem lrdoes_main (bud : Int) (hb : inZ 0 16777216 bud = true) (A : Option Addr) (c : Nat) (L : List LRec) (hc : L.length ≤ c) (hm : c ≤ 9223372036854775807) (hl : Lists W W.heap.size A (L.flatMap lrL)) (hs : ∀ r ∈ L, LrOk W W.heap.size r) : Calls Try.prog 3 #[.int .i64 bud, .slice A L.length c] W fun e w' => e = .returned (.bool true) ∧ Below W.heap.size W w' := by
  obtain ⟨N, hN⟩ : ∃ N, N = W.heap.size := ⟨_, rfl⟩
  have CN := stnew_any bud hb N W W (by rw [hN]; exact Below.refl _ _) (by omega)
  have CL := fun W => lives25_any W
  have CM := fun W => rlmay_any bud W
  rw [hb] at CM
  have HL := Lib.hid (And.intro hl hs)
  have HN := Lib.hid hN
  obtain ⟨n, hn⟩ : ∃ n, n = L.length := ⟨_, rfl⟩
  have hnc : n ≤ 9223372036854775807 := by omega
  have hbb := inB_in hb
  rw [← hn]
  have HNL := Lib.hid hn
  have HBB := Lib.hid hbb
  clear hl hs hN hn hb hbb
  go_enter Try.func3, Try.ntmps3
  go_upto_region 2 with (go_at_call 8; refine (CN).mono ?_; rintro e w1 ⟨p, C0, rfl, s0⟩)
  have HS00 := Lib.hid s0
  clear s0 CN
  go_upto_region 9 with (first
    | (go_at_call 9; refine (CL _).mono ?_; rintro e w2 ⟨rfl, b2⟩)
    | (go_at_call 10; refine (CM _).mono ?_; rintro e w22 ⟨rfl, rfl⟩))
  obtain ⟨q, hq⟩ : ∃ q, q = w2.heap.size := ⟨_, rfl⟩
  have KQ := Blk.new w2 32 #[.int .i64 bud, .slice none 0 0]
  obtain ⟨w3, hw3⟩ : ∃ w3, w3 = w2.alloc (.cells #[.int .i64 bud, .slice none 0 0] 32) := ⟨_, rfl⟩
  have B3 : Below w2.heap.size w2 w3 := hw3 ▸ below_a1 _ _
  rw [← hw3] at KQ ⊢
  rw [← hq] at KQ ⊢
  have st3 := (HS00.out.below b2).below B3
  have hNq : N ≤ q := by have := HS00.out.2.2.2; have := b2.size; omega
  have BC : BothC N W w3 p q bud [] := ⟨C0, [], _, st3, ⟨KQ, ⟨rfl, .inl ⟨rfl, rfl⟩⟩, hNq, st3.2.1, fun e h => by simp at h⟩, rfl, HBB.out.1⟩
  have HBC := Lib.hid BC
  clear hw3 B3 hq KQ b2 st3 hNq BC CM CL
  go_upto_region 10 with fail
  go_loopw [8] (fun i wr => ∃ (j : Nat) (bud' : Int) (L' : List En), j ≤ n ∧ i = .int .i64 (j : Nat) ∧ BothC N W wr p q bud' L') (fun i _ => n - (intOf i).toNat)
  case atStart => exact ⟨0, bud, [], Nat.zero_le _, rfl, HBC.out⟩
  case round =>
    obtain ⟨j, bud', L', hj, rfl, hbc⟩ := hrel
    have HB := Lib.hid hbc
    clear hbc
    by_cases hrun : j < n ∧ j < 100
    · obtain ⟨hlt, h100⟩ := hrun
      have e100 : decide ((j : Int) < 100) = true := by simp; omega
      have hjL : j < L.length := by rw [← HNL.out]; exact hlt
      have hjl : j < L.length := by omega
      obtain ⟨r, hr0⟩ : ∃ r, r = L[j]'hjl := ⟨_, rfl⟩
      have hrj : L[j]? = some r := by rw [hr0]; exact List.getElem?_eq_getElem _
      have hok := HL.out.2 r (by rw [hr0]; exact List.getElem_mem hjl)
      obtain ⟨b, o, rfl, hb, hrg⟩ := lrL_range HL.out.1 hrj
      obtain ⟨m, hmm⟩ : ∃ m, m = r.m.length := ⟨_, rfl⟩
      rw [← hmm] at hrg
      have hr : wr.rangeAt b (o + j * 11) #[.int .i64 r.kd, .int .i64 r.k.1, .int .i64 r.k.2.1, .int .i64 r.k.2.2.1, .int .i64 r.k.2.2.2, .int .i64 r.a.x0, .int .i64 r.a.y0, .int .i64 r.a.x1, .int .i64 r.a.y1, .slice r.am m r.mc, .int .i64 r.n].toList := fun jj v hv => (HB.out.base.cell (p := ⟨b, o + j * 11 + jj, none⟩) (by rw [HN.out]; exact hb)).trans (hrg jj v hv)
      have t9 : wr.cell? ⟨b, o + j * 11 + 9, none⟩ = some (.slice r.am m r.mc) := hr 9 _ rfl
      have hbl : b < wr.heap.size := Nat.lt_of_lt_of_le hb HB.out.base.size
      have HOK := Lib.hid (And.intro hok hmm)
      clear hr0 hrj hok hrg hmm hjl hb
      by_cases hbig : 16384 < m
      · go_wp2
        go_roundw
        case rel => exact ⟨j + 1, bud', L', by omega, by go_num, HB.out⟩
        case measure => simp [intOf]; omega
      · have DD := do_any N p q W wr bud' L' r m HB.out HOK.out.1.2.2.2.2 (by rw [HN.out]; exact HOK.out.1.1) HOK.out.1.2.1 HOK.out.2 (by omega)
        go_wp2_with (first
          | (refine wpList_load_mid rfl 41 (.tmp 59) (by with_reducible rfl) b (o + j * 11) (by rfl) #[.int .i64 r.kd, .int .i64 r.k.1, .int .i64 r.k.2.1, .int .i64 r.k.2.2.1, .int .i64 r.k.2.2.2, .int .i64 r.a.x0, .int .i64 r.a.y0, .int .i64 r.a.x1, .int .i64 r.a.y1, .slice r.am m r.mc, .int .i64 r.n].toList _ hr Try.underlying41 rfl ctInfoZ ?_)
          | (go_at_call 11; refine (DD).mono ?_; rintro e w4 ⟨bud4, L4, rfl, C4, E4, lv4, s4, rf4, he4, hle4⟩)
          | (go_at_call 12; refine (looks_any N p q W w4 bud4 L4 C4 E4 lv4 s4 rf4 he4 hle4).mono ?_; rintro e w5 ⟨rfl, b5⟩))
        go_roundw
        case rel => exact ⟨j + 1, bud4, L4, by omega, by go_num, C4, E4, lv4, s4.below b5, rf4.below b5, he4, hle4⟩
        case measure => simp [intOf]; omega
    · rcases Nat.lt_or_ge j n with hlt | hge
      · have e100 : decide ((j : Int) < 100) = false := by simp; omega
        go_upto_region 15 with fail
        obtain ⟨C, E, lv, s0, rf0, he, hle⟩ := HB.out
        obtain ⟨nE, hnE⟩ : ∃ nE, nE = E.length := ⟨_, rfl⟩
        obtain ⟨A1, cc1, hlv, _, _⟩ := own_lists rf0.own
        rw [← hnE] at hlv
        subst hlv
        have c1 := rf0.blk.cell 1
        have cl := rf0.blk.lt
        simp only [List.getElem?_toArray, List.getElem?_cons_succ, List.getElem?_cons_zero] at c1
        have hsm : nE ≤ 524288 := by
          have h1 := sumE_len L'
          have h2 := s0.1.sum.2.1
          rw [← he, List.length_map, ← hnE] at h1
          rw [← he] at h2
          omega
        have EW := Lib.hid (wrapS1 nE hsm)
        have HE := Lib.hid (And.intro he (And.intro hnE (And.intro hle hsm)))
        have H0 := Lib.hid (And.intro s0 rf0)
        clear s0 rf0 he hnE hle hsm
        go_upto_region 16 with fail
        clear c1 cl
        go_loopw [9, 10, 11] (fun i _ _ wr => ∃ (k : Nat) (x : Int) (C1 : Cs) (Lk : List En), k ≤ nE ∧ i = .int .i64 x ∧ x + 1 = (k : Int) ∧ StC N W wr p bud' Lk C1 ∧ RfS W wr N q bud' E (.slice A1 nE cc1) ∧ (∀ en ∈ L', en ∈ Lk)) (fun i _ _ _ => (intOf i + 1).toNat)
        case atStart => exact ⟨nE, _, C, L', Nat.le_refl _, rfl, EW.out, H0.out.1, H0.out.2, fun en h => h⟩
        case round =>
          obtain ⟨k, x, C1, Lk, hk, rfl, hx, hst, hrf, hall⟩ := hrel
          have HS := Lib.hid (And.intro hst (And.intro hrf hall))
          rcases Nat.eq_zero_or_pos k with h0 | h0
          · obtain rfl : x = -1 := by omega
            clear hst hrf hall hx h0 hk
            go_wp2
            go_ret
            refine ⟨rfl, ?_⟩
            have := HS.out.1.2.1
            rw [HN.out] at this
            exact this
          · obtain ⟨y, hy⟩ : ∃ y, k = y + 1 := ⟨k - 1, by omega⟩
            obtain rfl : x = (y : Int) := by omega
            have hyE : y < E.length := by rw [← HE.out.2.1]; omega
            obtain ⟨ee, hge⟩ : ∃ e, E[y]? = some e := ⟨_, List.getElem?_eq_getElem hyE⟩
            have hin : ren ee ∈ L' := by rw [← HE.out.1]; exact List.mem_map.2 ⟨ee, List.mem_of_getElem? hge, rfl⟩
            have hf := find_in hst.1.keys (hall _ hin)
            obtain ⟨Ar, cr, hrv, hlr, h8r⟩ := hrf.ok ee (List.mem_of_getElem? hge)
            obtain ⟨mx, hmx⟩ : ∃ mx, mx = ee.bs.length := ⟨_, rfl⟩
            obtain ⟨g, c1, hsl, hcc, hgl, hgq, hcell⟩ := hrf.at hge
            rw [← HE.out.2.1] at hsl
            obtain ⟨rfl, rfl⟩ : A1 = some ⟨g, 0, none⟩ ∧ cc1 = c1 := by simpa using hsl
            have HX := Lib.hid (And.intro hge (And.intro hin (And.intro hlr (And.intro h8r (And.intro hrv hmx)))))
            have hky : kyW ee.k := hst.kyw (hall _ hin)
            have GG := stget_hit N p W _ bud' Lk C1 ee.k hky _ hst hf
            dsimp only [ren] at GG
            rw [← hmx] at GG
            have c1 := hrf.blk.cell 1
            have cl := hrf.blk.lt
            simp only [List.getElem?_toArray, List.getElem?_cons_succ, List.getElem?_cons_zero] at c1
            have f0 := hcell 0 _ rfl; rw [Nat.add_zero] at f0; have f1 := hcell 1 _ rfl; have f2 := hcell 2 _ rfl; have f3 := hcell 3 _ rfl
            have dy : decide ((y : Int) < (nE : Int)) = true := by simp; omega
            have hyn : y < nE := by omega
            clear hst hrf hall hx hyE hge hin hf hrv hlr h8r hmx hsl hcc hcell hgq hky
            go_upto_region 19 with (first
              | (go_at_call 13; refine (GG).mono ?_; rintro e w4 ⟨g4, C4, rfl, gb4, gs4, s4, m4⟩; have HR4 := Lib.hid (Blk.new w4 37 #[.int .i64 0, .int .i64 0, .int .i64 0, .int .i64 0, .slice none 0 0]))
              | (refine wpList_store_row rfl 37 (.tmp 10) (.tmp 90) (by with_reducible rfl) w4.heap.size #[.int .i64 ee.bx.x0, .int .i64 ee.bx.y0, .int .i64 ee.bx.x1, .int .i64 ee.bx.y1, .slice (some ⟨g4, 0, none⟩) mx mx] (by rfl) (by rfl) 37 #[.int .i64 0, .int .i64 0, .int .i64 0, .int .i64 0, .slice none 0 0] (by exact HR4.out) mkInfoL rfl (by simp [Value.oneCell']) ?_))
            obtain ⟨w5, hw5⟩ : ∃ w5, w5 = (w4.alloc (.cells #[.int .i64 0, .int .i64 0, .int .i64 0, .int .i64 0, .slice none 0 0] 37)).setRow w4.heap.size #[.int .i64 ee.bx.x0, .int .i64 ee.bx.y0, .int .i64 ee.bx.x1, .int .i64 ee.bx.y1, .slice (some ⟨g4, 0, none⟩) mx mx] := ⟨_, rfl⟩
            rw [← hw5]
            have B5 : Below w4.heap.size w4 w5 := hw5 ▸ below_setRow (g := w4.heap.size) (below_a1 _ _) (Nat.le_refl _) _
            have K5 : Blk w5 w4.heap.size 37 #[.int .i64 ee.bx.x0, .int .i64 ee.bx.y0, .int .i64 ee.bx.x1, .int .i64 ee.bx.y1, .slice (some ⟨g4, 0, none⟩) mx mx] := by rw [hw5]; exact blk_row HR4.out _
            have rf5 := (HS.out.2.1.mod HS.out.1.cv m4 HS.out.1.2.2.1).below B5
            have s5 := s4.below B5
            have hl5 : Lists w5 w5.heap.size Ar ee.bs := listsB (by have := HX.out.2.2.1; rw [HN.out] at this; exact this) (by have := s5.2.1; rw [HN.out] at this; exact this)
            have HSS := Lib.hid (fun (V : World) (hV : Below w5.heap.size w5 V) => rsame_yes ee.bx (some ⟨g4, 0, none⟩) Ar mx mx cr ee.bs V (lists_blkL ((gb4.below B5).below hV)) (listsB hl5 hV) HX.out.2.2.2.2.2.symm HX.out.2.2.2.1)
            obtain ⟨g', cc', hsl, _, hgl5, _, hcell⟩ := rf5.at HX.out.1
            rw [← HE.out.2.1] at hsl
            obtain ⟨rfl, rfl⟩ : g = g' ∧ cc1 = cc' := by simpa using hsl
            have c15 := rf5.blk.cell 1
            have cl5 := rf5.blk.lt
            simp only [List.getElem?_toArray, List.getElem?_cons_succ, List.getElem?_cons_zero] at c15
            have f4 := hcell 4 _ rfl; have f5 := hcell 5 _ rfl; have f6 := hcell 6 _ rfl; have f7 := hcell 7 _ rfl; have f8 := hcell 8 _ rfl
            rw [HX.out.2.2.2.2.1, ← HX.out.2.2.2.2.2] at f8
            have u0 := K5.cell 0; have u1 := K5.cell 1; have u2 := K5.cell 2; have u3 := K5.cell 3; have u4 := K5.cell 4; have ul := K5.lt; simp only [List.getElem?_toArray, List.getElem?_cons_succ, List.getElem?_cons_zero] at u0 u1 u2 u3 u4
            have HY := Lib.hid (And.intro s5 rf5)
            have EW2 := Lib.hid (wrapS1 y (by have := HE.out.2.2.2; omega))
            have HDD := Lib.hid (fun (V : World) (hV : Below w5.heap.size w5 V) => And.intro ((hV.cell (p := ⟨q, 1, none⟩) cl5).trans c15) (And.intro ((hV.cell (p := ⟨g, y * 9 + 4, none⟩) hgl5).trans f4) (And.intro ((hV.cell (p := ⟨g, y * 9 + 5, none⟩) hgl5).trans f5) (And.intro ((hV.cell (p := ⟨g, y * 9 + 6, none⟩) hgl5).trans f6) (And.intro ((hV.cell (p := ⟨g, y * 9 + 7, none⟩) hgl5).trans f7) (And.intro ((hV.cell (p := ⟨g, y * 9 + 8, none⟩) hgl5).trans f8) (And.intro ((hV.cell (p := ⟨w4.heap.size, 0, none⟩) ul).trans u0) (And.intro ((hV.cell (p := ⟨w4.heap.size, 1, none⟩) ul).trans u1) (And.intro ((hV.cell (p := ⟨w4.heap.size, 2, none⟩) ul).trans u2) (And.intro ((hV.cell (p := ⟨w4.heap.size, 3, none⟩) ul).trans u3) (And.intro ((hV.cell (p := ⟨w4.heap.size, 4, none⟩) ul).trans u4) (And.intro (Nat.lt_of_lt_of_le cl5 hV.size) (And.intro (Nat.lt_of_lt_of_le hgl5 hV.size) (Nat.lt_of_lt_of_le ul hV.size))))))))))))))
            clear hw5 B5 K5 s4 m4 s5 rf5 hl5 gb4 gs4 GG hsl hcell c1 cl f0 f1 f2 f3 hgl c15 f4 f5 f6 f7 f8 u0 u1 u2 u3 u4 cl5 hgl5 ul
            have hI : Below w5.heap.size w5 w5.drew := (Below.refl _ _).drew
            refine wp_region_chain (fun V => Below w5.heap.size w5 V) [(0, false), (1, false), (2, false), (3, false), (4, false), (5, false), (6, false), (7, false), (8, false), (9, false), (10, false), (11, false), (12, true), (13, false), (14, false)] (by kernel_rfl) (by kernel_rfl) hI ?_
            repeat (first
              | (refine ChainL.skip (o := ?_) ?_ ?_ ?_; rotate_left; (focus (first | (simp only [List.getElem?_toArray, List.getElem?_cons_succ, List.getElem?_cons_zero]; with_reducible rfl) | (simp only [List.getElem?_toArray, List.getElem?_cons_zero]; with_reducible rfl))); (focus rfl); simp only [Act.put, List.setIfInBounds_toArray, List.set_cons_zero, List.set_cons_succ])
              | (refine ChainL.val (o := ?_) (v := ?_) ?_ ?_ ?_ ?_ ?_; rotate_left 2; (focus (first | (simp only [List.getElem?_toArray, List.getElem?_cons_succ, List.getElem?_cons_zero]; with_reducible rfl) | (simp only [List.getElem?_toArray, List.getElem?_cons_zero]; with_reducible rfl))); (focus (intro _ _ h; cases h)); (focus rfl); (focus (intro w' hI; obtain ⟨z1, f4, f5, f6, f7, f8, x0, x1, x2, x3, x4, lq, lg, lu⟩ := HDD.out _ hI; go_simp <;> with_reducible rfl)); simp only [Act.put, List.setIfInBounds_toArray, List.set_cons_zero, List.set_cons_succ]))
            refine ChainL.call (o := ?_) (f := ?_) (args := ?_) ?_ ?_ ?_ ?_
            rotate_left 3
            (focus (first | (simp only [List.getElem?_toArray, List.getElem?_cons_succ, List.getElem?_cons_zero]; with_reducible rfl) | (simp only [List.getElem?_toArray, List.getElem?_cons_zero]; with_reducible rfl)))
            (focus rfl)
            (focus (go_simp; (constructor <;> with_reducible rfl)))
            with_reducible refine (HSS.out _ hI).mono ?_
            rintro e w6 ⟨rfl, b60⟩
            have b6 : Below w5.heap.size w5 w6 := hI.trans (b60.mono hI.size)
            refine ⟨_, rfl, b6, ?_⟩
            simp only [Act.put, List.setIfInBounds_toArray, List.set_cons_zero, List.set_cons_succ]
            repeat (first
              | (refine ChainL.skip (o := ?_) ?_ ?_ ?_; rotate_left; (focus (first | (simp only [List.getElem?_toArray, List.getElem?_cons_succ, List.getElem?_cons_zero]; with_reducible rfl) | (simp only [List.getElem?_toArray, List.getElem?_cons_zero]; with_reducible rfl))); (focus rfl); simp only [Act.put, List.setIfInBounds_toArray, List.set_cons_zero, List.set_cons_succ])
              | (refine ChainL.val (o := ?_) (v := ?_) ?_ ?_ ?_ ?_ ?_; rotate_left 2; (focus (first | (simp only [List.getElem?_toArray, List.getElem?_cons_succ, List.getElem?_cons_zero]; with_reducible rfl) | (simp only [List.getElem?_toArray, List.getElem?_cons_zero]; with_reducible rfl))); (focus (intro _ _ h; cases h)); (focus rfl); (focus (intro w' hI; obtain ⟨z1, f4, f5, f6, f7, f8, x0, x1, x2, x3, x4, lq, lg, lu⟩ := HDD.out _ hI; go_simp <;> with_reducible rfl)); simp only [Act.put, List.setIfInBounds_toArray, List.set_cons_zero, List.set_cons_succ]))
            refine ChainL.nil ?_
            go_wp2
            go_roundw
            case rel =>
              refine ⟨y, _, C4, _, by omega, rfl, EW2.out, HY.out.1.below b6, HY.out.2.below b6, fun en h => ?_⟩
              by_cases hk2 : en.1 = ee.k
              · have := key_one HS.out.1.1.keys (HS.out.2.2 en h) (HS.out.2.2 _ HX.out.2.1) hk2
                rw [this]
                exact List.mem_cons_self
              · exact List.mem_cons_of_mem _ (by unfold dropE; exact List.mem_filter.2 ⟨HS.out.2.2 en h, by simp [hk2]⟩)
            case measure => simp only [intOf]; rw [EW2.out]; omega

      · go_upto_region 15 with fail
        obtain ⟨C, E, lv, s0, rf0, he, hle⟩ := HB.out
        obtain ⟨nE, hnE⟩ : ∃ nE, nE = E.length := ⟨_, rfl⟩
        obtain ⟨A1, cc1, hlv, _, _⟩ := own_lists rf0.own
        rw [← hnE] at hlv
        subst hlv
        have c1 := rf0.blk.cell 1
        have cl := rf0.blk.lt
        simp only [List.getElem?_toArray, List.getElem?_cons_succ, List.getElem?_cons_zero] at c1
        have hsm : nE ≤ 524288 := by
          have h1 := sumE_len L'
          have h2 := s0.1.sum.2.1
          rw [← he, List.length_map, ← hnE] at h1
          rw [← he] at h2
          omega
        have EW := Lib.hid (wrapS1 nE hsm)
        have HE := Lib.hid (And.intro he (And.intro hnE (And.intro hle hsm)))
        have H0 := Lib.hid (And.intro s0 rf0)
        clear s0 rf0 he hnE hle hsm
        go_upto_region 16 with fail
        clear c1 cl
        go_loopw [9, 10, 11] (fun i _ _ wr => ∃ (k : Nat) (x : Int) (C1 : Cs) (Lk : List En), k ≤ nE ∧ i = .int .i64 x ∧ x + 1 = (k : Int) ∧ StC N W wr p bud' Lk C1 ∧ RfS W wr N q bud' E (.slice A1 nE cc1) ∧ (∀ en ∈ L', en ∈ Lk)) (fun i _ _ _ => (intOf i + 1).toNat)
        case atStart => exact ⟨nE, _, C, L', Nat.le_refl _, rfl, EW.out, H0.out.1, H0.out.2, fun en h => h⟩
        case round =>
          obtain ⟨k, x, C1, Lk, hk, rfl, hx, hst, hrf, hall⟩ := hrel
          have HS := Lib.hid (And.intro hst (And.intro hrf hall))
          rcases Nat.eq_zero_or_pos k with h0 | h0
          · obtain rfl : x = -1 := by omega
            clear hst hrf hall hx h0 hk
            go_wp2
            go_ret
            refine ⟨rfl, ?_⟩
            have := HS.out.1.2.1
            rw [HN.out] at this
            exact this
          · obtain ⟨y, hy⟩ : ∃ y, k = y + 1 := ⟨k - 1, by omega⟩
            obtain rfl : x = (y : Int) := by omega
            have hyE : y < E.length := by rw [← HE.out.2.1]; omega
            obtain ⟨ee, hge⟩ : ∃ e, E[y]? = some e := ⟨_, List.getElem?_eq_getElem hyE⟩
            have hin : ren ee ∈ L' := by rw [← HE.out.1]; exact List.mem_map.2 ⟨ee, List.mem_of_getElem? hge, rfl⟩
            have hf := find_in hst.1.keys (hall _ hin)
            obtain ⟨Ar, cr, hrv, hlr, h8r⟩ := hrf.ok ee (List.mem_of_getElem? hge)
            obtain ⟨mx, hmx⟩ : ∃ mx, mx = ee.bs.length := ⟨_, rfl⟩
            obtain ⟨g, c1, hsl, hcc, hgl, hgq, hcell⟩ := hrf.at hge
            rw [← HE.out.2.1] at hsl
            obtain ⟨rfl, rfl⟩ : A1 = some ⟨g, 0, none⟩ ∧ cc1 = c1 := by simpa using hsl
            have HX := Lib.hid (And.intro hge (And.intro hin (And.intro hlr (And.intro h8r (And.intro hrv hmx)))))
            have hky : kyW ee.k := hst.kyw (hall _ hin)
            have GG := stget_hit N p W _ bud' Lk C1 ee.k hky _ hst hf
            dsimp only [ren] at GG
            rw [← hmx] at GG
            have c1 := hrf.blk.cell 1
            have cl := hrf.blk.lt
            simp only [List.getElem?_toArray, List.getElem?_cons_succ, List.getElem?_cons_zero] at c1
            have f0 := hcell 0 _ rfl; rw [Nat.add_zero] at f0; have f1 := hcell 1 _ rfl; have f2 := hcell 2 _ rfl; have f3 := hcell 3 _ rfl
            have dy : decide ((y : Int) < (nE : Int)) = true := by simp; omega
            have hyn : y < nE := by omega
            clear hst hrf hall hx hyE hge hin hf hrv hlr h8r hmx hsl hcc hcell hgq hky
            go_upto_region 19 with (first
              | (go_at_call 13; refine (GG).mono ?_; rintro e w4 ⟨g4, C4, rfl, gb4, gs4, s4, m4⟩; have HR4 := Lib.hid (Blk.new w4 37 #[.int .i64 0, .int .i64 0, .int .i64 0, .int .i64 0, .slice none 0 0]))
              | (refine wpList_store_row rfl 37 (.tmp 10) (.tmp 90) (by with_reducible rfl) w4.heap.size #[.int .i64 ee.bx.x0, .int .i64 ee.bx.y0, .int .i64 ee.bx.x1, .int .i64 ee.bx.y1, .slice (some ⟨g4, 0, none⟩) mx mx] (by rfl) (by rfl) 37 #[.int .i64 0, .int .i64 0, .int .i64 0, .int .i64 0, .slice none 0 0] (by exact HR4.out) mkInfoL rfl (by simp [Value.oneCell']) ?_))
            obtain ⟨w5, hw5⟩ : ∃ w5, w5 = (w4.alloc (.cells #[.int .i64 0, .int .i64 0, .int .i64 0, .int .i64 0, .slice none 0 0] 37)).setRow w4.heap.size #[.int .i64 ee.bx.x0, .int .i64 ee.bx.y0, .int .i64 ee.bx.x1, .int .i64 ee.bx.y1, .slice (some ⟨g4, 0, none⟩) mx mx] := ⟨_, rfl⟩
            rw [← hw5]
            have B5 : Below w4.heap.size w4 w5 := hw5 ▸ below_setRow (g := w4.heap.size) (below_a1 _ _) (Nat.le_refl _) _
            have K5 : Blk w5 w4.heap.size 37 #[.int .i64 ee.bx.x0, .int .i64 ee.bx.y0, .int .i64 ee.bx.x1, .int .i64 ee.bx.y1, .slice (some ⟨g4, 0, none⟩) mx mx] := by rw [hw5]; exact blk_row HR4.out _
            have rf5 := (HS.out.2.1.mod HS.out.1.cv m4 HS.out.1.2.2.1).below B5
            have s5 := s4.below B5
            have hl5 : Lists w5 w5.heap.size Ar ee.bs := listsB (by have := HX.out.2.2.1; rw [HN.out] at this; exact this) (by have := s5.2.1; rw [HN.out] at this; exact this)
            have HSS := Lib.hid (fun (V : World) (hV : Below w5.heap.size w5 V) => rsame_yes ee.bx (some ⟨g4, 0, none⟩) Ar mx mx cr ee.bs V (lists_blkL ((gb4.below B5).below hV)) (listsB hl5 hV) HX.out.2.2.2.2.2.symm HX.out.2.2.2.1)
            obtain ⟨g', cc', hsl, _, hgl5, _, hcell⟩ := rf5.at HX.out.1
            rw [← HE.out.2.1] at hsl
            obtain ⟨rfl, rfl⟩ : g = g' ∧ cc1 = cc' := by simpa using hsl
            have c15 := rf5.blk.cell 1
            have cl5 := rf5.blk.lt
            simp only [List.getElem?_toArray, List.getElem?_cons_succ, List.getElem?_cons_zero] at c15
            have f4 := hcell 4 _ rfl; have f5 := hcell 5 _ rfl; have f6 := hcell 6 _ rfl; have f7 := hcell 7 _ rfl; have f8 := hcell 8 _ rfl
            rw [HX.out.2.2.2.2.1, ← HX.out.2.2.2.2.2] at f8
            have u0 := K5.cell 0; have u1 := K5.cell 1; have u2 := K5.cell 2; have u3 := K5.cell 3; have u4 := K5.cell 4; have ul := K5.lt; simp only [List.getElem?_toArray, List.getElem?_cons_succ, List.getElem?_cons_zero] at u0 u1 u2 u3 u4
            have HY := Lib.hid (And.intro s5 rf5)
            have EW2 := Lib.hid (wrapS1 y (by have := HE.out.2.2.2; omega))
            have HDD := Lib.hid (fun (V : World) (hV : Below w5.heap.size w5 V) => And.intro ((hV.cell (p := ⟨q, 1, none⟩) cl5).trans c15) (And.intro ((hV.cell (p := ⟨g, y * 9 + 4, none⟩) hgl5).trans f4) (And.intro ((hV.cell (p := ⟨g, y * 9 + 5, none⟩) hgl5).trans f5) (And.intro ((hV.cell (p := ⟨g, y * 9 + 6, none⟩) hgl5).trans f6) (And.intro ((hV.cell (p := ⟨g, y * 9 + 7, none⟩) hgl5).trans f7) (And.intro ((hV.cell (p := ⟨g, y * 9 + 8, none⟩) hgl5).trans f8) (And.intro ((hV.cell (p := ⟨w4.heap.size, 0, none⟩) ul).trans u0) (And.intro ((hV.cell (p := ⟨w4.heap.size, 1, none⟩) ul).trans u1) (And.intro ((hV.cell (p := ⟨w4.heap.size, 2, none⟩) ul).trans u2) (And.intro ((hV.cell (p := ⟨w4.heap.size, 3, none⟩) ul).trans u3) (And.intro ((hV.cell (p := ⟨w4.heap.size, 4, none⟩) ul).trans u4) (And.intro (Nat.lt_of_lt_of_le cl5 hV.size) (And.intro (Nat.lt_of_lt_of_le hgl5 hV.size) (Nat.lt_of_lt_of_le ul hV.size))))))))))))))
            clear hw5 B5 K5 s4 m4 s5 rf5 hl5 gb4 gs4 GG hsl hcell c1 cl f0 f1 f2 f3 hgl c15 f4 f5 f6 f7 f8 u0 u1 u2 u3 u4 cl5 hgl5 ul
            have hI : Below w5.heap.size w5 w5.drew := (Below.refl _ _).drew
            refine wp_region_chain (fun V => Below w5.heap.size w5 V) [(0, false), (1, false), (2, false), (3, false), (4, false), (5, false), (6, false), (7, false), (8, false), (9, false), (10, false), (11, false), (12, true), (13, false), (14, false)] (by kernel_rfl) (by kernel_rfl) hI ?_
            repeat (first
              | (refine ChainL.skip (o := ?_) ?_ ?_ ?_; rotate_left; (focus (first | (simp only [List.getElem?_toArray, List.getElem?_cons_succ, List.getElem?_cons_zero]; with_reducible rfl) | (simp only [List.getElem?_toArray, List.getElem?_cons_zero]; with_reducible rfl))); (focus rfl); simp only [Act.put, List.setIfInBounds_toArray, List.set_cons_zero, List.set_cons_succ])
              | (refine ChainL.val (o := ?_) (v := ?_) ?_ ?_ ?_ ?_ ?_; rotate_left 2; (focus (first | (simp only [List.getElem?_toArray, List.getElem?_cons_succ, List.getElem?_cons_zero]; with_reducible rfl) | (simp only [List.getElem?_toArray, List.getElem?_cons_zero]; with_reducible rfl))); (focus (intro _ _ h; cases h)); (focus rfl); (focus (intro w' hI; obtain ⟨z1, f4, f5, f6, f7, f8, x0, x1, x2, x3, x4, lq, lg, lu⟩ := HDD.out _ hI; go_simp <;> with_reducible rfl)); simp only [Act.put, List.setIfInBounds_toArray, List.set_cons_zero, List.set_cons_succ]))
            refine ChainL.call (o := ?_) (f := ?_) (args := ?_) ?_ ?_ ?_ ?_
            rotate_left 3
            (focus (first | (simp only [List.getElem?_toArray, List.getElem?_cons_succ, List.getElem?_cons_zero]; with_reducible rfl) | (simp only [List.getElem?_toArray, List.getElem?_cons_zero]; with_reducible rfl)))
            (focus rfl)
            (focus (go_simp; (constructor <;> with_reducible rfl)))
            with_reducible refine (HSS.out _ hI).mono ?_
            rintro e w6 ⟨rfl, b60⟩
            have b6 : Below w5.heap.size w5 w6 := hI.trans (b60.mono hI.size)
            refine ⟨_, rfl, b6, ?_⟩
            simp only [Act.put, List.setIfInBounds_toArray, List.set_cons_zero, List.set_cons_succ]
            repeat (first
              | (refine ChainL.skip (o := ?_) ?_ ?_ ?_; rotate_left; (focus (first | (simp only [List.getElem?_toArray, List.getElem?_cons_succ, List.getElem?_cons_zero]; with_reducible rfl) | (simp only [List.getElem?_toArray, List.getElem?_cons_zero]; with_reducible rfl))); (focus rfl); simp only [Act.put, List.setIfInBounds_toArray, List.set_cons_zero, List.set_cons_succ])
              | (refine ChainL.val (o := ?_) (v := ?_) ?_ ?_ ?_ ?_ ?_; rotate_left 2; (focus (first | (simp only [List.getElem?_toArray, List.getElem?_cons_succ, List.getElem?_cons_zero]; with_reducible rfl) | (simp only [List.getElem?_toArray, List.getElem?_cons_zero]; with_reducible rfl))); (focus (intro _ _ h; cases h)); (focus rfl); (focus (intro w' hI; obtain ⟨z1, f4, f5, f6, f7, f8, x0, x1, x2, x3, x4, lq, lg, lu⟩ := HDD.out _ hI; go_simp <;> with_reducible rfl)); simp only [Act.put, List.setIfInBounds_toArray, List.set_cons_zero, List.set_cons_succ]))
            refine ChainL.nil ?_
            go_wp2
            go_roundw
            case rel =>
              refine ⟨y, _, C4, _, by omega, rfl, EW2.out, HY.out.1.below b6, HY.out.2.below b6, fun en h => ?_⟩
              by_cases hk2 : en.1 = ee.k
              · have := key_one HS.out.1.1.keys (HS.out.2.2 en h) (HS.out.2.2 _ HX.out.2.1) hk2
                rw [this]
                exact List.mem_cons_self
              · exact List.mem_cons_of_mem _ (by unfold dropE; exact List.mem_filter.2 ⟨HS.out.2.2 en h, by simp [hk2]⟩)
            case measure => simp only [intOf]; rw [EW2.out]; omega

end Go.Proofs.Ytaaboochologaaa
