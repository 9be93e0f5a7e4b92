/- Part 13 of the proof: LrAf, LrAg, LrAh, LrAi, LrAj. -/
import Derived.Test.YtaaboochologaaaM11LruDoes

namespace Go.Proofs.Ytaaboochologaaa
open Go Go.RowKit
set_option linter.unusedVariables false
set_option linter.unusedSimpArgs false

theorem keyNe_run (k y : Ky) (w : World) : (binOp .neq 39 (.agg #[.int .i64 k.1, .int .i64 k.2.1, .int .i64 k.2.2.1, .int .i64 k.2.2.2]) (.agg #[.int .i64 y.1, .int .i64 y.2.1, .int .i64 y.2.2.1, .int .i64 y.2.2.2])).run Try.prog w = .ok (.bool (!decide (k = y))) w := by
  have hS : Try.prog.underlying 39 = some (.struct (Try.prog.fieldsOf 39)) := by kernel_rfl
  have hp : Try.prog.stoodInHeld 39 = false := by kernel_rfl
  have u3 := Try.underlying3
  have a3 := Try.isAgg3
  have z3 := Try.sizeOf3
  obtain ⟨k1, k2, k3, k4⟩ := k
  obtain ⟨y1, y2, y3, y4⟩ := y
  rw [run_neq_struct, show (10000 : Nat) = 9999 + 1 from rfl, run_equalIn_agg w 9999 39 _ _ hS hp]
  simp only [Program.fieldsOf, Try.underlying39]
  go_simp
  by_cases h1 : k1 = y1 <;> by_cases h2 : k2 = y2 <;> by_cases h3 : k3 = y3 <;> by_cases h4 : k4 = y4 <;> simp [h1, h2, h3, h4]
theorem keyNe_guard (k y : Ky) (x z : Operand) (w : World) : (eqGuard .neq 39 x z (.agg #[.int .i64 k.1, .int .i64 k.2.1, .int .i64 k.2.2.1, .int .i64 k.2.2.2]) (.agg #[.int .i64 y.1, .int .i64 y.2.1, .int .i64 y.2.2.1, .int .i64 y.2.2.2])).run Try.prog w = .ok () w :=
  run_eqGuard_agg w .neq 39 x z _ _ (by kernel_rfl)
set_option maxRecDepth 100000 in
set_option maxHeartbeats 2000000 in
theorem looks_any (N p q : Nat) (W0 w : World) (bud : Int) (L : List En) (C : Cs) (E : List RE) (lv : Value) (h : StC N W0 w p bud L C) (hr : RfS W0 w N q bud E lv) (he : E.map ren = L) (hle : sumE L ≤ bud) : Calls Try.prog 12 #[.pointer (some ⟨p, 0, none⟩), .pointer (some ⟨q, 0, none⟩)] w fun e w' => e = .returned (.bool true) ∧ Below w.heap.size w w' := by
  have KKc := lrkeys_any N p bud L C w h.1
  have hsum := h.1.sum
  obtain ⟨n, hn⟩ : ∃ n, n = L.length := ⟨_, rfl⟩
  have hEn : E.length = n := by rw [hn, ← he, List.length_map]
  rw [← hn] at KKc
  obtain ⟨s, hs⟩ : ∃ s, s = sumE L := ⟨_, rfl⟩
  have HCLn := Lib.hid (fun V (hV : Below w.heap.size w V) => by have := lrlen_any N p C V (h.below hV).1.v; rw [hsum.2.2.2.2, ← hn] at this; exact this)
  have HCHe := Lib.hid (fun V (hV : Below w.heap.size w V) => by have := lrheld_any N p C V (h.below hV).1.v; rw [hsum.1, ← hs] at this; exact this)
  have HCRh := Lib.hid (fun V (hV : Below w.heap.size w V) => by have := rheld_any W0 V N q bud E lv (hr.below hV) (by rw [he]; omega); rw [he, ← hs] at this; exact this)
  obtain ⟨A1, cc1, hlv, _, _⟩ := own_lists hr.own
  rw [hEn] at hlv
  subst hlv
  have c0 := hr.blk.cell 0
  have c1 := hr.blk.cell 1
  simp only [List.getElem?_toArray, List.getElem?_cons_succ, List.getElem?_cons_zero] at c0 c1
  have hq := hr.blk.lt
  have HD := Lib.hid (fun (V : World) (hV : Below w.heap.size w V) => And.intro ((hV.cell (p := ⟨q, 0, none⟩) hq).trans c0) (And.intro ((hV.cell (p := ⟨q, 1, none⟩) hq).trans c1) (Nat.lt_of_lt_of_le hq hV.size)))
  have HH := Lib.hid (And.intro h (And.intro hr (And.intro he hEn)))
  have dle : decide (bud < s) = false := by simp; omega
  have hnb : n ≤ 262144 := by have h1 := sumE_len L; have h2 := hsum.2.1; omega
  have HLE := Lib.hid hn
  clear h hr he hle hsum hs hn c0 c1 hEn hq
  go_enter Try.func12, Try.ntmps12
  go_upto_region 2 with (go_at_call 19; refine (KKc).mono ?_; rintro e wk ⟨Ak, ck, rfl, hls, bk⟩)
  have HLS := Lib.hid (And.intro hls bk)
  have BK := Lib.hid (fun V (hV : Below wk.heap.size wk V) => bk.trans (hV.mono bk.size))
  have hI : Below wk.heap.size wk wk.drew := (Below.refl _ _).drew
  clear hls bk
  refine wp_region_chain (fun V => Below wk.heap.size wk V) [(0, false), (1, false), (2, false), (3, false), (4, false), (5, false), (6, false), (7, false), (8, false), (9, false), (11, false), (12, false), (13, false), (14, false), (15, false), (10, true), (16, false), (17, false), (18, false), (19, false), (21, false), (20, true), (22, true), (23, false), (24, false), (25, false), (26, false), (28, false), (29, false), (30, false), (31, false), (27, true), (32, false), (33, false)] (by kernel_rfl) (by kernel_rfl) hI ?_
  repeat (first
    | (refine ChainL.skip (o := ?_) ?_ ?_ ?_; rotate_left; (focus (first | (simp only [List.getElem?_toArray, List.getElem?_cons_succ, List.getElem?_cons_zero]; with_reducible rfl) | (simp only [List.getElem?_toArray, List.getElem?_cons_zero]; with_reducible rfl))); (focus rfl); simp only [Act.put, List.setIfInBounds_toArray, List.set_cons_zero, List.set_cons_succ])
    | (refine ChainL.val (o := ?_) (v := ?_) ?_ ?_ ?_ ?_ ?_; rotate_left 2; (focus (first | (simp only [List.getElem?_toArray, List.getElem?_cons_succ, List.getElem?_cons_zero]; with_reducible rfl) | (simp only [List.getElem?_toArray, List.getElem?_cons_zero]; with_reducible rfl))); (focus (intro _ _ h; cases h)); (focus rfl); (focus (intro w' hI; obtain ⟨c0, c1, lq⟩ := HD.out _ (BK.out _ hI); go_simp <;> with_reducible rfl)); simp only [Act.put, List.setIfInBounds_toArray, List.set_cons_zero, List.set_cons_succ]))
  refine ChainL.call (o := ?_) (f := ?_) (args := ?_) ?_ ?_ ?_ ?_
  rotate_left 3
  (focus (first | (simp only [List.getElem?_toArray, List.getElem?_cons_succ, List.getElem?_cons_zero]; with_reducible rfl) | (simp only [List.getElem?_toArray, List.getElem?_cons_zero]; with_reducible rfl)))
  (focus rfl)
  (focus (go_simp; (constructor <;> with_reducible rfl)))
  with_reducible refine (HCLn.out _ (BK.out _ hI)).mono ?_
  rintro e w1 ⟨rfl, rfl⟩
  refine ⟨_, rfl, hI, ?_⟩
  simp only [Act.put, List.setIfInBounds_toArray, List.set_cons_zero, List.set_cons_succ]
  repeat (first
    | (refine ChainL.skip (o := ?_) ?_ ?_ ?_; rotate_left; (focus (first | (simp only [List.getElem?_toArray, List.getElem?_cons_succ, List.getElem?_cons_zero]; with_reducible rfl) | (simp only [List.getElem?_toArray, List.getElem?_cons_zero]; with_reducible rfl))); (focus rfl); simp only [Act.put, List.setIfInBounds_toArray, List.set_cons_zero, List.set_cons_succ])
    | (refine ChainL.val (o := ?_) (v := ?_) ?_ ?_ ?_ ?_ ?_; rotate_left 2; (focus (first | (simp only [List.getElem?_toArray, List.getElem?_cons_succ, List.getElem?_cons_zero]; with_reducible rfl) | (simp only [List.getElem?_toArray, List.getElem?_cons_zero]; with_reducible rfl))); (focus (intro _ _ h; cases h)); (focus rfl); (focus (intro w' hI; obtain ⟨c0, c1, lq⟩ := HD.out _ (BK.out _ hI); go_simp <;> with_reducible rfl)); simp only [Act.put, List.setIfInBounds_toArray, List.set_cons_zero, List.set_cons_succ]))
  refine ChainL.call (o := ?_) (f := ?_) (args := ?_) ?_ ?_ ?_ ?_
  rotate_left 3
  (focus (first | (simp only [List.getElem?_toArray, List.getElem?_cons_succ, List.getElem?_cons_zero]; with_reducible rfl) | (simp only [List.getElem?_toArray, List.getElem?_cons_zero]; with_reducible rfl)))
  (focus rfl)
  (focus (go_simp; (constructor <;> with_reducible rfl)))
  with_reducible refine (HCHe.out _ (BK.out _ hI)).mono ?_
  rintro e w1 ⟨rfl, rfl⟩
  refine ⟨_, rfl, hI, ?_⟩
  simp only [Act.put, List.setIfInBounds_toArray, List.set_cons_zero, List.set_cons_succ]
  repeat (first
    | (refine ChainL.skip (o := ?_) ?_ ?_ ?_; rotate_left; (focus (first | (simp only [List.getElem?_toArray, List.getElem?_cons_succ, List.getElem?_cons_zero]; with_reducible rfl) | (simp only [List.getElem?_toArray, List.getElem?_cons_zero]; with_reducible rfl))); (focus rfl); simp only [Act.put, List.setIfInBounds_toArray, List.set_cons_zero, List.set_cons_succ])
    | (refine ChainL.val (o := ?_) (v := ?_) ?_ ?_ ?_ ?_ ?_; rotate_left 2; (focus (first | (simp only [List.getElem?_toArray, List.getElem?_cons_succ, List.getElem?_cons_zero]; with_reducible rfl) | (simp only [List.getElem?_toArray, List.getElem?_cons_zero]; with_reducible rfl))); (focus (intro _ _ h; cases h)); (focus rfl); (focus (intro w' hI; obtain ⟨c0, c1, lq⟩ := HD.out _ (BK.out _ hI); go_simp <;> with_reducible rfl)); simp only [Act.put, List.setIfInBounds_toArray, List.set_cons_zero, List.set_cons_succ]))
  refine ChainL.call (o := ?_) (f := ?_) (args := ?_) ?_ ?_ ?_ ?_
  rotate_left 3
  (focus (first | (simp only [List.getElem?_toArray, List.getElem?_cons_succ, List.getElem?_cons_zero]; with_reducible rfl) | (simp only [List.getElem?_toArray, List.getElem?_cons_zero]; with_reducible rfl)))
  (focus rfl)
  (focus (go_simp; (constructor <;> with_reducible rfl)))
  with_reducible refine (HCRh.out _ (BK.out _ hI)).mono ?_
  rintro e w2 ⟨rfl, b2⟩
  have b3 : Below wk.heap.size wk w2 := hI.trans (b2.mono hI.size)
  refine ⟨_, rfl, b3, ?_⟩
  simp only [Act.put, List.setIfInBounds_toArray, List.set_cons_zero, List.set_cons_succ]
  repeat (first
    | (refine ChainL.skip (o := ?_) ?_ ?_ ?_; rotate_left; (focus (first | (simp only [List.getElem?_toArray, List.getElem?_cons_succ, List.getElem?_cons_zero]; with_reducible rfl) | (simp only [List.getElem?_toArray, List.getElem?_cons_zero]; with_reducible rfl))); (focus rfl); simp only [Act.put, List.setIfInBounds_toArray, List.set_cons_zero, List.set_cons_succ])
    | (refine ChainL.val (o := ?_) (v := ?_) ?_ ?_ ?_ ?_ ?_; rotate_left 2; (focus (first | (simp only [List.getElem?_toArray, List.getElem?_cons_succ, List.getElem?_cons_zero]; with_reducible rfl) | (simp only [List.getElem?_toArray, List.getElem?_cons_zero]; with_reducible rfl))); (focus (intro _ _ h; cases h)); (focus rfl); (focus (intro w' hI; obtain ⟨c0, c1, lq⟩ := HD.out _ (BK.out _ hI); go_simp <;> with_reducible rfl)); simp only [Act.put, List.setIfInBounds_toArray, List.set_cons_zero, List.set_cons_succ]))
  refine ChainL.call (o := ?_) (f := ?_) (args := ?_) ?_ ?_ ?_ ?_
  rotate_left 3
  (focus (first | (simp only [List.getElem?_toArray, List.getElem?_cons_succ, List.getElem?_cons_zero]; with_reducible rfl) | (simp only [List.getElem?_toArray, List.getElem?_cons_zero]; with_reducible rfl)))
  (focus rfl)
  (focus (go_simp; (constructor <;> with_reducible rfl)))
  with_reducible refine (HCHe.out _ (BK.out _ b3)).mono ?_
  rintro e w3 ⟨rfl, rfl⟩
  refine ⟨_, rfl, b3, ?_⟩
  simp only [Act.put, List.setIfInBounds_toArray, List.set_cons_zero, List.set_cons_succ]
  repeat (first
    | (refine ChainL.skip (o := ?_) ?_ ?_ ?_; rotate_left; (focus (first | (simp only [List.getElem?_toArray, List.getElem?_cons_succ, List.getElem?_cons_zero]; with_reducible rfl) | (simp only [List.getElem?_toArray, List.getElem?_cons_zero]; with_reducible rfl))); (focus rfl); simp only [Act.put, List.setIfInBounds_toArray, List.set_cons_zero, List.set_cons_succ])
    | (refine ChainL.val (o := ?_) (v := ?_) ?_ ?_ ?_ ?_ ?_; rotate_left 2; (focus (first | (simp only [List.getElem?_toArray, List.getElem?_cons_succ, List.getElem?_cons_zero]; with_reducible rfl) | (simp only [List.getElem?_toArray, List.getElem?_cons_zero]; with_reducible rfl))); (focus (intro _ _ h; cases h)); (focus rfl); (focus (intro w' hI; obtain ⟨c0, c1, lq⟩ := HD.out _ (BK.out _ hI); go_simp <;> with_reducible rfl)); simp only [Act.put, List.setIfInBounds_toArray, List.set_cons_zero, List.set_cons_succ]))
  refine ChainL.nil ?_
  have HB3 := Lib.hid b3
  clear b2 b3 hI
  go_wp2
  go_loopw [6] (fun i wr => ∃ j : Nat, j ≤ n ∧ i = .int .i64 (j : Nat) ∧ Below wk.heap.size wk wr) (fun i _ => n - (intOf i).toNat)
  case atStart => exact ⟨0, Nat.zero_le _, rfl, HB3.out⟩
  case round =>
    obtain ⟨j, hj, rfl, hb⟩ := hrel
    have HB := Lib.hid hb
    rcases Nat.lt_or_ge j n with hlt | hge
    · have hjE : j < E.length := by rw [HH.out.2.2.2]; exact hlt
      obtain ⟨x, hx⟩ : ∃ x, E[j]? = some x := ⟨_, List.getElem?_eq_getElem hjE⟩
      have hLj : L[j]? = some (ren x) := by rw [← HH.out.2.2.1, List.getElem?_map, hx]; rfl
      obtain ⟨g, c2, hlv, hc2, hg, hgq, hcell⟩ := HH.out.2.1.at hx
      simp only [Value.slice.injEq] at hlv
      obtain ⟨rfl, _, rfl⟩ := hlv
      have hky := fun i v (hv : (kyL x.k)[i]? = some v) => flat_at (f := fun e : En => kyL e.1) (sz := 4) (fun _ => rfl) L j (ren x) hLj i v hv
      have hne : kysL L ≠ [] := fun e => by
        have := hky 0 _ rfl
        rw [show (L.flatMap fun e : En => kyL e.1) = kysL L from rfl, e] at this
        simp at this
      obtain ⟨b, o, rfl, hbk, hck⟩ := HLS.out.1.plain hne
      have y0 := hck (j * 4 + 0) _ (hky 0 _ rfl)
      have y1 := hck (j * 4 + 1) _ (hky 1 _ rfl)
      have y2 := hck (j * 4 + 2) _ (hky 2 _ rfl)
      have y3 := hck (j * 4 + 3) _ (hky 3 _ rfl)
      rw [Nat.add_zero] at y0
      rw [← Nat.add_assoc] at y1 y2 y3
      have x0 := hcell 0 _ rfl
      have x1 := hcell 1 _ rfl
      have x2 := hcell 2 _ rfl
      have x3 := hcell 3 _ rfl
      have HDR := Lib.hid (fun (V : World) (hV : Below wr.heap.size wr V) =>
        have h1 := hb.trans (hV.mono hb.size)
        have h2 := BK.out _ h1
        show V.cell? ⟨q, 1, none⟩ = some (.slice (some ⟨g, 0, none⟩) n cc1) ∧ V.cell? ⟨b, o + j * 4, none⟩ = some (.int .i64 x.k.1) ∧ V.cell? ⟨b, o + j * 4 + 1, none⟩ = some (.int .i64 x.k.2.1) ∧ V.cell? ⟨b, o + j * 4 + 2, none⟩ = some (.int .i64 x.k.2.2.1) ∧ V.cell? ⟨b, o + j * 4 + 3, none⟩ = some (.int .i64 x.k.2.2.2) ∧ V.cell? ⟨g, j * 9, none⟩ = some (.int .i64 x.k.1) ∧ V.cell? ⟨g, j * 9 + 1, none⟩ = some (.int .i64 x.k.2.1) ∧ V.cell? ⟨g, j * 9 + 2, none⟩ = some (.int .i64 x.k.2.2.1) ∧ V.cell? ⟨g, j * 9 + 3, none⟩ = some (.int .i64 x.k.2.2.2) ∧ q < V.heap.size ∧ g < V.heap.size ∧ b < V.heap.size from
        ⟨(HD.out _ h2).2.1, (h1.cell (p := ⟨b, o + j * 4, none⟩) hbk).trans y0, (h1.cell (p := ⟨b, o + j * 4 + 1, none⟩) hbk).trans y1, (h1.cell (p := ⟨b, o + j * 4 + 2, none⟩) hbk).trans y2, (h1.cell (p := ⟨b, o + j * 4 + 3, none⟩) hbk).trans y3, (h2.cell (p := ⟨g, j * 9, none⟩) hg).trans x0, (h2.cell (p := ⟨g, j * 9 + 1, none⟩) hg).trans x1, (h2.cell (p := ⟨g, j * 9 + 2, none⟩) hg).trans x2, (h2.cell (p := ⟨g, j * 9 + 3, none⟩) hg).trans x3, (HD.out _ h2).2.2, Nat.lt_of_lt_of_le hg h2.size, Nat.lt_of_lt_of_le hbk h1.size⟩)
      have hI : Below wr.heap.size wr wr.drew := (Below.refl _ _).drew
      have ke := fun W => keyNe_run x.k x.k W
      have kg := fun a b W => keyNe_guard x.k x.k a b W
      rw [show (!decide (x.k = x.k)) = false by simp] at ke
      clear hx hLj hcell hky hne hck y0 y1 y2 y3 x0 x1 x2 x3 hb
      go_upto_region 7 with fail
      refine wp_region_chain (fun V => Below wr.heap.size wr V) [(0, false), (1, false), (2, false), (3, false), (4, false), (5, false), (6, false), (7, false), (8, false), (9, false), (10, false), (11, false), (12, false)] (by kernel_rfl) (by kernel_rfl) hI ?_
      repeat (first
        | (refine ChainL.skip (o := ?_) ?_ ?_ ?_; rotate_left; (focus (first | (simp only [List.getElem?_toArray, List.getElem?_cons_succ, List.getElem?_cons_zero]; with_reducible rfl) | (simp only [List.getElem?_toArray, List.getElem?_cons_zero]; with_reducible rfl))); (focus rfl); simp only [Act.put, List.setIfInBounds_toArray, List.set_cons_zero, List.set_cons_succ])
        | (refine ChainL.val (o := ?_) (v := ?_) ?_ ?_ ?_ ?_ ?_; rotate_left 2; (focus (first | (simp only [List.getElem?_toArray, List.getElem?_cons_succ, List.getElem?_cons_zero]; with_reducible rfl) | (simp only [List.getElem?_toArray, List.getElem?_cons_zero]; with_reducible rfl))); (focus (intro _ _ h; cases h)); (focus rfl); (focus (intro w' hI; obtain ⟨z1, y0, y1, y2, y3, x0, x1, x2, x3, lq, lg, lb⟩ := HDR.out _ hI; go_simp <;> with_reducible rfl)); simp only [Act.put, List.setIfInBounds_toArray, List.set_cons_zero, List.set_cons_succ]))
      refine ChainL.nil ?_
      go_wp2
      go_roundw
      case rel => exact ⟨j + 1, by omega, by go_num, HB.out.trans (hI.mono HB.out.size)⟩
      case measure => simp [intOf]; omega
    · go_wp2
      go_ret
      exact ⟨rfl, BK.out _ HB.out⟩
end Go.Proofs.Ytaaboochologaaa

namespace Go.Proofs.Ytaaboochologaaa
open Go Go.RowKit
set_option linter.unusedVariables false
set_option linter.unusedSimpArgs false

/-- Both caches have these entries. -/
def BothC (N : Nat) (W1 w : World) (p q : Nat) (bud : Int) (L : List En) : Prop := ∃ C E lv, StC N W1 w p bud L C ∧ RfS W1 w N q bud E lv ∧ E.map ren = L ∧ sumE L ≤ bud
theorem BothC.below {N p q : Nat} {W1 w w' : World} {bud : Int} {L : List En} (h : BothC N W1 w p q bud L) (b : Below w.heap.size w w') : BothC N W1 w' p q bud L := by
  obtain ⟨C, E, lv, h1, h2, h3, h4⟩ := h
  exact ⟨C, E, lv, h1.below b, h2.below b, h3, h4⟩
set_option maxRecDepth 100000 in
theorem do_none (N p q : Nat) (W1 w : World) (bud : Int) (L : List En) (r : LRec) (m : Nat) (h : BothC N W1 w p q bud L) (h1 : r.kd ≠ 1) (h2 : r.kd ≠ 2) (h3 : r.kd ≠ 3) (h4 : r.kd ≠ 4) : Calls Try.prog 11 #[.pointer (some ⟨p, 0, none⟩), .pointer (some ⟨q, 0, none⟩), .agg #[.int .i64 r.kd, .int .i64 r.k.1, .int .i64 r.k.2.1, .int .i64 r.k.2.2.1, .int .i64 r.k.2.2.2, .int .i64 r.a.x0, .int .i64 r.a.y0, .int .i64 r.a.x1, .int .i64 r.a.y1, .slice r.am m r.mc, .int .i64 r.n]] w fun e w' => ∃ bud' L', e = .returned (.bool true) ∧ BothC N W1 w' p q bud' L' := by
  have B1 : Below w.heap.size w (w.alloc (.cells #[.int .i64 r.kd, .int .i64 r.k.1, .int .i64 r.k.2.1, .int .i64 r.k.2.2.1, .int .i64 r.k.2.2.2, .int .i64 r.a.x0, .int .i64 r.a.y0, .int .i64 r.a.x1, .int .i64 r.a.y1, .slice r.am m r.mc, .int .i64 r.n] 41)) := below_a1 _ _
  have K := Blk.new w 41 #[.int .i64 r.kd, .int .i64 r.k.1, .int .i64 r.k.2.1, .int .i64 r.k.2.2.1, .int .i64 r.k.2.2.2, .int .i64 r.a.x0, .int .i64 r.a.y0, .int .i64 r.a.x1, .int .i64 r.a.y1, .slice r.am m r.mc, .int .i64 r.n]
  have t0 := K.cell 0; have t1 := K.cell 1; have t2 := K.cell 2; have t3 := K.cell 3; have t4 := K.cell 4; have t5 := K.cell 5; have t6 := K.cell 6; have t7 := K.cell 7; have t8 := K.cell 8; have t9 := K.cell 9; have t10 := K.cell 10; have tl := K.lt; simp only [List.getElem?_toArray, List.getElem?_cons_succ, List.getElem?_cons_zero] at t0 t1 t2 t3 t4 t5 t6 t7 t8 t9 t10
  have HB := Lib.hid (h.below B1)
  clear h K
  go_enter Try.func11, Try.ntmps11
  go_wp2
  exact bodyPost_ret (results_tmp rfl _ _ _) rfl ⟨_, _, rfl, HB.out⟩
set_option maxRecDepth 100000 in
theorem do_resize (N p q : Nat) (W1 w : World) (bud : Int) (L : List En) (r : LRec) (m : Nat) (h : BothC N W1 w p q bud L) (h4 : r.kd = 4) : Calls Try.prog 11 #[.pointer (some ⟨p, 0, none⟩), .pointer (some ⟨q, 0, none⟩), .agg #[.int .i64 r.kd, .int .i64 r.k.1, .int .i64 r.k.2.1, .int .i64 r.k.2.2.1, .int .i64 r.k.2.2.2, .int .i64 r.a.x0, .int .i64 r.a.y0, .int .i64 r.a.x1, .int .i64 r.a.y1, .slice r.am m r.mc, .int .i64 r.n]] w fun e w' => ∃ bud' L', e = .returned (.bool true) ∧ BothC N W1 w' p q bud' L' := by
  have B1 : Below w.heap.size w (w.alloc (.cells #[.int .i64 r.kd, .int .i64 r.k.1, .int .i64 r.k.2.1, .int .i64 r.k.2.2.1, .int .i64 r.k.2.2.2, .int .i64 r.a.x0, .int .i64 r.a.y0, .int .i64 r.a.x1, .int .i64 r.a.y1, .slice r.am m r.mc, .int .i64 r.n] 41)) := below_a1 _ _
  have K := Blk.new w 41 #[.int .i64 r.kd, .int .i64 r.k.1, .int .i64 r.k.2.1, .int .i64 r.k.2.2.1, .int .i64 r.k.2.2.2, .int .i64 r.a.x0, .int .i64 r.a.y0, .int .i64 r.a.x1, .int .i64 r.a.y1, .slice r.am m r.mc, .int .i64 r.n]
  have t0 := K.cell 0; have t1 := K.cell 1; have t2 := K.cell 2; have t3 := K.cell 3; have t4 := K.cell 4; have t5 := K.cell 5; have t6 := K.cell 6; have t7 := K.cell 7; have t8 := K.cell 8; have t9 := K.cell 9; have t10 := K.cell 10; have tl := K.lt; simp only [List.getElem?_toArray, List.getElem?_cons_succ, List.getElem?_cons_zero] at t0 t1 t2 t3 t4 t5 t6 t7 t8 t9 t10
  obtain ⟨w1, hw1⟩ : ∃ w1, w1 = w.alloc (.cells #[.int .i64 r.kd, .int .i64 r.k.1, .int .i64 r.k.2.1, .int .i64 r.k.2.2.1, .int .i64 r.k.2.2.2, .int .i64 r.a.x0, .int .i64 r.a.y0, .int .i64 r.a.x1, .int .i64 r.a.y1, .slice r.am m r.mc, .int .i64 r.n] 41) := ⟨_, rfl⟩
  have hb := h.below B1
  rw [← hw1] at hb K t0 t1 t2 t3 t4 t5 t6 t7 t8 t9 t10 tl
  rw [h4] at t0
  have CM := fun W => rlmay_any r.n W
  have HK := Lib.hid K
  have HW1 := Lib.hid hw1
  have HBB := Lib.hid hb
  clear h B1 K hw1 h4
  cases hx : inZ 0 16777216 r.n with
  | false =>
    rw [hx] at CM
    have CR := fun W => lrresize_bad r.n hx p W
    clear hx hb
    go_enter Try.func11, Try.ntmps11
    go_upto_region 1 with fail
    rw [← HW1.out]
    go_wp2_with (first
      | (go_at_call 23; refine (CR _).mono ?_; rintro e w2 ⟨rfl, rfl⟩)
      | (go_at_call 10; refine (CM _).mono ?_; rintro e w2 ⟨rfl, rfl⟩))
    exact bodyPost_ret (results_tmp rfl _ _ _) rfl ⟨_, _, rfl, HBB.out⟩
  | true =>
    rw [hx] at CM
    obtain ⟨C, E, lv, s, rf, he, hle⟩ := hb
    have CR := lrresize_ok N p bud r.n L C hx w1 s.1
    have hxx := inB_in hx
    have hsum := s.1.sum
    have HS := Lib.hid (And.intro s (And.intro rf (And.intro he (And.intro hsum hxx))))
    clear hx s rf he hle hsum
    go_enter Try.func11, Try.ntmps11
    go_upto_region 1 with fail
    rw [← HW1.out]
    go_upto_region 22 with (go_at_call 23; refine (CR).mono ?_; rintro e w2 ⟨C2, rfl, s2, hf2, m2⟩)
    have st2 : StC N W1 w2 p r.n (shrE r.n L) C2 := ⟨s2, HS.out.1.2.mod m2⟩
    have rf2 := HS.out.2.1.mod HS.out.1.1.v m2 HS.out.1.2.2.1
    have K2 := HK.out.only m2.1 (HS.out.1.1.v.other HK.out (by decide) (by decide) (by decide))
    have CZ := rresize_any W1 w2 N q bud r.n E lv rf2 HS.out.2.2.2.2.1 (by rw [HS.out.2.2.1]; have := HS.out.2.2.2.1.2.1; omega)
    have HS2 := Lib.hid (And.intro st2 (And.intro hf2 rf2))
    clear s2 m2 st2 rf2 hf2 t0 t1 t2 t3 t4 t5 t6 t7 t8 t9 t10 tl
    have t0 := K2.cell 0; have t1 := K2.cell 1; have t2 := K2.cell 2; have t3 := K2.cell 3; have t4 := K2.cell 4; have t5 := K2.cell 5; have t6 := K2.cell 6; have t7 := K2.cell 7; have t8 := K2.cell 8; have t9 := K2.cell 9; have t10 := K2.cell 10; have tl := K2.lt; simp only [List.getElem?_toArray, List.getElem?_cons_succ, List.getElem?_cons_zero] at t0 t1 t2 t3 t4 t5 t6 t7 t8 t9 t10
    go_wp2_with (first
      | (go_at_call 10; refine (CM _).mono ?_; rintro e w2 ⟨rfl, rfl⟩)
      | (go_at_call 28; refine (CZ).mono ?_; rintro e w3 ⟨lv3, E3, rfl, r3, e3, u3, o3⟩))
    refine bodyPost_ret (results_tmp rfl _ _ _) rfl ⟨r.n, shrE r.n L, rfl, C2, E3, lv3, ?_, r3, by rw [e3, HS.out.2.2.1], HS2.out.2.1⟩
    exact HS2.out.1.ref HS2.out.2.2.blk HS2.out.2.2.low o3
end Go.Proofs.Ytaaboochologaaa

namespace Go.Proofs.Ytaaboochologaaa
open Go Go.RowKit
set_option linter.unusedVariables false
set_option linter.unusedSimpArgs false

set_option maxRecDepth 100000 in
set_option maxHeartbeats 1000000 in
theorem do_drop (N p q : Nat) (W1 w : World) (bud : Int) (L : List En) (r : LRec) (m : Nat) (h : BothC N W1 w p q bud L) (hk : kyW r.k) (h3 : r.kd = 3) : Calls Try.prog 11 #[.pointer (some ⟨p, 0, none⟩), .pointer (some ⟨q, 0, none⟩), .agg #[.int .i64 r.kd, .int .i64 r.k.1, .int .i64 r.k.2.1, .int .i64 r.k.2.2.1, .int .i64 r.k.2.2.2, .int .i64 r.a.x0, .int .i64 r.a.y0, .int .i64 r.a.x1, .int .i64 r.a.y1, .slice r.am m r.mc, .int .i64 r.n]] w fun e w' => ∃ bud' L', e = .returned (.bool true) ∧ BothC N W1 w' p q bud' L' := by
  have B1 : Below w.heap.size w (w.alloc (.cells #[.int .i64 r.kd, .int .i64 r.k.1, .int .i64 r.k.2.1, .int .i64 r.k.2.2.1, .int .i64 r.k.2.2.2, .int .i64 r.a.x0, .int .i64 r.a.y0, .int .i64 r.a.x1, .int .i64 r.a.y1, .slice r.am m r.mc, .int .i64 r.n] 41)) := below_a1 _ _
  have K := Blk.new w 41 #[.int .i64 r.kd, .int .i64 r.k.1, .int .i64 r.k.2.1, .int .i64 r.k.2.2.1, .int .i64 r.k.2.2.2, .int .i64 r.a.x0, .int .i64 r.a.y0, .int .i64 r.a.x1, .int .i64 r.a.y1, .slice r.am m r.mc, .int .i64 r.n]
  have t0 := K.cell 0; have t1 := K.cell 1; have t2 := K.cell 2; have t3 := K.cell 3; have t4 := K.cell 4; have t5 := K.cell 5; have t6 := K.cell 6; have t7 := K.cell 7; have t8 := K.cell 8; have t9 := K.cell 9; have t10 := K.cell 10; have tl := K.lt; simp only [List.getElem?_toArray, List.getElem?_cons_succ, List.getElem?_cons_zero] at t0 t1 t2 t3 t4 t5 t6 t7 t8 t9 t10
  obtain ⟨w1, hw1⟩ : ∃ w1, w1 = w.alloc (.cells #[.int .i64 r.kd, .int .i64 r.k.1, .int .i64 r.k.2.1, .int .i64 r.k.2.2.1, .int .i64 r.k.2.2.2, .int .i64 r.a.x0, .int .i64 r.a.y0, .int .i64 r.a.x1, .int .i64 r.a.y1, .slice r.am m r.mc, .int .i64 r.n] 41) := ⟨_, rfl⟩
  have hb := h.below B1
  rw [← hw1] at hb K t0 t1 t2 t3 t4 t5 t6 t7 t8 t9 t10 tl
  rw [h3] at t0
  have HK := Lib.hid K
  have HW1 := Lib.hid hw1
  obtain ⟨C, E, lv, s, rf, he, hle⟩ := hb
  have hd : (E.map RE.k).Nodup := by
    have := s.1.keys
    rw [← he, List.map_map] at this
    exact this
  have CD0 := rdropS W1 w1 N q bud E lv r.k rf (by have h1 := sumE_len L; have h2 := s.1.sum.2.1; rw [← he, List.length_map] at h1; rw [← he] at h2; omega) hd
  clear h B1 K hw1 h3
  by_cases hex : ∃ x ∈ E, x.k = r.k
  · have CD : Calls Try.prog 27 #[.pointer (some ⟨q, 0, none⟩), .agg #[.int .i64 r.k.1, .int .i64 r.k.2.1, .int .i64 r.k.2.2.1, .int .i64 r.k.2.2.2]] w1 fun e w' => ∃ (lv' : Value) (E' : List RE) (x : RE) (Ar : Option Addr) (cr mx : Nat), e = .returned (.tuple #[.agg #[.int .i64 x.bx.x0, .int .i64 x.bx.y0, .int .i64 x.bx.x1, .int .i64 x.bx.y1, .slice Ar mx cr], .bool true]) ∧ RfS W1 w' N q bud E' lv' ∧ E'.map ren = dropE r.k (E.map ren) ∧ Only w1 w' [q] := by
      refine CD0.mono ?_
      rintro e w' ⟨lv', E', r', e1, u, o, (⟨_, hno⟩ | ⟨x, hx, hk, rfl⟩)⟩
      · obtain ⟨x, hx, hk⟩ := hex
        exact absurd hk (hno x hx)
      · obtain ⟨Ar, cr, hrv, _⟩ := rf.ok x hx
        exact ⟨lv', E', x, Ar, cr, x.bs.length, by rw [hrv], r', e1, o⟩
    have hhas : hasE r.k L = true := hasE_yes (e := ren hex.choose) (by rw [← he]; exact List.mem_map.2 ⟨_, hex.choose_spec.1, rfl⟩) hex.choose_spec.2
    have HS := Lib.hid (And.intro s (And.intro rf (And.intro he (And.intro hle (And.intro hhas hk)))))
    clear s rf he hle hhas CD0 hd hex hk
    go_enter Try.func11, Try.ntmps11
    go_upto_region 1 with fail
    rw [← HW1.out]
    go_upto_region 19 with (first
      | (go_at_call 27; refine (CD).mono ?_; rintro e w2 ⟨lv2, E2, x, Ar, cr, mx, rfl, r2, e2, o2⟩; have HR2 := Lib.hid (And.intro r2 (And.intro e2 o2)); have HR6 := Lib.hid (Blk.new w2 37 #[.int .i64 0, .int .i64 0, .int .i64 0, .int .i64 0, .slice none 0 0]))
      | (refine wpList_store_row rfl 37 (.tmp 16) (.tmp 109) (by with_reducible rfl) w2.heap.size #[.int .i64 x.bx.x0, .int .i64 x.bx.y0, .int .i64 x.bx.x1, .int .i64 x.bx.y1, .slice Ar mx cr] (by rfl) (by rfl) 37 #[.int .i64 0, .int .i64 0, .int .i64 0, .int .i64 0, .slice none 0 0] (by exact HR6.out) mkInfoL rfl (by simp [Value.oneCell']) ?_))
    obtain ⟨w3, hw3⟩ : ∃ w3, w3 = (w2.alloc (.cells #[.int .i64 0, .int .i64 0, .int .i64 0, .int .i64 0, .slice none 0 0] 37)).setRow w2.heap.size #[.int .i64 x.bx.x0, .int .i64 x.bx.y0, .int .i64 x.bx.x1, .int .i64 x.bx.y1, .slice Ar mx cr] := ⟨_, rfl⟩
    rw [← hw3]
    have B3 : Below w2.heap.size w2 w3 := hw3 ▸ below_setRow (g := w2.heap.size) (below_a1 _ _) (Nat.le_refl _) _
    have K3 := (HK.out.only HR2.out.2.2 (by simp; exact blk_neL HK.out HS.out.2.1.blk (by decide))).below B3
    have s3 := (HS.out.1.ref HS.out.2.1.blk HS.out.2.1.low HR2.out.2.2).below B3
    have DD := stdrop_any N p W1 w3 bud L C r.k HS.out.2.2.2.2.2 s3
    rw [HS.out.2.2.2.2.1] at DD
    have HR3 := Lib.hid (And.intro (HR2.out.1.below B3) s3)
    clear r2 e2 o2 hw3 B3 s3 CD t0 t1 t2 t3 t4 t5 t6 t7 t8 t9 t10 tl
    have t0 := K3.cell 0; have t1 := K3.cell 1; have t2 := K3.cell 2; have t3 := K3.cell 3; have t4 := K3.cell 4; have t5 := K3.cell 5; have t6 := K3.cell 6; have t7 := K3.cell 7; have t8 := K3.cell 8; have t9 := K3.cell 9; have t10 := K3.cell 10; have tl := K3.lt; simp only [List.getElem?_toArray, List.getElem?_cons_succ, List.getElem?_cons_zero] at t0 t1 t2 t3 t4 t5 t6 t7 t8 t9 t10
    go_wp2_with (go_at_call 20; refine (DD).mono ?_; rintro e w4 ⟨C4, rfl, s4, m4⟩)
    refine bodyPost_ret (results_tmp rfl _ _ _) rfl ⟨bud, dropE r.k L, rfl, C4, E2, lv2, s4, HR3.out.1.mod HR3.out.2.1.v m4 HR3.out.2.2.2.1, by rw [HR2.out.2.1, HS.out.2.2.1], ?_⟩
    exact Int.le_trans (dropE_sum r.k L) HS.out.2.2.2.1
  · have CD : Calls Try.prog 27 #[.pointer (some ⟨q, 0, none⟩), .agg #[.int .i64 r.k.1, .int .i64 r.k.2.1, .int .i64 r.k.2.2.1, .int .i64 r.k.2.2.2]] w1 fun e w' => ∃ (lv' : Value) (E' : List RE), e = .returned (.tuple #[.agg #[.int .i64 0, .int .i64 0, .int .i64 0, .int .i64 0, .slice none 0 0], .bool false]) ∧ RfS W1 w' N q bud E' lv' ∧ E'.map ren = dropE r.k (E.map ren) ∧ Only w1 w' [q] := by
      refine CD0.mono ?_
      rintro e w' ⟨lv', E', r', e1, u, o, (⟨rfl, _⟩ | ⟨x, hx, hk, _⟩)⟩
      · exact ⟨lv', E', rfl, r', e1, o⟩
      · exact absurd ⟨x, hx, hk⟩ hex
    have hhas : hasE r.k L = false := hasE_no (fun e hm hk => hex (by rw [← he] at hm; obtain ⟨x, hx, rfl⟩ := List.mem_map.1 hm; exact ⟨x, hx, hk⟩))
    have HS := Lib.hid (And.intro s (And.intro rf (And.intro he (And.intro hle (And.intro hhas hk)))))
    clear s rf he hle hhas CD0 hd hex hk
    go_enter Try.func11, Try.ntmps11
    go_upto_region 1 with fail
    rw [← HW1.out]
    go_upto_region 19 with (first
      | (go_at_call 27; refine (CD).mono ?_; rintro e w2 ⟨lv2, E2, rfl, r2, e2, o2⟩; have HR2 := Lib.hid (And.intro r2 (And.intro e2 o2)); have HR6 := Lib.hid (Blk.new w2 37 #[.int .i64 0, .int .i64 0, .int .i64 0, .int .i64 0, .slice none 0 0]))
      | (refine wpList_store_row rfl 37 (.tmp 16) (.tmp 109) (by with_reducible rfl) w2.heap.size #[.int .i64 0, .int .i64 0, .int .i64 0, .int .i64 0, .slice none 0 0] (by rfl) (by rfl) 37 #[.int .i64 0, .int .i64 0, .int .i64 0, .int .i64 0, .slice none 0 0] (by exact HR6.out) mkInfoL rfl (by simp [Value.oneCell']) ?_))
    obtain ⟨w3, hw3⟩ : ∃ w3, w3 = (w2.alloc (.cells #[.int .i64 0, .int .i64 0, .int .i64 0, .int .i64 0, .slice none 0 0] 37)).setRow w2.heap.size #[.int .i64 0, .int .i64 0, .int .i64 0, .int .i64 0, .slice none 0 0] := ⟨_, rfl⟩
    rw [← hw3]
    have B3 : Below w2.heap.size w2 w3 := hw3 ▸ below_setRow (g := w2.heap.size) (below_a1 _ _) (Nat.le_refl _) _
    have K3 := (HK.out.only HR2.out.2.2 (by simp; exact blk_neL HK.out HS.out.2.1.blk (by decide))).below B3
    have s3 := (HS.out.1.ref HS.out.2.1.blk HS.out.2.1.low HR2.out.2.2).below B3
    have DD := stdrop_any N p W1 w3 bud L C r.k HS.out.2.2.2.2.2 s3
    rw [HS.out.2.2.2.2.1] at DD
    have HR3 := Lib.hid (And.intro (HR2.out.1.below B3) s3)
    clear r2 e2 o2 hw3 B3 s3 CD t0 t1 t2 t3 t4 t5 t6 t7 t8 t9 t10 tl
    have t0 := K3.cell 0; have t1 := K3.cell 1; have t2 := K3.cell 2; have t3 := K3.cell 3; have t4 := K3.cell 4; have t5 := K3.cell 5; have t6 := K3.cell 6; have t7 := K3.cell 7; have t8 := K3.cell 8; have t9 := K3.cell 9; have t10 := K3.cell 10; have tl := K3.lt; simp only [List.getElem?_toArray, List.getElem?_cons_succ, List.getElem?_cons_zero] at t0 t1 t2 t3 t4 t5 t6 t7 t8 t9 t10
    go_wp2_with (go_at_call 20; refine (DD).mono ?_; rintro e w4 ⟨C4, rfl, s4, m4⟩)
    refine bodyPost_ret (results_tmp rfl _ _ _) rfl ⟨bud, dropE r.k L, rfl, C4, E2, lv2, s4, HR3.out.1.mod HR3.out.2.1.v m4 HR3.out.2.2.2.1, by rw [HR2.out.2.1, HS.out.2.2.1], ?_⟩
    exact Int.le_trans (dropE_sum r.k L) HS.out.2.2.2.1
end Go.Proofs.Ytaaboochologaaa

namespace Go.Proofs.Ytaaboochologaaa
open Go Go.RowKit
set_option linter.unusedVariables false
set_option linter.unusedSimpArgs false

set_option maxRecDepth 100000 in
set_option maxHeartbeats 1000000 in
theorem do_getno (N p q : Nat) (W1 w : World) (bud : Int) (L : List En) (r : LRec) (m : Nat) (h : BothC N W1 w p q bud L) (hk : kyW r.k) (h1 : r.kd = 1) (hno : ∀ e ∈ L, e.1 ≠ r.k) : Calls Try.prog 11 #[.pointer (some ⟨p, 0, none⟩), .pointer (some ⟨q, 0, none⟩), .agg #[.int .i64 r.kd, .int .i64 r.k.1, .int .i64 r.k.2.1, .int .i64 r.k.2.2.1, .int .i64 r.k.2.2.2, .int .i64 r.a.x0, .int .i64 r.a.y0, .int .i64 r.a.x1, .int .i64 r.a.y1, .slice r.am m r.mc, .int .i64 r.n]] w fun e w' => ∃ bud' L', e = .returned (.bool true) ∧ BothC N W1 w' p q bud' L' := by
  have B1 : Below w.heap.size w (w.alloc (.cells #[.int .i64 r.kd, .int .i64 r.k.1, .int .i64 r.k.2.1, .int .i64 r.k.2.2.1, .int .i64 r.k.2.2.2, .int .i64 r.a.x0, .int .i64 r.a.y0, .int .i64 r.a.x1, .int .i64 r.a.y1, .slice r.am m r.mc, .int .i64 r.n] 41)) := below_a1 _ _
  have K := Blk.new w 41 #[.int .i64 r.kd, .int .i64 r.k.1, .int .i64 r.k.2.1, .int .i64 r.k.2.2.1, .int .i64 r.k.2.2.2, .int .i64 r.a.x0, .int .i64 r.a.y0, .int .i64 r.a.x1, .int .i64 r.a.y1, .slice r.am m r.mc, .int .i64 r.n]
  have t0 := K.cell 0; have t1 := K.cell 1; have t2 := K.cell 2; have t3 := K.cell 3; have t4 := K.cell 4; have t5 := K.cell 5; have t6 := K.cell 6; have t7 := K.cell 7; have t8 := K.cell 8; have t9 := K.cell 9; have t10 := K.cell 10; have tl := K.lt; simp only [List.getElem?_toArray, List.getElem?_cons_succ, List.getElem?_cons_zero] at t0 t1 t2 t3 t4 t5 t6 t7 t8 t9 t10
  obtain ⟨w1, hw1⟩ : ∃ w1, w1 = w.alloc (.cells #[.int .i64 r.kd, .int .i64 r.k.1, .int .i64 r.k.2.1, .int .i64 r.k.2.2.1, .int .i64 r.k.2.2.2, .int .i64 r.a.x0, .int .i64 r.a.y0, .int .i64 r.a.x1, .int .i64 r.a.y1, .slice r.am m r.mc, .int .i64 r.n] 41) := ⟨_, rfl⟩
  have hb := h.below B1
  rw [← hw1] at hb K t0 t1 t2 t3 t4 t5 t6 t7 t8 t9 t10 tl
  rw [h1] at t0
  have HK := Lib.hid K
  have HW1 := Lib.hid hw1
  obtain ⟨C, E, lv, s, rf, he, hle⟩ := hb
  have hd : (E.map RE.k).Nodup := by
    have := s.1.keys
    rw [← he, List.map_map] at this
    exact this
  have GM := stget_miss N p W1 w1 bud L C r.k hk s (List.find?_eq_none.2 fun e hm => by unfold isK; simp [hno e hm])
  have HS := Lib.hid (And.intro s (And.intro rf (And.intro he (And.intro hle (And.intro hd hno)))))
  clear h B1 K hw1 h1 s rf he hle hd hno
  go_enter Try.func11, Try.ntmps11
  go_upto_region 1 with fail
  rw [← HW1.out]
  go_upto_region 4 with (first
    | (go_at_call 13; refine (GM).mono ?_; rintro e w2 ⟨rfl, s2, b2⟩; have HR6 := Lib.hid (Blk.new w2 37 #[.int .i64 0, .int .i64 0, .int .i64 0, .int .i64 0, .slice none 0 0]))
    | (refine wpList_store_row rfl 37 (.tmp 7) (.tmp 28) (by with_reducible rfl) w2.heap.size #[.int .i64 0, .int .i64 0, .int .i64 0, .int .i64 0, .slice none 0 0] (by rfl) (by rfl) 37 #[.int .i64 0, .int .i64 0, .int .i64 0, .int .i64 0, .slice none 0 0] (by exact HR6.out) mkInfoL rfl (by simp [Value.oneCell']) ?_))
  obtain ⟨w3, hw3⟩ : ∃ w3, w3 = (w2.alloc (.cells #[.int .i64 0, .int .i64 0, .int .i64 0, .int .i64 0, .slice none 0 0] 37)).setRow w2.heap.size #[.int .i64 0, .int .i64 0, .int .i64 0, .int .i64 0, .slice none 0 0] := ⟨_, rfl⟩
  rw [← hw3]
  have B3 : Below w2.heap.size w2 w3 := hw3 ▸ below_setRow (g := w2.heap.size) (below_a1 _ _) (Nat.le_refl _) _
  have B13 := b2.trans (B3.mono b2.size)
  obtain ⟨q7, hq7⟩ : ∃ q7, q7 = w2.heap.size := ⟨_, rfl⟩
  rw [← hq7]
  have K7 : Blk w3 q7 37 #[.int .i64 0, .int .i64 0, .int .i64 0, .int .i64 0, .slice none 0 0] := by rw [hw3, hq7]; exact blk_row HR6.out _
  have rf3 := HS.out.2.1.below B13
  have RG := rget_miss W1 w3 N q bud E lv r.k rf3 (by rw [HS.out.2.2.1]; exact HS.out.1.1.sum.2.1) HS.out.2.2.2.2.1 (fun x hx => HS.out.2.2.2.2.2 (ren x) (by rw [← HS.out.2.2.1]; exact List.mem_map.2 ⟨x, hx, rfl⟩))
  have HX := Lib.hid (And.intro (s2.below B3) (And.intro K7 (And.intro rf3 (HK.out.below B13))))
  have K3 := HK.out.below B13
  clear s2 b2 hw3 B3 B13 hq7 K7 rf3 GM t0 t1 t2 t3 t4 t5 t6 t7 t8 t9 t10 tl
  have t0 := K3.cell 0; have t1 := K3.cell 1; have t2 := K3.cell 2; have t3 := K3.cell 3; have t4 := K3.cell 4; have t5 := K3.cell 5; have t6 := K3.cell 6; have t7 := K3.cell 7; have t8 := K3.cell 8; have t9 := K3.cell 9; have t10 := K3.cell 10; have tl := K3.lt; simp only [List.getElem?_toArray, List.getElem?_cons_succ, List.getElem?_cons_zero] at t0 t1 t2 t3 t4 t5 t6 t7 t8 t9 t10
  go_upto_region 5 with (first
    | (go_at_call 25; refine (RG).mono ?_; rintro e w4 ⟨lv4, E4, rfl, r4, e4, o4⟩; have HR9 := Lib.hid (Blk.new w4 37 #[.int .i64 0, .int .i64 0, .int .i64 0, .int .i64 0, .slice none 0 0]))
    | (refine wpList_store_row rfl 37 (.tmp 9) (.tmp 35) (by with_reducible rfl) w4.heap.size #[.int .i64 0, .int .i64 0, .int .i64 0, .int .i64 0, .slice none 0 0] (by rfl) (by rfl) 37 #[.int .i64 0, .int .i64 0, .int .i64 0, .int .i64 0, .slice none 0 0] (by exact HR9.out) mkInfoL rfl (by simp [Value.oneCell']) ?_))
  obtain ⟨w5, hw5⟩ : ∃ w5, w5 = (w4.alloc (.cells #[.int .i64 0, .int .i64 0, .int .i64 0, .int .i64 0, .slice none 0 0] 37)).setRow w4.heap.size #[.int .i64 0, .int .i64 0, .int .i64 0, .int .i64 0, .slice none 0 0] := ⟨_, rfl⟩
  rw [← hw5]
  have B5 : Below w4.heap.size w4 w5 := hw5 ▸ below_setRow (g := w4.heap.size) (below_a1 _ _) (Nat.le_refl _) _
  have K9 : Blk w5 w4.heap.size 37 #[.int .i64 0, .int .i64 0, .int .i64 0, .int .i64 0, .slice none 0 0] := by rw [hw5]; exact blk_row HR9.out _
  have K75 := (HX.out.2.1.only o4 (by simp; exact blk_neL HX.out.2.1 HX.out.2.2.1.blk (by decide))).below B5
  have s5 := (HX.out.1.ref HX.out.2.2.1.blk HX.out.2.2.1.low o4).below B5
  have r5 := r4.below B5
  have SS := rsame_yes ⟨0, 0, 0, 0⟩ none none 0 0 0 [] w5 ⟨fun _ => rfl, fun _ h => (nomatch h), fun _ h => (nomatch h)⟩ ⟨fun _ => rfl, fun _ h => (nomatch h), fun _ h => (nomatch h)⟩ rfl (fun u hu => by simp at hu)
  have HY := Lib.hid (And.intro s5 (And.intro r5 e4))
  have m0 := K75.cell 0; have m1 := K75.cell 1; have m2 := K75.cell 2; have m3 := K75.cell 3; have m4 := K75.cell 4; have ml := K75.lt; simp only [List.getElem?_toArray, List.getElem?_cons_succ, List.getElem?_cons_zero] at m0 m1 m2 m3 m4
  have u0 := K9.cell 0; have u1 := K9.cell 1; have u2 := K9.cell 2; have u3 := K9.cell 3; have u4 := K9.cell 4; have ul := K9.lt; simp only [List.getElem?_toArray, List.getElem?_cons_succ, List.getElem?_cons_zero] at u0 u1 u2 u3 u4
  clear s5 r5 e4 r4 o4 hw5 B5 K9 K75 K3 t0 t1 t2 t3 t4 t5 t6 t7 t8 t9 t10 tl RG
  go_wp2_with (go_at_call 14; refine (SS).mono ?_; rintro e w6 ⟨rfl, b6⟩)
  exact bodyPost_ret (results_tmp rfl _ _ _) rfl ⟨bud, L, rfl, C, E4, lv4, HY.out.1.below b6, HY.out.2.1.below b6, by rw [HY.out.2.2, HS.out.2.2.1], HS.out.2.2.2.1⟩
end Go.Proofs.Ytaaboochologaaa

namespace Go.Proofs.Ytaaboochologaaa
open Go Go.RowKit
set_option linter.unusedVariables false
set_option linter.unusedSimpArgs false

theorem dropE_sum_in {k : Ky} {en : En} (hk : en.1 = k) : ∀ L : List En, en ∈ L → costE en + sumE (dropE k L) ≤ sumE L
  | [], h => by simp at h
  | e :: L, h => by
    have h0 := dropE_sum k L
    have hp := costE_pos e
    rcases List.mem_cons.1 h with rfl | h
    · unfold dropE at h0 ⊢
      rw [List.filter_cons_of_neg (by simp [hk])]
      simp only [sumE]; omega
    · have ih := dropE_sum_in hk L h
      unfold dropE at ih ⊢
      rw [List.filter_cons]
      split <;> (simp only [sumE]; omega)
theorem key_one : ∀ {L : List En} {a b : En}, (L.map fun e => e.1).Nodup → a ∈ L → b ∈ L → a.1 = b.1 → a = b
  | [], a, b, _, h, _, _ => by simp at h
  | e :: L, a, b, hd, ha, hb, hk => by
    rw [List.map_cons] at hd
    have hd := List.nodup_cons.1 hd
    rcases List.mem_cons.1 ha with h1 | h1 <;> rcases List.mem_cons.1 hb with h2 | h2
    · rw [h1, h2]
    · exact absurd (show e.1 ∈ L.map (fun e : En => e.1) from List.mem_map.2 ⟨b, h2, by rw [← h1]; exact hk.symm⟩) hd.1
    · exact absurd (show e.1 ∈ L.map (fun e : En => e.1) from List.mem_map.2 ⟨a, h1, by rw [← h2]; exact hk⟩) hd.1
    · exact key_one hd.2 h1 h2 hk
set_option maxRecDepth 100000 in
set_option maxHeartbeats 1000000 in
theorem do_getyes (N p q : Nat) (W1 w : World) (bud : Int) (L : List En) (r : LRec) (m : Nat) (h : BothC N W1 w p q bud L) (hk : kyW r.k) (h1 : r.kd = 1) (en : En) (hen : L.find? (isK r.k) = some en) : Calls Try.prog 11 #[.pointer (some ⟨p, 0, none⟩), .pointer (some ⟨q, 0, none⟩), .agg #[.int .i64 r.kd, .int .i64 r.k.1, .int .i64 r.k.2.1, .int .i64 r.k.2.2.1, .int .i64 r.k.2.2.2, .int .i64 r.a.x0, .int .i64 r.a.y0, .int .i64 r.a.x1, .int .i64 r.a.y1, .slice r.am m r.mc, .int .i64 r.n]] w fun e w' => ∃ bud' L', e = .returned (.bool true) ∧ BothC N W1 w' p q bud' L' := by
  have B1 : Below w.heap.size w (w.alloc (.cells #[.int .i64 r.kd, .int .i64 r.k.1, .int .i64 r.k.2.1, .int .i64 r.k.2.2.1, .int .i64 r.k.2.2.2, .int .i64 r.a.x0, .int .i64 r.a.y0, .int .i64 r.a.x1, .int .i64 r.a.y1, .slice r.am m r.mc, .int .i64 r.n] 41)) := below_a1 _ _
  have K := Blk.new w 41 #[.int .i64 r.kd, .int .i64 r.k.1, .int .i64 r.k.2.1, .int .i64 r.k.2.2.1, .int .i64 r.k.2.2.2, .int .i64 r.a.x0, .int .i64 r.a.y0, .int .i64 r.a.x1, .int .i64 r.a.y1, .slice r.am m r.mc, .int .i64 r.n]
  have t0 := K.cell 0; have t1 := K.cell 1; have t2 := K.cell 2; have t3 := K.cell 3; have t4 := K.cell 4; have t5 := K.cell 5; have t6 := K.cell 6; have t7 := K.cell 7; have t8 := K.cell 8; have t9 := K.cell 9; have t10 := K.cell 10; have tl := K.lt; simp only [List.getElem?_toArray, List.getElem?_cons_succ, List.getElem?_cons_zero] at t0 t1 t2 t3 t4 t5 t6 t7 t8 t9 t10
  obtain ⟨w1, hw1⟩ : ∃ w1, w1 = w.alloc (.cells #[.int .i64 r.kd, .int .i64 r.k.1, .int .i64 r.k.2.1, .int .i64 r.k.2.2.1, .int .i64 r.k.2.2.2, .int .i64 r.a.x0, .int .i64 r.a.y0, .int .i64 r.a.x1, .int .i64 r.a.y1, .slice r.am m r.mc, .int .i64 r.n] 41) := ⟨_, rfl⟩
  have hb := h.below B1
  rw [← hw1] at hb K t0 t1 t2 t3 t4 t5 t6 t7 t8 t9 t10 tl
  rw [h1] at t0
  have HK := Lib.hid K
  have HW1 := Lib.hid hw1
  obtain ⟨C, E, lv, s, rf, he, hle⟩ := hb
  have hkeys := s.1.keys
  have hd : (E.map RE.k).Nodup := by
    rw [← he, List.map_map] at hkeys
    exact hkeys
  have hek : en.1 = r.k := by have := List.find?_some hen; unfold isK at this; simpa using this
  have henm := List.mem_of_find?_eq_some hen
  obtain ⟨ek, eA, eM⟩ := en
  obtain ⟨mx, hmx⟩ : ∃ mx, mx = eM.length := ⟨_, rfl⟩
  have GG := stget_hit N p W1 w1 bud L C r.k hk _ s hen
  dsimp only at GG hek
  rw [← hmx] at GG
  have hsx := dropE_sum_in (k := r.k) hek L henm
  have HS := Lib.hid (And.intro s (And.intro rf (And.intro he (And.intro hle (And.intro hd hsx)))))
  have HE := Lib.hid (And.intro hkeys (And.intro hek (And.intro henm hmx)))
  clear h B1 K hw1 h1 s rf he hle hd hkeys hek henm hmx hen hsx
  go_enter Try.func11, Try.ntmps11
  go_upto_region 1 with fail
  rw [← HW1.out]
  go_upto_region 4 with (first
    | (go_at_call 13; refine (GG).mono ?_; rintro e w2 ⟨g1, C2, rfl, gb, gs, s2, m2⟩; have HR6 := Lib.hid (Blk.new w2 37 #[.int .i64 0, .int .i64 0, .int .i64 0, .int .i64 0, .slice none 0 0]))
    | (refine wpList_store_row rfl 37 (.tmp 7) (.tmp 28) (by with_reducible rfl) w2.heap.size #[.int .i64 eA.x0, .int .i64 eA.y0, .int .i64 eA.x1, .int .i64 eA.y1, .slice (some ⟨g1, 0, none⟩) mx mx] (by rfl) (by rfl) 37 #[.int .i64 0, .int .i64 0, .int .i64 0, .int .i64 0, .slice none 0 0] (by exact HR6.out) mkInfoL rfl (by simp [Value.oneCell']) ?_))
  obtain ⟨w3, hw3⟩ : ∃ w3, w3 = (w2.alloc (.cells #[.int .i64 0, .int .i64 0, .int .i64 0, .int .i64 0, .slice none 0 0] 37)).setRow w2.heap.size #[.int .i64 eA.x0, .int .i64 eA.y0, .int .i64 eA.x1, .int .i64 eA.y1, .slice (some ⟨g1, 0, none⟩) mx mx] := ⟨_, rfl⟩
  rw [← hw3]
  have B3 : Below w2.heap.size w2 w3 := hw3 ▸ below_setRow (g := w2.heap.size) (below_a1 _ _) (Nat.le_refl _) _
  obtain ⟨q7, hq7⟩ : ∃ q7, q7 = w2.heap.size := ⟨_, rfl⟩
  rw [← hq7]
  have K7 : Blk w3 q7 37 #[.int .i64 eA.x0, .int .i64 eA.y0, .int .i64 eA.x1, .int .i64 eA.y1, .slice (some ⟨g1, 0, none⟩) mx mx] := by rw [hw3, hq7]; exact blk_row HR6.out _
  have rf3 := (HS.out.2.1.mod HS.out.1.1.v m2 HS.out.1.2.2.1).below B3
  have K3 := (HK.out.only m2.1 (HS.out.1.1.v.other HK.out (by decide) (by decide) (by decide))).below B3
  have RG : Calls Try.prog 25 #[.pointer (some ⟨q, 0, none⟩), .agg #[.int .i64 r.k.1, .int .i64 r.k.2.1, .int .i64 r.k.2.2.1, .int .i64 r.k.2.2.2]] w3 fun e w' => ∃ (lv' : Value) (E' : List RE) (Ar : Option Addr) (cr : Nat), e = .returned (.tuple #[.agg #[.int .i64 eA.x0, .int .i64 eA.y0, .int .i64 eA.x1, .int .i64 eA.y1, .slice Ar mx cr], .bool true]) ∧ RfS W1 w' N q bud E' lv' ∧ E'.map ren = (ek, eA, eM) :: dropE r.k L ∧ Only w3 w' [q] ∧ Lists W1 N Ar eM ∧ Bytes8 eM := by
    refine (rget_hit W1 w3 N q bud E lv r.k rf3 (by rw [HS.out.2.2.1]; exact HS.out.1.1.sum.2.1) HS.out.2.2.2.2.1 (by
      have hm := HE.out.2.2.1
      rw [← HS.out.2.2.1] at hm
      obtain ⟨x, hx, hxe⟩ := List.mem_map.1 hm
      exact ⟨x, hx, by rw [← HE.out.2.1]; exact congrArg (fun e : En => e.1) hxe⟩)).mono ?_
    rintro e w' ⟨lv', E', x, hx, hxk, rfl, r', e1, o⟩
    have hxe : ren x = (ek, eA, eM) := key_one HE.out.1 (by rw [← HS.out.2.2.1]; exact List.mem_map.2 ⟨x, hx, rfl⟩) HE.out.2.2.1 (by rw [HE.out.2.1]; exact hxk)
    have hbx : x.bx = eA := congrArg (fun e : En => e.2.1) hxe
    have hbs : x.bs = eM := congrArg (fun e : En => e.2.2) hxe
    obtain ⟨Ar, cr, hrv, hl, h8⟩ := HS.out.2.1.ok x hx
    rw [hbs] at hrv hl h8
    exact ⟨lv', E', Ar, cr, by rw [hbx, hrv, HE.out.2.2.2], r', by rw [e1, hxe, HS.out.2.2.1], o, hl, h8⟩
  have HX := Lib.hid (And.intro (s2.below B3) (And.intro K7 (And.intro rf3 (gb.below B3))))
  clear s2 m2 hw3 B3 hq7 K7 rf3 GG gb gs t0 t1 t2 t3 t4 t5 t6 t7 t8 t9 t10 tl
  have t0 := K3.cell 0; have t1 := K3.cell 1; have t2 := K3.cell 2; have t3 := K3.cell 3; have t4 := K3.cell 4; have t5 := K3.cell 5; have t6 := K3.cell 6; have t7 := K3.cell 7; have t8 := K3.cell 8; have t9 := K3.cell 9; have t10 := K3.cell 10; have tl := K3.lt; simp only [List.getElem?_toArray, List.getElem?_cons_succ, List.getElem?_cons_zero] at t0 t1 t2 t3 t4 t5 t6 t7 t8 t9 t10
  go_upto_region 5 with (first
    | (go_at_call 25; refine (RG).mono ?_; rintro e w4 ⟨lv4, E4, Ar, cr, rfl, r4, e4, o4, hl4, h84⟩; have HR9 := Lib.hid (Blk.new w4 37 #[.int .i64 0, .int .i64 0, .int .i64 0, .int .i64 0, .slice none 0 0]))
    | (refine wpList_store_row rfl 37 (.tmp 9) (.tmp 35) (by with_reducible rfl) w4.heap.size #[.int .i64 eA.x0, .int .i64 eA.y0, .int .i64 eA.x1, .int .i64 eA.y1, .slice Ar mx cr] (by rfl) (by rfl) 37 #[.int .i64 0, .int .i64 0, .int .i64 0, .int .i64 0, .slice none 0 0] (by exact HR9.out) mkInfoL rfl (by simp [Value.oneCell']) ?_))
  obtain ⟨w5, hw5⟩ : ∃ w5, w5 = (w4.alloc (.cells #[.int .i64 0, .int .i64 0, .int .i64 0, .int .i64 0, .slice none 0 0] 37)).setRow w4.heap.size #[.int .i64 eA.x0, .int .i64 eA.y0, .int .i64 eA.x1, .int .i64 eA.y1, .slice Ar mx cr] := ⟨_, rfl⟩
  rw [← hw5]
  have B5 : Below w4.heap.size w4 w5 := hw5 ▸ below_setRow (g := w4.heap.size) (below_a1 _ _) (Nat.le_refl _) _
  have K9 : Blk w5 w4.heap.size 37 #[.int .i64 eA.x0, .int .i64 eA.y0, .int .i64 eA.x1, .int .i64 eA.y1, .slice Ar mx cr] := by rw [hw5]; exact blk_row HR9.out _
  have K75 := (HX.out.2.1.only o4 (by simp; exact blk_neL HX.out.2.1 HX.out.2.2.1.blk (by decide))).below B5
  have G5 := (HX.out.2.2.2.only o4 (by simp; exact blk_neL HX.out.2.2.2 HX.out.2.2.1.blk (by decide))).below B5
  have s5 := (HX.out.1.ref HX.out.2.2.1.blk HX.out.2.2.1.low o4).below B5
  have r5 := r4.below B5
  have hl5 : Lists w5 w5.heap.size Ar eM := ⟨hl4.nil, fun a ha j v hv => (r5.base.cell (p := a.add j) (by rw [addr_add_block]; exact hl4.lt a ha (by intro e; rw [e] at hv; simp at hv))).trans (hl4.cell a ha j v hv), fun a ha hx => Nat.lt_of_lt_of_le (hl4.lt a ha hx) (by have := r5.low; have := r5.blk.lt; omega)⟩
  have SS := rsame_yes eA (some ⟨g1, 0, none⟩) Ar mx mx cr eM w5 (lists_blkL G5) hl5 HE.out.2.2.2.symm h84
  have HY := Lib.hid (And.intro s5 (And.intro r5 e4))
  have m0 := K75.cell 0; have m1 := K75.cell 1; have m2 := K75.cell 2; have m3 := K75.cell 3; have m4 := K75.cell 4; have ml := K75.lt; simp only [List.getElem?_toArray, List.getElem?_cons_succ, List.getElem?_cons_zero] at m0 m1 m2 m3 m4
  have u0 := K9.cell 0; have u1 := K9.cell 1; have u2 := K9.cell 2; have u3 := K9.cell 3; have u4 := K9.cell 4; have ul := K9.lt; simp only [List.getElem?_toArray, List.getElem?_cons_succ, List.getElem?_cons_zero] at u0 u1 u2 u3 u4
  clear s5 r5 e4 r4 o4 hw5 B5 K9 K75 G5 K3 t0 t1 t2 t3 t4 t5 t6 t7 t8 t9 t10 tl RG hl5 hl4 h84
  go_wp2_with (go_at_call 14; refine (SS).mono ?_; rintro e w6 ⟨rfl, b6⟩)
  refine bodyPost_ret (results_tmp rfl _ _ _) rfl ⟨bud, (ek, eA, eM) :: dropE r.k L, rfl, C2, E4, lv4, HY.out.1.below b6, HY.out.2.1.below b6, HY.out.2.2, ?_⟩
  have := HS.out.2.2.2.2.2
  have h2 := HS.out.2.2.2.1
  simp only [sumE]
  omega
end Go.Proofs.Ytaaboochologaaa
