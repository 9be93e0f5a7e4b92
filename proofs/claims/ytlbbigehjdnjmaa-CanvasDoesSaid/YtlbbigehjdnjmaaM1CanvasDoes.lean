/- Part 12 of the proof: CnS. -/
import Derived.Test.YtlbbigehjdnjmaaM0CanvasDoes

namespace Go.Proofs.Ytlbbigehjdnjmaa
open Go Go.RowKit
set_option linter.unusedVariables false
set_option linter.unusedSimpArgs false

theorem Only.then_below2 {w a c : World} {fp : List Nat} (h : Only w a fp) (k : Below a.heap.size a c) : Only w c fp := h.then_below k
set_option maxRecDepth 100000 in
set_option maxHeartbeats 4000000 in
theorem rcblend_z (q g wd ht n2 mc : Nat) (E : List Value) (A S : Q) (Am : Option Addr) (M : List Value) (x y c : Int) (X0 Y0 X1 Y1 bw bh : Nat) (w : World) (h : RCn w q g wd ht E) (hz : zerB A = true) (hAS : A = S) (hn2 : n2 = M.length) (hS : shS A x y = S)
    (hR : meetR ⟨0, 0, wd, ht⟩ S = ⟨X0, Y0, X1, Y1⟩) (hX : X0 ≤ X1 ∧ X1 ≤ wd ∧ (Y0 < Y1 → X0 < X1)) (hY : Y0 ≤ Y1 ∧ Y1 ≤ ht) (hin : Y0 < Y1 → S.x0 ≤ X0 ∧ X1 ≤ S.x1 ∧ S.y0 ≤ Y0 ∧ Y1 ≤ S.y1)
    (hbx : A.x1 - A.x0 = (bw : Nat) ∧ S.x1 - S.x0 = (bw : Nat) ∧ M.length = bw * bh ∧ S.y1 - S.y0 = (bh : Nat) ∧ M.length ≤ 4194304 ∧ bw ≤ 1048576 ∧ bh ≤ 1048576) (h4 : in4 A = true) (hxy : (inZ (-1048576) 1048576 x && inZ (-1048576) 1048576 y) = true)
    (hl : Lists w w.heap.size Am M) (hM8 : Bytes8 M) (hmc : M.length ≤ mc) (hsep : ∀ a, Am = some a → M ≠ [] → a.block ≠ g) (hc : inZ 0 255 c = true) :
    Calls Try.prog 34 #[.pointer (some ⟨q, 0, none⟩), .agg #[.int .i64 A.x0, .int .i64 A.y0, .int .i64 A.x1, .int .i64 A.y1, .slice Am n2 mc], .int .i64 x, .int .i64 y, .int .i64 c] w fun e w' => e = .returned (.agg #[.int .i64 (X0 : Nat), .int .i64 (Y0 : Nat), .int .i64 (X1 : Nat), .int .i64 (Y1 : Nat)]) ∧ RCn w' q g wd ht (rowsR wd X0 X1 Y0 (blF A M x y c wd) (Y1 - Y0) E) ∧ Only w w' [g] := by
  obtain ⟨B0, hB0⟩ : ∃ B0 : Q, B0 = ⟨0, 0, wd, ht⟩ := ⟨_, rfl⟩
  have CM := fun W => rmeet_any B0 S W
  rw [hB0, hR] at CM
  dsimp only at CM
  have HSQ := Lib.hid h.sq
  have hw3 : Below w.heap.size w (((w.alloc (.cells #[.int .i64 A.x0, .int .i64 A.y0, .int .i64 A.x1, .int .i64 A.y1, .slice Am n2 mc] 35)).alloc (.cells #[.int .i64 0, .int .i64 0, .int .i64 0, .int .i64 0] 32)).alloc (.cells #[.int .i64 0, .int .i64 0, .int .i64 0, .int .i64 0] 32)) := below_a3 _ _ _ _
  have K6 := ((Blk.new w 35 #[.int .i64 A.x0, .int .i64 A.y0, .int .i64 A.x1, .int .i64 A.y1, .slice Am n2 mc]).below (below_a1 _ (.cells #[.int .i64 0, .int .i64 0, .int .i64 0, .int .i64 0] 32))).below (below_a1 _ (.cells #[.int .i64 0, .int .i64 0, .int .i64 0, .int .i64 0] 32))
  have K10 := (Blk.new (w.alloc (.cells #[.int .i64 A.x0, .int .i64 A.y0, .int .i64 A.x1, .int .i64 A.y1, .slice Am n2 mc] 35)) 32 #[.int .i64 0, .int .i64 0, .int .i64 0, .int .i64 0]).below (below_a1 _ (.cells #[.int .i64 0, .int .i64 0, .int .i64 0, .int .i64 0] 32))
  have K11 := Blk.new ((w.alloc (.cells #[.int .i64 A.x0, .int .i64 A.y0, .int .i64 A.x1, .int .i64 A.y1, .slice Am n2 mc] 35)).alloc (.cells #[.int .i64 0, .int .i64 0, .int .i64 0, .int .i64 0] 32)) 32 #[.int .i64 0, .int .i64 0, .int .i64 0, .int .i64 0]
  simp only [World.size_alloc] at K6 K10 K11
  have HK11 := Lib.hid K11
  have o1 := only_row (g := w.heap.size + 1 + 1) (Only.refl (((w.alloc (.cells #[.int .i64 A.x0, .int .i64 A.y0, .int .i64 A.x1, .int .i64 A.y1, .slice Am n2 mc] 35)).alloc (.cells #[.int .i64 0, .int .i64 0, .int .i64 0, .int .i64 0] 32)).alloc (.cells #[.int .i64 0, .int .i64 0, .int .i64 0, .int .i64 0] 32)) [w.heap.size + 1 + 1]) (.inl (by simp)) (qV A)
  have K11a := blk_row K11 (qV A)
  have HK11a := Lib.hid K11a
  
  have K11b := K11a
  have K6b := K6.only o1 (by simp; omega)
  have K10b := K10.only o1 (by simp)
  have hw2 : Below w.heap.size w ((((w.alloc (.cells #[.int .i64 A.x0, .int .i64 A.y0, .int .i64 A.x1, .int .i64 A.y1, .slice Am n2 mc] 35)).alloc (.cells #[.int .i64 0, .int .i64 0, .int .i64 0, .int .i64 0] 32)).alloc (.cells #[.int .i64 0, .int .i64 0, .int .i64 0, .int .i64 0] 32)).setRow (w.heap.size + 1 + 1) (qV A)) := below_setRow hw3 (by omega) _
  have HC2 := Lib.hid (h.below hw2)
  have HX := Lib.hid hX
  have HY := Lib.hid hY
  have HH := Lib.hid h
  have HC := Lib.hid hc
  have HM8 := Lib.hid hM8
  have HBX := Lib.hid hbx
  have E12 := Lib.hid (show wrap64 (A.x1 - A.x0) = (bw : Int) from by rw [hbx.1]; exact w64n (by omega) (by omega))
  have HSH := Lib.hid hS
  have HIN2 := Lib.hid hin
  have HKB := Lib.hid (show KeepB (blF A M x y c wd) wd X0 X1 Y0 Y1 from bln_keep c M _ _ _ wd X0 X1 Y0 Y1 hc hM8)
  have hn6 : q ≠ w.heap.size + 1 ∧ g ≠ w.heap.size + 1 := by
    have h1 := h.blk.lt
    have h2 := h.row.lt
    omega
  have hg := h.row.lt
  have HNQ := Lib.hid hn6
  have q1 := fun w => neB_run A.x0 A.y0 A.x1 A.y1 0 0 0 0 w
  have q2 := fun x y w => neB_guard A.x0 A.y0 A.x1 A.y1 0 0 0 0 x y w
  rw [show eq4 A.x0 A.y0 A.x1 A.y1 0 0 0 0 = true from hz] at q1
  have t0 : ((((w.alloc (.cells #[.int .i64 A.x0, .int .i64 A.y0, .int .i64 A.x1, .int .i64 A.y1, .slice Am n2 mc] 35)).alloc (.cells #[.int .i64 0, .int .i64 0, .int .i64 0, .int .i64 0] 32)).alloc (.cells #[.int .i64 0, .int .i64 0, .int .i64 0, .int .i64 0] 32)).setRow (w.heap.size + 1 + 1) (qV A)).cell? ⟨w.heap.size + 1 + 1, 0, none⟩ = some (.int .i64 A.x0) := (K11a.cell 0).trans rfl
  have t1 : ((((w.alloc (.cells #[.int .i64 A.x0, .int .i64 A.y0, .int .i64 A.x1, .int .i64 A.y1, .slice Am n2 mc] 35)).alloc (.cells #[.int .i64 0, .int .i64 0, .int .i64 0, .int .i64 0] 32)).alloc (.cells #[.int .i64 0, .int .i64 0, .int .i64 0, .int .i64 0] 32)).setRow (w.heap.size + 1 + 1) (qV A)).cell? ⟨w.heap.size + 1 + 1, 1, none⟩ = some (.int .i64 A.y0) := (K11a.cell 1).trans rfl
  have t2 : ((((w.alloc (.cells #[.int .i64 A.x0, .int .i64 A.y0, .int .i64 A.x1, .int .i64 A.y1, .slice Am n2 mc] 35)).alloc (.cells #[.int .i64 0, .int .i64 0, .int .i64 0, .int .i64 0] 32)).alloc (.cells #[.int .i64 0, .int .i64 0, .int .i64 0, .int .i64 0] 32)).setRow (w.heap.size + 1 + 1) (qV A)).cell? ⟨w.heap.size + 1 + 1, 2, none⟩ = some (.int .i64 A.x1) := (K11a.cell 2).trans rfl
  have t3 : ((((w.alloc (.cells #[.int .i64 A.x0, .int .i64 A.y0, .int .i64 A.x1, .int .i64 A.y1, .slice Am n2 mc] 35)).alloc (.cells #[.int .i64 0, .int .i64 0, .int .i64 0, .int .i64 0] 32)).alloc (.cells #[.int .i64 0, .int .i64 0, .int .i64 0, .int .i64 0] 32)).setRow (w.heap.size + 1 + 1) (qV A)).cell? ⟨w.heap.size + 1 + 1, 3, none⟩ = some (.int .i64 A.y1) := (K11a.cell 3).trans rfl
  have tl := K11a.lt
  have m0 := K6.cell 0; have m1 := K6.cell 1; have m2 := K6.cell 2; have m3 := K6.cell 3; have ml := K6.lt
  have b0 := K6b.cell 0; have b1 := K6b.cell 1; have b2 := K6b.cell 2; have b3 := K6b.cell 3; have bl := K6b.lt
  simp only [List.getElem?_toArray, List.getElem?_cons_succ, List.getElem?_cons_zero] at m0 m1 m2 m3 b0 b1 b2 b3
  
  have eV : qV A = qV S := by rw [hAS]
  have K11b : Blk ((((w.alloc (.cells #[.int .i64 A.x0, .int .i64 A.y0, .int .i64 A.x1, .int .i64 A.y1, .slice Am n2 mc] 35)).alloc (.cells #[.int .i64 0, .int .i64 0, .int .i64 0, .int .i64 0] 32)).alloc (.cells #[.int .i64 0, .int .i64 0, .int .i64 0, .int .i64 0] 32)).setRow (w.heap.size + 1 + 1) (qV A)) (w.heap.size + 1 + 1) 32 (qV S) := by rw [← eV]; exact K11b
  clear eV
  obtain ⟨w2, hw2e⟩ : ∃ w2, w2 = ((((w.alloc (.cells #[.int .i64 A.x0, .int .i64 A.y0, .int .i64 A.x1, .int .i64 A.y1, .slice Am n2 mc] 35)).alloc (.cells #[.int .i64 0, .int .i64 0, .int .i64 0, .int .i64 0] 32)).alloc (.cells #[.int .i64 0, .int .i64 0, .int .i64 0, .int .i64 0] 32)).setRow (w.heap.size + 1 + 1) (qV A)) := ⟨_, rfl⟩
  rw [← hw2e] at HC2 K6b K10b K11b hw2
  have k0 : w2.cell? ⟨w.heap.size + 1 + 1, 0, none⟩ = some (.int .i64 S.x0) := (K11b.cell 0).trans rfl
  have k1 : w2.cell? ⟨w.heap.size + 1 + 1, 1, none⟩ = some (.int .i64 S.y0) := (K11b.cell 1).trans rfl
  have k2 : w2.cell? ⟨w.heap.size + 1 + 1, 2, none⟩ = some (.int .i64 S.x1) := (K11b.cell 2).trans rfl
  have k3 : w2.cell? ⟨w.heap.size + 1 + 1, 3, none⟩ = some (.int .i64 S.y1) := (K11b.cell 3).trans rfl
  have kl := K11b.lt
  have HD := Lib.hid (fun (X : World) (hX : Below w2.heap.size w2 X) => And.intro ((hX.cell (p := ⟨w.heap.size + 1 + 1, 0, none⟩) kl).trans k0) (And.intro ((hX.cell (p := ⟨w.heap.size + 1 + 1, 1, none⟩) kl).trans k1) (And.intro ((hX.cell (p := ⟨w.heap.size + 1 + 1, 2, none⟩) kl).trans k2) (And.intro ((hX.cell (p := ⟨w.heap.size + 1 + 1, 3, none⟩) kl).trans k3) (Nat.lt_of_lt_of_le kl hX.size)))))
  have CA := fun (V : World) (hV : Below w2.heap.size w2 V) => rall_any q g wd ht E V (HC2.out.below hV)
  have HK6 := Lib.hid K10b
  have HW2 := Lib.hid hw2
  have HW2E := Lib.hid hw2e
  have HMB := Lib.hid (fun (wc : World) (hwc : Below w2.heap.size w2 wc) (wr : World) (hwr : Only wc wr [g]) => by
    have h6 := (K6b.below hwc).only hwr (by simp; omega)
    have h11 := (K11b.below hwc).only hwr (by simp; omega)
    have hby : ∀ i v, M[i]? = some v → ∃ mb mo, Am = some ⟨mb, mo, none⟩ ∧ wr.cell? ⟨mb, mo + i, none⟩ = some v := fun i v hv => by
      have hnn : M ≠ [] := by rintro rfl; simp at hv
      obtain ⟨mb, mo, hA, hlt, hcell⟩ := hl.plain hnn
      refine ⟨mb, mo, hA, ?_⟩
      rw [only_cell hwr (p := ⟨mb, mo + i, none⟩) (Nat.lt_of_lt_of_le (Nat.lt_of_lt_of_le hlt hw2.size) hwc.size) (by simp; exact fun e => hsep _ hA hnn (by rw [e])), hwc.cell (p := ⟨mb, mo + i, none⟩) (Nat.lt_of_lt_of_le hlt hw2.size), hw2.cell (p := ⟨mb, mo + i, none⟩) hlt]
      exact hcell i v hv
    exact (show wr.cell? ⟨w.heap.size, 4, none⟩ = some (.slice Am n2 mc) ∧ w.heap.size < wr.heap.size ∧ wr.cell? ⟨w.heap.size + 1 + 1, 0, none⟩ = some (.int .i64 S.x0) ∧ wr.cell? ⟨w.heap.size + 1 + 1, 1, none⟩ = some (.int .i64 S.y0) ∧ w.heap.size + 1 + 1 < wr.heap.size ∧ ∀ i v, M[i]? = some v → ∃ mb mo, Am = some ⟨mb, mo, none⟩ ∧ wr.cell? ⟨mb, mo + i, none⟩ = some v from ⟨(h6.cell 4).trans rfl, h6.lt, (h11.cell 0).trans rfl, (h11.cell 1).trans rfl, h11.lt, hby⟩))
  have HN2 := Lib.hid hn2
  clear h hR hB0 hX hY hin hbx h4 hl hM8 hmc hsep hc hn6 hS hz k0 k1 k2 k3 kl K6 K10 K11 K11a K11b K6b K10b hw2 hw2e hw3 o1 hn2 hAS hxy
  go_enter Try.func34, Try.ntmps34
  go_upto_region 5 with (first | (refine wpList_store_row rfl 32 (.tmp 11) (.tmp 18) (by with_reducible rfl) (w.heap.size + 1 + 1) (qV A) (by rfl) (by rfl) 32 #[.int .i64 0, .int .i64 0, .int .i64 0, .int .i64 0] (by exact HK11.out) (bxInfoF _) rfl (by simp [qV, Value.oneCell']) ?_))
  rw [← HW2E.out]
  clear t0 t1 t2 t3 tl m0 m1 m2 m3 ml b0 b1 b2 b3 bl q1 q2
  go_cut [12, 13] from 46 (fun v12 p wx => v12 = .int .i64 (bw : Nat) ∧ ∃ p7 : Nat, p = .pointer (some ⟨p7, 0, none⟩) ∧ Hid (Blk wx p7 32 #[.int .i64 (X0 : Nat), .int .i64 (Y0 : Nat), .int .i64 (X1 : Nat), .int .i64 (Y1 : Nat)] ∧ Below w2.heap.size w2 wx ∧ w2.heap.size ≤ p7))
  case first =>
    have hI : Below w2.heap.size w2 w2.drew := (Below.refl _ _).drew
    refine wp_region_mix (fun V => Below w2.heap.size w2 V) (Mx.qs [0, 2] (.two 1 4 (.two 3 4 (.one 4 (.one 5 .leaf)) (.one 3 (.one 5 .leaf))) (.one 1 (.one 3 (.one 5 .leaf))))) (by kernel_rfl) (by kernel_rfl) hI ?_
    simp only [Mx.qs]
    repeat (first
      | (refine MixL.skip (o := ?_) ?_ ?_ ?_; rotate_left; (focus (first | (simp only [List.getElem?_toArray, List.getElem?_cons_succ, List.getElem?_cons_zero]; with_reducible rfl) | (simp only [List.getElem?_toArray, List.getElem?_cons_zero]; with_reducible rfl))); (focus rfl); simp only [Act.put, List.setIfInBounds_toArray, List.set_cons_zero, List.set_cons_succ])
      | (refine MixL.val (o := ?_) (v := ?_) ?_ ?_ ?_ ?_ ?_; rotate_left 2; (focus (first | (simp only [List.getElem?_toArray, List.getElem?_cons_succ, List.getElem?_cons_zero]; with_reducible rfl) | (simp only [List.getElem?_toArray, List.getElem?_cons_zero]; with_reducible rfl))); (focus (intro _ _ h; cases h)); (focus rfl); (focus (intro w' hJ; obtain ⟨d0, d1, d2, d3, dl⟩ := HD.out _ hJ; go_simp <;> with_reducible rfl)); simp only [Act.put, List.setIfInBounds_toArray, List.set_cons_zero, List.set_cons_succ]))
    refine MixL.both ?_ ?_
    · refine MixL.call (o := ?_) (f := ?_) (args := ?_) ?_ ?_ ?_ ?_
      rotate_left 3
      (focus (first | (simp only [List.getElem?_toArray, List.getElem?_cons_succ, List.getElem?_cons_zero]; with_reducible rfl) | (simp only [List.getElem?_toArray, List.getElem?_cons_zero]; with_reducible rfl)))
      (focus rfl)
      (focus (go_simp; (constructor <;> with_reducible rfl)))
      with_reducible refine (CA _ hI).mono ?_
      rintro e wa ⟨rfl, ba⟩; have hI1 := hI.trans (ba.mono hI.size); refine ⟨_, rfl, hI1, ?_⟩
      simp only [Act.put, List.setIfInBounds_toArray, List.set_cons_zero, List.set_cons_succ]
      refine MixL.both ?_ ?_
      · refine MixL.call (o := ?_) (f := ?_) (args := ?_) ?_ ?_ ?_ ?_
        rotate_left 3
        (focus (first | (simp only [List.getElem?_toArray, List.getElem?_cons_succ, List.getElem?_cons_zero]; with_reducible rfl) | (simp only [List.getElem?_toArray, List.getElem?_cons_zero]; with_reducible rfl)))
        (focus rfl)
        (focus (go_simp; (constructor <;> with_reducible rfl)))
        with_reducible refine (CM _).mono ?_
        rintro e wb ⟨rfl, bb⟩; have hI3 := hI1.trans (bb.mono hI1.size); refine ⟨_, rfl, hI3, ?_⟩
        simp only [Act.put, List.setIfInBounds_toArray, List.set_cons_zero, List.set_cons_succ]
        have hI4 := hI3.alloc hI3.size (.cells #[.int .i64 0, .int .i64 0, .int .i64 0, .int .i64 0] 32)
        have K7 := Blk.new wb 32 #[.int .i64 0, .int .i64 0, .int .i64 0, .int .i64 0]
        have hs := below_setRow hI4 hI3.size #[.int .i64 (X0 : Nat), .int .i64 (Y0 : Nat), .int .i64 (X1 : Nat), .int .i64 (Y1 : Nat)]
        refine MixL.does (o := ?_) (v := ?_) (w1 := ?_) ?_ ?_ ?_ ?_ ?_
        rotate_left 3
        (focus (first | (simp only [List.getElem?_toArray, List.getElem?_cons_succ, List.getElem?_cons_zero]; with_reducible rfl) | (simp only [List.getElem?_toArray, List.getElem?_cons_zero]; with_reducible rfl)))
        (focus rfl)
        (focus (go_simp; (constructor <;> with_reducible rfl)))
        (focus (exact hI4))
        simp only [Act.put, List.setIfInBounds_toArray, List.set_cons_zero, List.set_cons_succ]
        refine MixL.store (o := ?_) (w1 := (wb.alloc (.cells #[.int .i64 0, .int .i64 0, .int .i64 0, .int .i64 0] 32)).setRow wb.heap.size #[.int .i64 (X0 : Nat), .int .i64 (Y0 : Nat), .int .i64 (X1 : Nat), .int .i64 (Y1 : Nat)]) ?_ ?_ ?_ ?_ ?_
        rotate_left 1
        (focus (first | (simp only [List.getElem?_toArray, List.getElem?_cons_succ, List.getElem?_cons_zero]; with_reducible rfl) | (simp only [List.getElem?_toArray, List.getElem?_cons_zero]; with_reducible rfl)))
        (focus rfl)
        (focus (refine exec_store_row 32 _ _ (by rfl) wb.heap.size #[.int .i64 (X0 : Nat), .int .i64 (Y0 : Nat), .int .i64 (X1 : Nat), .int .i64 (Y1 : Nat)] (by rfl) (by rfl) 32 #[.int .i64 0, .int .i64 0, .int .i64 0, .int .i64 0] K7 bxInfo rfl (by simp [Value.oneCell'])))
        (focus (exact hs))
        simp only [Act.put, List.setIfInBounds_toArray, List.set_cons_zero, List.set_cons_succ]
        refine MixL.nil ?_
        go_wp2
        go_meet
        exact ⟨congrArg (Value.int .i64) E12.out, wb.heap.size, rfl, Lib.hid ⟨blk_row K7 _, hs, hI3.size⟩⟩
      · have hI4 := hI1.alloc hI1.size (.cells #[.int .i64 0, .int .i64 0, .int .i64 0, .int .i64 0] 32)
        refine MixL.does (o := ?_) (v := ?_) (w1 := ?_) ?_ ?_ ?_ ?_ ?_
        rotate_left 3
        (focus (first | (simp only [List.getElem?_toArray, List.getElem?_cons_succ, List.getElem?_cons_zero]; with_reducible rfl) | (simp only [List.getElem?_toArray, List.getElem?_cons_zero]; with_reducible rfl)))
        (focus rfl)
        (focus (go_simp; (constructor <;> with_reducible rfl)))
        (focus (exact hI4))
        simp only [Act.put, List.setIfInBounds_toArray, List.set_cons_zero, List.set_cons_succ]
        refine MixL.call (o := ?_) (f := ?_) (args := ?_) ?_ ?_ ?_ ?_
        rotate_left 3
        (focus (first | (simp only [List.getElem?_toArray, List.getElem?_cons_succ, List.getElem?_cons_zero]; with_reducible rfl) | (simp only [List.getElem?_toArray, List.getElem?_cons_zero]; with_reducible rfl)))
        (focus rfl)
        (focus (go_simp; (constructor <;> with_reducible rfl)))
        with_reducible refine (CM _).mono ?_
        rintro e wb ⟨rfl, bb⟩; have hI3 := hI4.trans (bb.mono hI4.size); refine ⟨_, rfl, hI3, ?_⟩
        simp only [Act.put, List.setIfInBounds_toArray, List.set_cons_zero, List.set_cons_succ]
        have K7 := (Blk.new wa 32 #[.int .i64 0, .int .i64 0, .int .i64 0, .int .i64 0]).below bb
        have hs := below_setRow hI3 hI1.size #[.int .i64 (X0 : Nat), .int .i64 (Y0 : Nat), .int .i64 (X1 : Nat), .int .i64 (Y1 : Nat)]
        refine MixL.store (o := ?_) (w1 := wb.setRow wa.heap.size #[.int .i64 (X0 : Nat), .int .i64 (Y0 : Nat), .int .i64 (X1 : Nat), .int .i64 (Y1 : Nat)]) ?_ ?_ ?_ ?_ ?_
        rotate_left 1
        (focus (first | (simp only [List.getElem?_toArray, List.getElem?_cons_succ, List.getElem?_cons_zero]; with_reducible rfl) | (simp only [List.getElem?_toArray, List.getElem?_cons_zero]; with_reducible rfl)))
        (focus rfl)
        (focus (refine exec_store_row 32 _ _ (by rfl) wa.heap.size #[.int .i64 (X0 : Nat), .int .i64 (Y0 : Nat), .int .i64 (X1 : Nat), .int .i64 (Y1 : Nat)] (by rfl) (by rfl) 32 #[.int .i64 0, .int .i64 0, .int .i64 0, .int .i64 0] K7 bxInfo rfl (by simp [Value.oneCell'])))
        (focus (exact hs))
        simp only [Act.put, List.setIfInBounds_toArray, List.set_cons_zero, List.set_cons_succ]
        refine MixL.nil ?_
        go_wp2
        go_meet
        exact ⟨congrArg (Value.int .i64) E12.out, wa.heap.size, rfl, Lib.hid ⟨blk_row K7 _, hs, hI1.size⟩⟩
    · have hI4 := ((Below.refl w2.heap.size w2).alloc (Nat.le_refl _) (.cells #[.int .i64 0, .int .i64 0, .int .i64 0, .int .i64 0] 32)).drew
      refine MixL.does (o := ?_) (v := ?_) (w1 := ?_) ?_ ?_ ?_ ?_ ?_
      rotate_left 3
      (focus (first | (simp only [List.getElem?_toArray, List.getElem?_cons_succ, List.getElem?_cons_zero]; with_reducible rfl) | (simp only [List.getElem?_toArray, List.getElem?_cons_zero]; with_reducible rfl)))
      (focus rfl)
      (focus (go_simp; (constructor <;> with_reducible rfl)))
      (focus (exact hI4))
      simp only [Act.put, List.setIfInBounds_toArray, List.set_cons_zero, List.set_cons_succ]
      refine MixL.call (o := ?_) (f := ?_) (args := ?_) ?_ ?_ ?_ ?_
      rotate_left 3
      (focus (first | (simp only [List.getElem?_toArray, List.getElem?_cons_succ, List.getElem?_cons_zero]; with_reducible rfl) | (simp only [List.getElem?_toArray, List.getElem?_cons_zero]; with_reducible rfl)))
      (focus rfl)
      (focus (go_simp; (constructor <;> with_reducible rfl)))
      with_reducible refine (CA _ hI4).mono ?_
      rintro e wa ⟨rfl, ba⟩; have hI1 := hI4.trans (ba.mono hI4.size); refine ⟨_, rfl, hI1, ?_⟩
      simp only [Act.put, List.setIfInBounds_toArray, List.set_cons_zero, List.set_cons_succ]
      refine MixL.call (o := ?_) (f := ?_) (args := ?_) ?_ ?_ ?_ ?_
      rotate_left 3
      (focus (first | (simp only [List.getElem?_toArray, List.getElem?_cons_succ, List.getElem?_cons_zero]; with_reducible rfl) | (simp only [List.getElem?_toArray, List.getElem?_cons_zero]; with_reducible rfl)))
      (focus rfl)
      (focus (go_simp; (constructor <;> with_reducible rfl)))
      with_reducible refine (CM _).mono ?_
      rintro e wb ⟨rfl, bb⟩; have hI3 := hI1.trans (bb.mono hI1.size); refine ⟨_, rfl, hI3, ?_⟩
      simp only [Act.put, List.setIfInBounds_toArray, List.set_cons_zero, List.set_cons_succ]
      have K7 := Blk.below (Blk.below (show Blk (w2.drew.alloc (.cells #[.int .i64 0, .int .i64 0, .int .i64 0, .int .i64 0] 32)) w2.heap.size 32 #[.int .i64 0, .int .i64 0, .int .i64 0, .int .i64 0] from Blk.new w2.drew 32 #[.int .i64 0, .int .i64 0, .int .i64 0, .int .i64 0]) ba) bb
      have hs := below_setRow hI3 (Nat.le_refl _) #[.int .i64 (X0 : Nat), .int .i64 (Y0 : Nat), .int .i64 (X1 : Nat), .int .i64 (Y1 : Nat)]
      refine MixL.store (o := ?_) (w1 := wb.setRow w2.heap.size #[.int .i64 (X0 : Nat), .int .i64 (Y0 : Nat), .int .i64 (X1 : Nat), .int .i64 (Y1 : Nat)]) ?_ ?_ ?_ ?_ ?_
      rotate_left 1
      (focus (first | (simp only [List.getElem?_toArray, List.getElem?_cons_succ, List.getElem?_cons_zero]; with_reducible rfl) | (simp only [List.getElem?_toArray, List.getElem?_cons_zero]; with_reducible rfl)))
      (focus rfl)
      (focus (refine exec_store_row 32 _ _ (by rfl) w2.heap.size #[.int .i64 (X0 : Nat), .int .i64 (Y0 : Nat), .int .i64 (X1 : Nat), .int .i64 (Y1 : Nat)] (by rfl) (by rfl) 32 #[.int .i64 0, .int .i64 0, .int .i64 0, .int .i64 0] K7 bxInfo rfl (by simp [Value.oneCell'])))
      (focus (exact hs))
      simp only [Act.put, List.setIfInBounds_toArray, List.set_cons_zero, List.set_cons_succ]
      refine MixL.nil ?_
      go_wp2
      go_meet
      exact ⟨congrArg (Value.int .i64) E12.out, w2.heap.size, rfl, Lib.hid ⟨blk_row K7 _, hs, Nat.le_refl _⟩⟩
  case rest =>
    obtain ⟨rfl, p7, rfl, HF⟩ := hcut
    have HMB := Lib.hid (HMB.out _ HF.out.2.1)
    have hF := HF.out
    have HK7 := Lib.hid hF.1
    have HBW := Lib.hid hF.2.1
    have HP7 := Lib.hid hF.2.2
    have HCW := Lib.hid (HC2.out.below hF.2.1)
    have hne7 : p7 ≠ g := cnblk_ne hF.1 HCW.out.row (by decide)
    have hqg : q ≠ g := HCW.out.ne
    have k0 := HK7.out.cell 0; have k1 := HK7.out.cell 1; have k2 := HK7.out.cell 2; have k3 := HK7.out.cell 3; have kl := HK7.out.lt
    simp only [List.getElem?_toArray, List.getElem?_cons_succ, List.getElem?_cons_zero] at k0 k1 k2 k3
    clear HF hF
    go_wp2
    clear k0 k1 k2 k3 kl
    go_loopw [14, 15, 16] (fun yv _ _ wr => ∃ k : Nat, k ≤ Y1 - Y0 ∧ yv = .int .i64 ((Y0 + k : Nat) : Int) ∧ RCn wr q g wd ht (rowsR wd X0 X1 Y0 (blF A M x y c wd) k E) ∧ Only wc wr [g]) (fun yv _ _ _ => Y1 - (intOf yv).toNat)
    case atStart => exact ⟨0, Nat.zero_le _, rfl, HCW.out, Only.refl _ _⟩
    case round =>
      obtain ⟨k, hk, rfl, hcr, hor⟩ := hrel
      have HCR := Lib.hid hcr
      have HOR := Lib.hid hor
      have K7r := HK7.out.only hor (by simp [hne7])
      have k0 := K7r.cell 0; have k1 := K7r.cell 1; have k2 := K7r.cell 2; have k3 := K7r.cell 3; have kl := K7r.lt
      simp only [List.getElem?_toArray, List.getElem?_cons_succ, List.getElem?_cons_zero] at k0 k1 k2 k3
      clear hcr hor K7r
      have hYY := HY.out
      by_cases hlt : k < Y1 - Y0
      · obtain ⟨Y, hYe⟩ : ∃ Y, Y = Y0 + k := ⟨_, rfl⟩
        rw [← hYe]
        have hd0 : decide ((Y : Int) < (Y1 : Int)) = true := by simp; omega
        have hyl : Y < Y1 := by omega
        have hin := Nat.mul_le_mul_right wd (show Y + 1 ≤ ht by omega)
        rw [Nat.add_mul, Nat.one_mul, Nat.mul_comm ht wd] at hin
        obtain ⟨m, hm⟩ : ∃ m, m = Y * wd := ⟨_, rfl⟩
        rw [← hm] at hin
        have HIN := Lib.hid hin
        have hsq := HSQ.out
        obtain ⟨⟨_, z1⟩, _, z2⟩ := HH.out.dim
        have EM := Lib.hid (show IntKind.i64.wrap ((Y : Int) * (wd : Int)) = (m : Int) from by rw [IntWalk.i64_in _ (by rw [← Int.natCast_mul, ← hm]; omega), ← Int.natCast_mul, hm])
        have EY := Lib.hid (w64one Y (by omega))
        have HM := Lib.hid (And.intro hm hYe)
        clear hm hYe hin hsq z1 z2 hYY
        go_wp2
        clear k0 k1 k2 k3 kl
        go_loopw [15, 16] (fun xv _ wr2 => ∃ j : Nat, j ≤ X1 - X0 ∧ xv = .int .i64 ((X0 + j : Nat) : Int) ∧ Blk wr2 q 42 #[.int .i64 (wd : Nat), .int .i64 (ht : Nat), .slice (some ⟨g, 0, none⟩) (wd * ht) (wd * ht)] ∧ Blk wr2 g 5 (mapR (m + X0) (m + X0 + j) ((blF A M x y c wd) Y) (rowsR wd X0 X1 Y0 (blF A M x y c wd) k E)).toArray ∧ Only wc wr2 [g]) (fun xv _ _ => X1 - (intOf xv).toNat)
        case atStart => exact ⟨0, Nat.zero_le _, rfl, HCR.out.blk, by rw [mapR_nil (by omega)]; exact HCR.out.row, HOR.out⟩
        case round =>
          obtain ⟨j, hj, rfl, hbq, hbg, hoi⟩ := hrel
          have HBQ := Lib.hid hbq
          have HBG := Lib.hid hbg
          have HOI := Lib.hid hoi
          have K7i := HK7.out.only hoi (by simp [hne7])
          have k0 := K7i.cell 0; have k1 := K7i.cell 1; have k2 := K7i.cell 2; have k3 := K7i.cell 3; have kl := K7i.lt
          have a0 := hbq.cell 0; have a1 := hbq.cell 1; have a2 := hbq.cell 2; have al := hbq.lt
          simp only [List.getElem?_toArray, List.getElem?_cons_succ, List.getElem?_cons_zero] at k0 k1 k2 k3 a0 a1 a2
          have hXX := HX.out
          by_cases hjl : j < X1 - X0
          · obtain ⟨xx, hx⟩ : ∃ xx, xx = X0 + j := ⟨_, rfl⟩
            rw [← hx]
            have hd1 : decide ((xx : Int) < (X1 : Int)) = true := by simp; omega
            have hxl : xx < X1 := by omega
            have hin := HIN.out
            have hsq := HSQ.out
            obtain ⟨⟨_, z1⟩, _, z2⟩ := HH.out.dim
            obtain ⟨a, ha⟩ : ∃ a, a = m + xx := ⟨_, rfl⟩
            obtain ⟨n, hn⟩ : ∃ n, n = wd * ht := ⟨_, rfl⟩
            have hal : a < n := by omega
            have EA := Lib.hid (show IntKind.i64.wrap ((m : Int) + (xx : Int)) = (a : Int) from by rw [w64sumk m xx (by omega), ha])
            have EX := Lib.hid (w64one xx (by omega))
            have hlen : (rowsR wd X0 X1 Y0 (blF A M x y c wd) k E).length = wd * ht := HCR.out.len
            have hd : (rowsR wd X0 X1 Y0 (blF A M x y c wd) k E)[a]? = some ((rowsR wd X0 X1 Y0 (blF A M x y c wd) k E)[a]'(by rw [hlen]; omega)) := List.getElem?_eq_getElem _
            have hd8 := HCR.out.b8 _ (List.getElem_mem (by rw [hlen]; omega : a < (rowsR wd X0 X1 Y0 (blF A M x y c wd) k E).length))
            generalize (rowsR wd X0 X1 Y0 (blF A M x y c wd) k E)[a]'(by rw [hlen]; omega) = d at hd hd8
            have hcell : wr.cell? ⟨g, a, none⟩ = some d := by rw [hbg.cell, List.getElem?_toArray, show a = m + X0 + j by omega, mapR_still]; rw [show m + X0 + j = a by omega]; exact hd
            have hfr := hbg.frozen a
            have hgl := hbg.lt
            rw [← hn] at a2
            obtain ⟨hc4, hcl, hs0, hs1, hsl, hby⟩ := HMB.out _ hoi
            have hYe0 := HM.out.2
            have hxe0 := hx
            obtain ⟨r, hr⟩ : ∃ r : Nat, (Y : Int) - S.y0 = (r : Nat) := ⟨((Y : Int) - S.y0).toNat, by have := HIN2.out; omega⟩
            obtain ⟨s, hs⟩ : ∃ s : Nat, (xx : Int) - S.x0 = (s : Nat) := ⟨((xx : Int) - S.x0).toNat, by have := HIN2.out; omega⟩
            have hbx := HBX.out
            have hrl : r < bh := by have := HIN2.out; omega
            have hsl2 : s < bw := by have := HIN2.out; omega
            have h4 : (r + 1) * bw ≤ bh * bw := Nat.mul_le_mul_right bw hrl
            rw [Nat.add_mul, Nat.one_mul, Nat.mul_comm bh bw, ← hbx.2.2.1] at h4
            obtain ⟨rb, hrb⟩ : ∃ rb, rb = r * bw := ⟨_, rfl⟩
            rw [← hrb] at h4
            obtain ⟨u, hu⟩ : ∃ u, u = rb + xx := ⟨_, rfl⟩
            obtain ⟨i, hi⟩ : ∃ i, i = rb + s := ⟨_, rfl⟩
            have hil : i < M.length := by omega
            have hin2 : i < n2 := by have := HN2.out; omega
            have hmv : M[i]? = some (M[i]'hil) := List.getElem?_eq_getElem hil
            have hm8 := b8_in (HM8.out _ (List.getElem_mem hil))
            generalize M[i]'hil = v at hmv hm8
            obtain ⟨mb, mo, hAm, hcm0⟩ := hby i v hmv
            obtain ⟨ev, hvi⟩ := hm8
            rw [ev] at hcm0
            rw [hAm] at hc4
            have E71 := Lib.hid (show wrap64 ((Y : Int) - S.y0) = (r : Int) from by rw [hr]; exact w64n (by omega) (by omega))
            have E73 := Lib.hid (show wrap64 ((r : Int) * (bw : Int)) = (rb : Int) from by rw [w64mul r bw (by omega), hrb])
            have E75 := Lib.hid (show wrap64 ((rb : Int) + (xx : Int)) = (u : Int) from by rw [w64sum rb xx (by omega), hu])
            have E78 := Lib.hid (show wrap64 ((u : Int) - S.x0) = (i : Int) from by rw [show (u : Int) - S.x0 = (i : Int) by omega]; exact w64n (by omega) (by omega))
            obtain ⟨ed, hdi⟩ := b8_in hd8
            have hf : (blF A M x y c wd) Y a d = .int .u8 (mixZ (ub d) c (ub v)) := by
              unfold blF blnF
              rw [show ((a - Y * wd : Nat) : Int) = (xx : Int) by have := HM.out.1; omega]
              have hS := HSH.out
              rw [hS]
              have e : (((Y : Int) - S.y0) * ((S.x1 - S.x0).toNat : Int) + (xx : Int) - S.x0).toNat = i := by
                rw [hr, show ((S.x1 - S.x0).toNat : Int) = (bw : Int) by have := hbx.2.1; omega, ← Int.natCast_mul, ← hrb]
                omega
              rw [e, List.getD_eq_getElem?_getD, hmv, Option.getD_some]
            have hrc : RCn wr q g wd ht (mapR (m + X0) (m + X0 + j) ((blF A M x y c wd) Y) (rowsR wd X0 X1 Y0 (blF A M x y c wd) k E)) := ⟨hbq, hbg, by rw [mapR_len]; exact hlen, mapR_bytes HCR.out.b8 (fun k' d' h1' h2' hd' => HKB.out Y k' d' (by have := HM.out.2; omega) hyl (by have := HM.out.1; omega) (by have := HM.out.1; omega) hd'), HH.out.dim⟩
            have hat : atC wd ht (mapR (m + X0) (m + X0 + j) ((blF A M x y c wd) Y) (rowsR wd X0 X1 Y0 (blF A M x y c wd) k E)) xx Y = ub d := by
              unfold atC
              rw [if_pos (by have := HY.out; omega), Int.toNat_natCast, Int.toNat_natCast, List.getD_eq_getElem?_getD, show Y * wd + xx = m + X0 + j by have := HM.out.1; omega, mapR_still, show m + X0 + j = a by omega, hd, Option.getD_some]
            have CAT := fun (U : World) (hU : Below wr.heap.size wr U) => by
              have := rcat_any q g wd ht _ (xx : Int) (Y : Int) U (hrc.below hU)
              rw [hat] at this
              exact this
            have CMX := fun U => rmix_any (ub d) c (ub v) U hdi HC.out hvi
            obtain ⟨v1, v2⟩ := inB_in hvi
            have c2 : mixZ (ub d) c (ub v) % 256 = mixZ (ub d) c (ub v) := by have := mixZ_bd hdi HC.out hvi; omega
            rw [ed] at hcell
            have HFD := Lib.hid hf
            have HDI := Lib.hid (fun (X : World) (hX : Below wr.heap.size wr X) => And.intro ((hX.cell (p := ⟨q, 0, none⟩) al).trans a0) (And.intro ((hX.cell (p := ⟨q, 1, none⟩) al).trans a1) (And.intro ((hX.cell (p := ⟨q, 2, none⟩) al).trans a2) (And.intro (Nat.lt_of_lt_of_le al hX.size) (And.intro ((hX.cell (p := ⟨g, a, none⟩) hgl).trans hcell) (Nat.lt_of_lt_of_le hgl hX.size))))))
            have HDA := Lib.hid (And.intro hd (And.intro ha (And.intro hx hn)))
            clear hbq hbg hoi K7i hin hsq z1 z2 hXX hd ha hx hn hlen
            clear hYe0 hxe0 hrl hsl2
            clear hdi hvi hat hrc hf hby h4 hbx hr hs hrb hu hi hil hmv ev ed hAm hd8
            generalize mixZ (ub d) c (ub v) = res at *
            generalize ub v = kv at *
            generalize ub d = dv at *
            have HCM := Lib.hid CMX
            have HCA := Lib.hid CAT
            have e71 := E71.out; have e73 := E73.out; have e75 := E75.out; have e78 := E78.out
            clear CMX CAT
            go_wp2
            have hI8 : Below wr.heap.size wr wr.drew := (Below.refl _ _).drew
            clear a0 a1 a2 al k0 k1 k2 k3 kl hcell hfr hgl e71 e73 e75 e78 hc4 hcl hs0 hs1 hsl hcm0
            refine wp_region_chain_last (fun V => Below wr.heap.size wr V) [(0, false), (1, false), (2, false), (3, false), (4, false), (5, false), (6, false), (7, false), (8, false), (9, false), (10, false), (11, false), (12, false), (13, false), (14, false), (16, false), (17, false), (15, true), (18, true), (19, false), (20, false)] _ _ (by rfl) (by rfl) (by kernel_rfl) (by kernel_rfl) hI8 ?_
            repeat (first
              | (refine ChainL.skip (o := ?_) ?_ ?_ ?_; rotate_left; (focus (first | (simp only [List.getElem?_toArray, List.getElem?_cons_succ, List.getElem?_cons_zero]; with_reducible rfl) | (simp only [List.getElem?_toArray, List.getElem?_cons_zero]; with_reducible rfl))); (focus rfl); simp only [Act.put, List.setIfInBounds_toArray, List.set_cons_zero, List.set_cons_succ])
              | (refine ChainL.val (o := ?_) (v := ?_) ?_ ?_ ?_ ?_ ?_; rotate_left 2; (focus (first | (simp only [List.getElem?_toArray, List.getElem?_cons_succ, List.getElem?_cons_zero]; with_reducible rfl) | (simp only [List.getElem?_toArray, List.getElem?_cons_zero]; with_reducible rfl))); (focus (intro _ _ h; cases h)); (focus rfl); (focus (intro w' hJ; obtain ⟨c0, c1, c2, cl, c5, c6⟩ := HDI.out _ hJ; have e3 := EM.out; have e4 := EA.out; go_simp <;> with_reducible rfl)); simp only [Act.put, List.setIfInBounds_toArray, List.set_cons_zero, List.set_cons_succ]))
            refine ChainL.call (o := ?_) (f := ?_) (args := ?_) ?_ ?_ ?_ ?_
            rotate_left 3
            (focus (first | (simp only [List.getElem?_toArray, List.getElem?_cons_succ, List.getElem?_cons_zero]; with_reducible rfl) | (simp only [List.getElem?_toArray, List.getElem?_cons_zero]; with_reducible rfl)))
            (focus rfl)
            (focus (go_simp; (constructor <;> with_reducible rfl)))
            with_reducible refine (HCA.out _ hI8).mono ?_
            rintro e wa ⟨rfl, ba⟩; have hI9 := hI8.trans (ba.mono hI8.size); refine ⟨_, rfl, hI9, ?_⟩
            simp only [Act.put, List.setIfInBounds_toArray, List.set_cons_zero, List.set_cons_succ]
            refine ChainL.call (o := ?_) (f := ?_) (args := ?_) ?_ ?_ ?_ ?_
            rotate_left 3
            (focus (first | (simp only [List.getElem?_toArray, List.getElem?_cons_succ, List.getElem?_cons_zero]; with_reducible rfl) | (simp only [List.getElem?_toArray, List.getElem?_cons_zero]; with_reducible rfl)))
            (focus rfl)
            (focus (go_simp; (constructor <;> with_reducible rfl)))
            with_reducible refine (HCM.out _).mono ?_
            rintro e wb ⟨rfl, rfl⟩; refine ⟨_, rfl, hI9, ?_⟩
            simp only [Act.put, List.setIfInBounds_toArray, List.set_cons_zero, List.set_cons_succ]
            repeat (first
              | (refine ChainL.skip (o := ?_) ?_ ?_ ?_; rotate_left; (focus (first | (simp only [List.getElem?_toArray, List.getElem?_cons_succ, List.getElem?_cons_zero]; with_reducible rfl) | (simp only [List.getElem?_toArray, List.getElem?_cons_zero]; with_reducible rfl))); (focus rfl); simp only [Act.put, List.setIfInBounds_toArray, List.set_cons_zero, List.set_cons_succ])
              | (refine ChainL.val (o := ?_) (v := ?_) ?_ ?_ ?_ ?_ ?_; rotate_left 2; (focus (first | (simp only [List.getElem?_toArray, List.getElem?_cons_succ, List.getElem?_cons_zero]; with_reducible rfl) | (simp only [List.getElem?_toArray, List.getElem?_cons_zero]; with_reducible rfl))); (focus (intro _ _ h; cases h)); (focus rfl); (focus (intro w' hJ; obtain ⟨c0, c1, c2, cl, c5, c6⟩ := HDI.out _ hJ; have e3 := EM.out; have e4 := EA.out; go_simp <;> with_reducible rfl)); simp only [Act.put, List.setIfInBounds_toArray, List.set_cons_zero, List.set_cons_succ]))
            refine ChainL.nil ?_
            have hbgd := HBG.out.below hI9
            have hfr := hbgd.frozen a
            obtain ⟨c0, c1, c2, cl, c5, c6⟩ := HDI.out _ hI9
            have HBGD := Lib.hid hbgd
            have HOID := Lib.hid (HOI.out.then_below2 hI9)
            have ex := EX.out
            clear hbgd
            go_wp2
            clear ex c0 c1 c2 cl c5 c6 hfr hd0 hyl
            go_roundw
            case rel =>
              obtain ⟨hd, ha, hx, hn⟩ := HDA.out
              have hidx : m + X0 + j = a := by omega
              refine ⟨j + 1, by omega, congrArg (Value.int .i64) (EX.out.trans (by omega)), (HBQ.out.below hI9).other (by simpa using hqg) _, ?_, HOID.out.set (.inl (by simp)) _⟩
              have := blk_set_list HBGD.out a (.int .u8 res)
              rw [hidx] at this
              rw [← Nat.add_assoc, mapR_step (d := d) (Nat.le_add_right _ _) _ _ (by rw [hidx]; exact hd), hidx, HFD.out]
              exact this
            case measure => have := HDA.out.2.2.1; rw [EX.out]; simp only [intOf]; omega
          · obtain rfl : j = X1 - X0 := by omega
            have hd1 : decide (((X0 + (X1 - X0) : Nat) : Int) < (X1 : Int)) = false := by simp; omega
            clear hbq hbg hoi K7i a0 a1 a2 al
            have ey := EY.out
            go_wp2
            clear ey
            go_roundw
            case rel =>
              obtain ⟨hm, hYe⟩ := HM.out
              refine ⟨k + 1, by omega, congrArg (Value.int .i64) (EY.out.trans (by omega)), ?_, HOI.out⟩
              have hrow := HBG.out
              rw [show m + X0 + (X1 - X0) = m + X1 by omega] at hrow
              have hrec : rowsR wd X0 X1 Y0 (blF A M x y c wd) (k + 1) E = mapR (m + X0) (m + X1) ((blF A M x y c wd) Y) (rowsR wd X0 X1 Y0 (blF A M x y c wd) k E) := by rw [rowsR, ← hYe, ← hm]
              exact ⟨HBQ.out, by rw [hrec]; exact hrow, by rw [rowsR_len]; exact HH.out.len, rowsR_bytes HH.out.b8 HKB.out (k + 1) (by omega), HH.out.dim⟩
            case measure => have := HM.out.2; rw [EY.out]; simp only [intOf]; omega
      · obtain rfl : k = Y1 - Y0 := by omega
        have hd0 : decide (((Y0 + (Y1 - Y0) : Nat) : Int) < (Y1 : Int)) = false := by simp; omega
        have K6r := (HK6.out.below HBW.out).only HOR.out (by simp; exact fun e => HNQ.out.2 e.symm)
        have HK6r := Lib.hid K6r
        go_wp2_with (refine wpList_store_row rfl 32 (.tmp 10) (.tmp 103) (by with_reducible rfl) (w.heap.size + 1) #[.int .i64 (X0 : Nat), .int .i64 (Y0 : Nat), .int .i64 (X1 : Nat), .int .i64 (Y1 : Nat)] (by rfl) (by rfl) 32 #[.int .i64 0, .int .i64 0, .int .i64 0, .int .i64 0] (by exact HK6r.out) bxInfo rfl (by simp [Value.oneCell']) ?_)
        have o9 := only_row (g := (w.heap.size + 1)) (Only.refl wr [(w.heap.size + 1)]) (.inl (by simp)) #[.int .i64 (X0 : Nat), .int .i64 (Y0 : Nat), .int .i64 (X1 : Nat), .int .i64 (Y1 : Nat)]
        have hq6 := HNQ.out
        refine bodyPost_ret (results_cell_row Try.results34 _ _ ((w.heap.size + 1)) 32 #[.int .i64 (X0 : Nat), .int .i64 (Y0 : Nat), .int .i64 (X1 : Nat), .int .i64 (Y1 : Nat)] (0, 0) _ (by rfl) (show Blk _ _ _ _ from blk_row HK6r.out _) Try.underlying32 rfl bxInfo) rfl ⟨rfl, HCR.out.only o9 (by simp; exact hq6.1) (by simp; exact hq6.2), ?_⟩
        have h1 : Only w wr [g] := ((Only.of_below HW2.out [g]).trans (Only.of_below HBW.out [g]) (fun b hb => .inl hb)).trans HOR.out (fun b hb => .inl hb)
        exact only_row (g := (w.heap.size + 1)) h1 (.inr (by omega)) #[.int .i64 (X0 : Nat), .int .i64 (Y0 : Nat), .int .i64 (X1 : Nat), .int .i64 (Y1 : Nat)]
end Go.Proofs.Ytlbbigehjdnjmaa
