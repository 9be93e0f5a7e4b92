/- Part 9 of the proof: CnI, CnJ, CnL, Law, OpenInts, OpenNums. -/
import Derived.Test.YtlbbigehjdnjmaaRows
import Derived.ProofKit
import Derived.OpenShut
import Derived.Carry
import Derived.ChangeSlices
import Derived.Deep.Slices
import Derived.Deep.Fields
import Derived.SizedLaws
import Derived.Test.YtlbbigehjdnjmaaCCn7

namespace Go.Proofs.Ytlbbigehjdnjmaa
open Go Go.RowKit
set_option linter.unusedVariables false
set_option linter.unusedSimpArgs false

def meetC (wd ht : Nat) (B : Q) : Q := meetR ⟨0, 0, wd, ht⟩ B
/-- The pixels that a canvas and a box have in common are others. -/
def cnputE (wd ht : Nat) (B : Q) (f : Nat → Nat → Value → Value) (E : List Value) : List Value := rowsR wd (meetC wd ht B).x0.toNat (meetC wd ht B).x1.toNat (meetC wd ht B).y0.toNat f ((meetC wd ht B).y1.toNat - (meetC wd ht B).y0.toNat) E
theorem cnputE_eq {wd ht X0 Y0 X1 Y1 : Nat} {B : Q} (h : meetR ⟨0, 0, wd, ht⟩ B = ⟨X0, Y0, X1, Y1⟩) (f : Nat → Nat → Value → Value) (E : List Value) : cnputE wd ht B f E = rowsR wd X0 X1 Y0 f (Y1 - Y0) E := by
  unfold cnputE meetC
  rw [h]
  simp
def qV (A : Q) : Array Value := #[.int .i64 A.x0, .int .i64 A.y0, .int .i64 A.x1, .int .i64 A.y1]
/-- What each answers. -/
theorem each_put (q g wd ht : Nat) (E : List Value) (B : Q) (fn : FuncId) (lb : Array Value) (f : Nat → Nat → Value → Value) (I : World → Prop) (w : World)
    (eg : ∀ args w, (callFunc fn args).run Try.prog w = .ok (.enter fn args) w) (h : CnV w q g wd ht E) (hB : mayQ B = true) (hI : I w) (hIK : ∀ V V', I V → Only V V' [g] → I V')
    (hdo : ∀ X0 X1 y : Nat, X0 < X1 → X1 ≤ wd → y < ht → B.x0 ≤ X0 → X1 ≤ B.x1 → B.y0 ≤ y → y < B.y1 → DoRow I fn lb g wd ht X0 X1 f y) (hkb : ∀ X0 X1 Y0 Y1, KeepB f wd X0 X1 Y0 Y1) :
    Calls Try.prog 28 #[.pointer (some ⟨q, 0, none⟩), .agg #[.int .i64 B.x0, .int .i64 B.y0, .int .i64 B.x1, .int .i64 B.y1], .func (.func fn) #[] lb] w fun e w' => e = .returned (.agg (qV (meetC wd ht B))) ∧ CnV w' q g wd ht (cnputE wd ht B f E) ∧ Only w w' [g] := by
  obtain ⟨X0, Y0, X1, Y1, hR, hX, hY, hin, _⟩ := meet_cn wd ht B ⟨h.dim.1.1, h.dim.2.1⟩
  have := cneach_any q g wd ht E B fn lb f X0 Y0 X1 Y1 I w eg h hB hR hX hY hI hIK (fun y h1 h2 => by
    have h3 := hin (by omega)
    exact hdo X0 X1 y (hX.2.2 (by omega)) hX.2.1 (by omega) h3.1 h3.2.1 (by omega) (by omega)) (hkb X0 X1 Y0 Y1)
  rw [cnputE_eq hR, show meetC wd ht B = ⟨X0, Y0, X1, Y1⟩ from hR]
  exact this
theorem cnfill_nil (B : Q) (c : Int) (w : World) : Calls Try.prog 23 #[.pointer none, .agg #[.int .i64 B.x0, .int .i64 B.y0, .int .i64 B.x1, .int .i64 B.y1], .int .i64 c] w fun e w' => e = .returned (.tuple #[.agg #[.int .i64 0, .int .i64 0, .int .i64 0, .int .i64 0], .int .i64 6]) ∧ Below w.heap.size w w' := by
  have K6 := Blk.new ((w.alloc (.cells #[.int .i64 B.x0, .int .i64 B.y0, .int .i64 B.x1, .int .i64 B.y1] 32)).alloc (.cells #[.int .i64 c] 3)) 32 #[.int .i64 0, .int .i64 0, .int .i64 0, .int .i64 0]
  simp only [World.size_alloc] at K6
  have HK6 := Lib.hid K6
  clear K6
  go_enter Try.func23, Try.ntmps23
  go_wp2_with (refine wpList_store_row rfl 32 (.tmp 6) (.tmp 10) (by with_reducible rfl) (w.heap.size + 1 + 1) #[.int .i64 0, .int .i64 0, .int .i64 0, .int .i64 0] (by rfl) (by rfl) 32 #[.int .i64 0, .int .i64 0, .int .i64 0, .int .i64 0] (by exact HK6.out) (by kernel_rfl) rfl (by simp [Value.oneCell']) ?_)
  refine bodyPost_ret (results_row_tmp Try.results23 _ _ (w.heap.size + 1 + 1) 32 #[.int .i64 0, .int .i64 0, .int .i64 0, .int .i64 0] (0, 0) _ (.int .i64 6) (by rfl) (by rfl) (show Blk _ _ _ _ from blk_row HK6.out _) Try.underlying32 rfl (by kernel_rfl)) rfl ⟨rfl, ?_⟩
  exact below_setRow (below_a3 _ _ _ _) (by omega) _
set_option maxRecDepth 100000 in
set_option maxHeartbeats 1000000 in
theorem cnfill_over (q : Nat) (B : Q) (c : Int) (hm : mayQ B = false) (w : World) : Calls Try.prog 23 #[.pointer (some ⟨q, 0, none⟩), .agg #[.int .i64 B.x0, .int .i64 B.y0, .int .i64 B.x1, .int .i64 B.y1], .int .i64 c] w fun e w' => e = .returned (.tuple #[.agg #[.int .i64 0, .int .i64 0, .int .i64 0, .int .i64 0], .int .i64 10]) ∧ Below w.heap.size w w' := by
  have K4 := (((Blk.new w 32 #[.int .i64 B.x0, .int .i64 B.y0, .int .i64 B.x1, .int .i64 B.y1]).below (below_a1 _ (.cells #[.int .i64 c] 3)))).below (below_a1 _ (.cells #[.int .i64 0, .int .i64 0, .int .i64 0, .int .i64 0] 32))
  have K5 := (Blk.new (w.alloc (.cells #[.int .i64 B.x0, .int .i64 B.y0, .int .i64 B.x1, .int .i64 B.y1] 32)) 3 #[.int .i64 c]).below (below_a1 _ (.cells #[.int .i64 0, .int .i64 0, .int .i64 0, .int .i64 0] 32))
  have K6 := Blk.new ((w.alloc (.cells #[.int .i64 B.x0, .int .i64 B.y0, .int .i64 B.x1, .int .i64 B.y1] 32)).alloc (.cells #[.int .i64 c] 3)) 32 #[.int .i64 0, .int .i64 0, .int .i64 0, .int .i64 0]
  have B0 : Below w.heap.size w (((w.alloc (.cells #[.int .i64 B.x0, .int .i64 B.y0, .int .i64 B.x1, .int .i64 B.y1] 32)).alloc (.cells #[.int .i64 c] 3)).alloc (.cells #[.int .i64 0, .int .i64 0, .int .i64 0, .int .i64 0] 32)) := below_a3 _ _ _ _
  simp only [World.size_alloc] at K4 K5 K6
  have CM := fun W => mayBox_any B W
  rw [hm] at CM
  have k0 := K4.cell 0; have k1 := K4.cell 1; have k2 := K4.cell 2; have k3 := K4.cell 3
  go_enter Try.func23, Try.ntmps23
  have HK6 := Lib.hid K6
  go_wp2_with (first | (go_at_call 41; ((with_reducible refine (CM _).mono ?_); rintro e w1 ⟨rfl, b1⟩; have K4 := K4.below b1; have K5 := K5.below b1; have K6 := K6.below b1; have B0 := B0.trans (b1.mono B0.size); have k0 := K4.cell 0; have k1 := K4.cell 1; have k2 := K4.cell 2; have k3 := K4.cell 3; have kl := K4.lt; have c0 := K5.cell 0; have cl := K5.lt; simp only [List.getElem?_toArray, List.getElem?_cons_succ, List.getElem?_cons_zero] at k0 k1 k2 k3 c0; have HK6 := Lib.hid K6)) | (refine wpList_store_row rfl 32 (.tmp 6) (.tmp 14) (by with_reducible rfl) (w.heap.size + 1 + 1) #[.int .i64 0, .int .i64 0, .int .i64 0, .int .i64 0] (by rfl) (by rfl) 32 #[.int .i64 0, .int .i64 0, .int .i64 0, .int .i64 0] (by exact HK6.out) (by kernel_rfl) rfl (by simp [Value.oneCell']) ?_))
  refine bodyPost_ret (results_row_tmp Try.results23 _ _ (w.heap.size + 1 + 1) 32 #[.int .i64 0, .int .i64 0, .int .i64 0, .int .i64 0] (0, 0) _ (.int .i64 10) (by rfl) (by rfl) (show Blk _ _ _ _ from blk_row HK6.out _) Try.underlying32 rfl (by kernel_rfl)) rfl ⟨rfl, ?_⟩
  exact below_setRow B0 (by omega) _
set_option maxRecDepth 100000 in
set_option maxHeartbeats 1000000 in
theorem cnfill_arg (q : Nat) (B : Q) (c : Int) (hm : mayQ B = true) (hc : inZ 0 255 c = false) (w : World) : Calls Try.prog 23 #[.pointer (some ⟨q, 0, none⟩), .agg #[.int .i64 B.x0, .int .i64 B.y0, .int .i64 B.x1, .int .i64 B.y1], .int .i64 c] w fun e w' => e = .returned (.tuple #[.agg #[.int .i64 0, .int .i64 0, .int .i64 0, .int .i64 0], .int .i64 1]) ∧ Below w.heap.size w w' := by
  have K4 := (((Blk.new w 32 #[.int .i64 B.x0, .int .i64 B.y0, .int .i64 B.x1, .int .i64 B.y1]).below (below_a1 _ (.cells #[.int .i64 c] 3)))).below (below_a1 _ (.cells #[.int .i64 0, .int .i64 0, .int .i64 0, .int .i64 0] 32))
  have K5 := (Blk.new (w.alloc (.cells #[.int .i64 B.x0, .int .i64 B.y0, .int .i64 B.x1, .int .i64 B.y1] 32)) 3 #[.int .i64 c]).below (below_a1 _ (.cells #[.int .i64 0, .int .i64 0, .int .i64 0, .int .i64 0] 32))
  have K6 := Blk.new ((w.alloc (.cells #[.int .i64 B.x0, .int .i64 B.y0, .int .i64 B.x1, .int .i64 B.y1] 32)).alloc (.cells #[.int .i64 c] 3)) 32 #[.int .i64 0, .int .i64 0, .int .i64 0, .int .i64 0]
  have B0 : Below w.heap.size w (((w.alloc (.cells #[.int .i64 B.x0, .int .i64 B.y0, .int .i64 B.x1, .int .i64 B.y1] 32)).alloc (.cells #[.int .i64 c] 3)).alloc (.cells #[.int .i64 0, .int .i64 0, .int .i64 0, .int .i64 0] 32)) := below_a3 _ _ _ _
  simp only [World.size_alloc] at K4 K5 K6
  have CM := fun W => mayBox_any B W
  rw [hm] at CM
  have k0 := K4.cell 0; have k1 := K4.cell 1; have k2 := K4.cell 2; have k3 := K4.cell 3
  go_enter Try.func23, Try.ntmps23
  have HK6 := Lib.hid K6
  go_wp2_with (first | (go_at_call 41; ((with_reducible refine (CM _).mono ?_); rintro e w1 ⟨rfl, b1⟩; have K4 := K4.below b1; have K5 := K5.below b1; have K6 := K6.below b1; have B0 := B0.trans (b1.mono B0.size); have k0 := K4.cell 0; have k1 := K4.cell 1; have k2 := K4.cell 2; have k3 := K4.cell 3; have kl := K4.lt; have c0 := K5.cell 0; have cl := K5.lt; simp only [List.getElem?_toArray, List.getElem?_cons_succ, List.getElem?_cons_zero] at k0 k1 k2 k3 c0; have HK6 := Lib.hid K6)) | (go_at_call 27; ((with_reducible refine (mayByte_1 w1.heap.size c _ (Blk.new w1 3 #[.int .i64 c])).mono ?_); rintro e w' ⟨rfl, rfl⟩; rw [hc]; have b2 := below_a1 w1 (.cells #[.int .i64 c] 3); have K4 := K4.below b2; have K5 := K5.below b2; have K6 := K6.below b2; have B0 := B0.trans (b2.mono B0.size); have k0 := K4.cell 0; have k1 := K4.cell 1; have k2 := K4.cell 2; have k3 := K4.cell 3; have kl := K4.lt; have c0 := K5.cell 0; have cl := K5.lt; simp only [List.getElem?_toArray, List.getElem?_cons_succ, List.getElem?_cons_zero] at k0 k1 k2 k3 c0; have HK6 := Lib.hid K6)) | (refine wpList_store_row rfl 32 (.tmp 6) (.tmp 19) (by with_reducible rfl) (w.heap.size + 1 + 1) #[.int .i64 0, .int .i64 0, .int .i64 0, .int .i64 0] (by rfl) (by rfl) 32 #[.int .i64 0, .int .i64 0, .int .i64 0, .int .i64 0] (by exact HK6.out) (by kernel_rfl) rfl (by simp [Value.oneCell']) ?_))
  refine bodyPost_ret (results_row_tmp Try.results23 _ _ (w.heap.size + 1 + 1) 32 #[.int .i64 0, .int .i64 0, .int .i64 0, .int .i64 0] (0, 0) _ (.int .i64 1) (by rfl) (by rfl) (show Blk _ _ _ _ from blk_row HK6.out _) Try.underlying32 rfl (by kernel_rfl)) rfl ⟨rfl, ?_⟩
  exact below_setRow B0 (by omega) _
theorem bxInfoF (A : Q) : (Try.prog.info? 32).map (·.size) = some (qV A).size := by
  have h : (Try.prog.info? 32).map (·.size) = some 4 := by kernel_rfl
  rw [h]; rfl
set_option maxRecDepth 100000 in
set_option maxHeartbeats 1000000 in
theorem cnfill_ok (q g wd ht : Nat) (E : List Value) (B : Q) (c : Int) (w : World) (h : CnV w q g wd ht E) (hm : mayQ B = true) (hc : inZ 0 255 c = true) : Calls Try.prog 23 #[.pointer (some ⟨q, 0, none⟩), .agg #[.int .i64 B.x0, .int .i64 B.y0, .int .i64 B.x1, .int .i64 B.y1], .int .i64 c] w fun e w' => e = .returned (.tuple #[.agg (qV (meetC wd ht B)), .int .i64 0]) ∧ CnV w' q g wd ht (cnputE wd ht B (fun _ => pntF c) E) ∧ Only w w' [g] := by
  have K4 := (((Blk.new w 32 #[.int .i64 B.x0, .int .i64 B.y0, .int .i64 B.x1, .int .i64 B.y1]).below (below_a1 _ (.cells #[.int .i64 c] 3)))).below (below_a1 _ (.cells #[.int .i64 0, .int .i64 0, .int .i64 0, .int .i64 0] 32))
  have K5 := (Blk.new (w.alloc (.cells #[.int .i64 B.x0, .int .i64 B.y0, .int .i64 B.x1, .int .i64 B.y1] 32)) 3 #[.int .i64 c]).below (below_a1 _ (.cells #[.int .i64 0, .int .i64 0, .int .i64 0, .int .i64 0] 32))
  have K6 := Blk.new ((w.alloc (.cells #[.int .i64 B.x0, .int .i64 B.y0, .int .i64 B.x1, .int .i64 B.y1] 32)).alloc (.cells #[.int .i64 c] 3)) 32 #[.int .i64 0, .int .i64 0, .int .i64 0, .int .i64 0]
  have B0 : Below w.heap.size w (((w.alloc (.cells #[.int .i64 B.x0, .int .i64 B.y0, .int .i64 B.x1, .int .i64 B.y1] 32)).alloc (.cells #[.int .i64 c] 3)).alloc (.cells #[.int .i64 0, .int .i64 0, .int .i64 0, .int .i64 0] 32)) := below_a3 _ _ _ _
  simp only [World.size_alloc] at K4 K5 K6
  have CM := fun W => mayBox_any B W
  rw [hm] at CM
  have HH := Lib.hid h
  have hg := h.row.lt
  have hq := h.blk.lt
  have CE := fun (W : World) (hW : Below w.heap.size w W) (hp : Blk W (w.heap.size + 1) 3 #[.int .i64 c]) => each_put q g wd ht E B 42 #[.pointer (some ⟨w.heap.size + 1, 0, none⟩)] (fun _ => pntF c) (fun V => Blk V (w.heap.size + 1) 3 #[.int .i64 c]) W (fun _ _ => rfl) (HH.out.below hW) hm hp (fun V V' hV o => hV.only o (by simp; omega))
    (fun X0 X1 y h1 h2 h3 _ _ _ _ => fill1_row (w.heap.size + 1) g wd ht X0 X1 y c (by omega) ⟨by omega, h2⟩ h3 ⟨HH.out.dim.1.2, HH.out.dim.2.2⟩ hc) (fun X0 X1 Y0 Y1 => pnt_keep c wd X0 X1 Y0 Y1 hc)
  have k0 := K4.cell 0; have k1 := K4.cell 1; have k2 := K4.cell 2; have k3 := K4.cell 3
  clear h
  generalize meetC wd ht B = R at *
  go_enter Try.func23, Try.ntmps23
  have HK6 := Lib.hid K6
  go_wp2_with (first | (go_at_call 41; ((with_reducible refine (CM _).mono ?_); rintro e w1 ⟨rfl, b1⟩; have K4 := K4.below b1; have K5 := K5.below b1; have K6 := K6.below b1; have B0 := B0.trans (b1.mono B0.size); have k0 := K4.cell 0; have k1 := K4.cell 1; have k2 := K4.cell 2; have k3 := K4.cell 3; have kl := K4.lt; have c0 := K5.cell 0; have cl := K5.lt; simp only [List.getElem?_toArray, List.getElem?_cons_succ, List.getElem?_cons_zero] at k0 k1 k2 k3 c0; have HK6 := Lib.hid K6)) | (go_at_call 27; ((with_reducible refine (mayByte_1 w1.heap.size c _ (Blk.new w1 3 #[.int .i64 c])).mono ?_); rintro e w' ⟨rfl, rfl⟩; rw [hc]; have b2 := below_a1 w1 (.cells #[.int .i64 c] 3); have K4 := K4.below b2; have K5 := K5.below b2; have K6 := K6.below b2; have B0 := B0.trans (b2.mono B0.size); have k0 := K4.cell 0; have k1 := K4.cell 1; have k2 := K4.cell 2; have k3 := K4.cell 3; have kl := K4.lt; have c0 := K5.cell 0; have cl := K5.lt; simp only [List.getElem?_toArray, List.getElem?_cons_succ, List.getElem?_cons_zero] at k0 k1 k2 k3 c0; have HK6 := Lib.hid K6)) | (go_at_call 28; ((with_reducible refine (CE _ B0 K5).mono ?_); rintro e w3 ⟨rfl, h1, h2⟩; have HB0 := Lib.hid B0; have K6 := K6.only h2 (by simp; omega); have HK6 := Lib.hid K6)) | (refine wpList_store_row rfl 32 (.tmp 6) (.tmp 23) (by with_reducible rfl) (w.heap.size + 1 + 1) (qV R) (by rfl) (by rfl) 32 #[.int .i64 0, .int .i64 0, .int .i64 0, .int .i64 0] (by exact HK6.out) (bxInfoF R) rfl (by simp [qV, Value.oneCell']) ?_))
  have o9 := only_row (g := w.heap.size + 1 + 1) (Only.refl w3 [w.heap.size + 1 + 1]) (.inl (by simp)) (qV R)
  refine bodyPost_ret (results_row_tmp Try.results23 _ _ (w.heap.size + 1 + 1) 32 (qV R) (0, 0) _ (.int .i64 0) (by rfl) (by rfl) (show Blk _ _ _ _ from blk_row HK6.out _) Try.underlying32 rfl (bxInfoF R)) rfl ⟨rfl, h1.only o9 (by simp; omega) (by simp; omega), ?_⟩
  exact only_row (g := w.heap.size + 1 + 1) ((Only.of_below HB0.out [g]).trans h2 (fun b hb => .inl hb)) (.inr (by omega)) _
end Go.Proofs.Ytlbbigehjdnjmaa

namespace Go.Proofs.Ytlbbigehjdnjmaa
open Go Go.RowKit
set_option linter.unusedVariables false
set_option linter.unusedSimpArgs false

theorem cnblend_nil (A : Q) (Am : Option Addr) (n mc : Nat) (x y c : Int) (w : World) : Calls Try.prog 18 #[.pointer none, .agg #[.int .i64 A.x0, .int .i64 A.y0, .int .i64 A.x1, .int .i64 A.y1, .slice Am n mc], .int .i64 x, .int .i64 y, .int .i64 c] w fun e w' => e = .returned (.tuple #[.agg #[.int .i64 0, .int .i64 0, .int .i64 0, .int .i64 0], .int .i64 6]) ∧ Below w.heap.size w w' := by
  have K6 := (((Blk.new w 35 #[.int .i64 A.x0, .int .i64 A.y0, .int .i64 A.x1, .int .i64 A.y1, .slice Am n mc]).below (below_a1 _ (.cells #[.int .i64 c] 3)))).below (below_a1 _ (.cells #[.int .i64 0, .int .i64 0, .int .i64 0, .int .i64 0] 32))
  have K9 := (Blk.new (w.alloc (.cells #[.int .i64 A.x0, .int .i64 A.y0, .int .i64 A.x1, .int .i64 A.y1, .slice Am n mc] 35)) 3 #[.int .i64 c]).below (below_a1 _ (.cells #[.int .i64 0, .int .i64 0, .int .i64 0, .int .i64 0] 32))
  have K10 := Blk.new ((w.alloc (.cells #[.int .i64 A.x0, .int .i64 A.y0, .int .i64 A.x1, .int .i64 A.y1, .slice Am n mc] 35)).alloc (.cells #[.int .i64 c] 3)) 32 #[.int .i64 0, .int .i64 0, .int .i64 0, .int .i64 0]
  have B0 : Below w.heap.size w (((w.alloc (.cells #[.int .i64 A.x0, .int .i64 A.y0, .int .i64 A.x1, .int .i64 A.y1, .slice Am n mc] 35)).alloc (.cells #[.int .i64 c] 3)).alloc (.cells #[.int .i64 0, .int .i64 0, .int .i64 0, .int .i64 0] 32)) := below_a3 _ _ _ _
  simp only [World.size_alloc] at K6 K9 K10
  have HK10 := Lib.hid K10
  have CC := fun W => ckmask_any A Am n mc W
  go_enter Try.func18, Try.ntmps18
  go_wp2_with (refine wpList_store_row rfl 32 (.tmp 10) (.tmp 17) (by with_reducible rfl) (w.heap.size + 1 + 1) #[.int .i64 0, .int .i64 0, .int .i64 0, .int .i64 0] (by rfl) (by rfl) 32 #[.int .i64 0, .int .i64 0, .int .i64 0, .int .i64 0] (by exact HK10.out) (by kernel_rfl) rfl (by simp [Value.oneCell']) ?_)
  refine bodyPost_ret (results_row_tmp Try.results18 _ _ (w.heap.size + 1 + 1) 32 #[.int .i64 0, .int .i64 0, .int .i64 0, .int .i64 0] (0, 0) _ (.int .i64 6) (by rfl) (by rfl) (show Blk _ _ _ _ from blk_row HK10.out _) Try.underlying32 rfl (by kernel_rfl)) rfl ⟨rfl, ?_⟩
  exact below_setRow B0 (by omega) _
set_option maxRecDepth 100000 in
set_option maxHeartbeats 1000000 in
theorem cnblend_mask (q : Nat) (A : Q) (Am : Option Addr) (n mc : Nat) (x y c : Int) (hk : chkB A n = false) (w : World) : Calls Try.prog 18 #[.pointer (some ⟨q, 0, none⟩), .agg #[.int .i64 A.x0, .int .i64 A.y0, .int .i64 A.x1, .int .i64 A.y1, .slice Am n mc], .int .i64 x, .int .i64 y, .int .i64 c] w fun e w' => e = .returned (.tuple #[.agg #[.int .i64 0, .int .i64 0, .int .i64 0, .int .i64 0], .int .i64 220]) ∧ Below w.heap.size w w' := by
  have K6 := (((Blk.new w 35 #[.int .i64 A.x0, .int .i64 A.y0, .int .i64 A.x1, .int .i64 A.y1, .slice Am n mc]).below (below_a1 _ (.cells #[.int .i64 c] 3)))).below (below_a1 _ (.cells #[.int .i64 0, .int .i64 0, .int .i64 0, .int .i64 0] 32))
  have K9 := (Blk.new (w.alloc (.cells #[.int .i64 A.x0, .int .i64 A.y0, .int .i64 A.x1, .int .i64 A.y1, .slice Am n mc] 35)) 3 #[.int .i64 c]).below (below_a1 _ (.cells #[.int .i64 0, .int .i64 0, .int .i64 0, .int .i64 0] 32))
  have K10 := Blk.new ((w.alloc (.cells #[.int .i64 A.x0, .int .i64 A.y0, .int .i64 A.x1, .int .i64 A.y1, .slice Am n mc] 35)).alloc (.cells #[.int .i64 c] 3)) 32 #[.int .i64 0, .int .i64 0, .int .i64 0, .int .i64 0]
  have B0 : Below w.heap.size w (((w.alloc (.cells #[.int .i64 A.x0, .int .i64 A.y0, .int .i64 A.x1, .int .i64 A.y1, .slice Am n mc] 35)).alloc (.cells #[.int .i64 c] 3)).alloc (.cells #[.int .i64 0, .int .i64 0, .int .i64 0, .int .i64 0] 32)) := below_a3 _ _ _ _
  simp only [World.size_alloc] at K6 K9 K10
  have HK10 := Lib.hid K10
  have CC := fun W => ckmask_any A Am n mc W
  rw [show chkC A n = 220 by unfold chkC; rw [hk]; rfl] at CC
  have k0 := K6.cell 0; have k1 := K6.cell 1; have k2 := K6.cell 2; have k3 := K6.cell 3; have k4 := K6.cell 4; have kl := K6.lt; have c0 := K9.cell 0; have cl := K9.lt; simp only [List.getElem?_toArray, List.getElem?_cons_succ, List.getElem?_cons_zero] at k0 k1 k2 k3 k4 c0; have HK10 := Lib.hid K10
  go_enter Try.func18, Try.ntmps18
  go_wp2_with (first | (go_at_call 36; ((with_reducible refine (CC _).mono ?_); rintro e w1 ⟨rfl, b1⟩; have K6 := K6.below b1; have K9 := K9.below b1; have K10 := K10.below b1; have B0 := B0.trans (b1.mono B0.size); have k0 := K6.cell 0; have k1 := K6.cell 1; have k2 := K6.cell 2; have k3 := K6.cell 3; have k4 := K6.cell 4; have kl := K6.lt; have c0 := K9.cell 0; have cl := K9.lt; simp only [List.getElem?_toArray, List.getElem?_cons_succ, List.getElem?_cons_zero] at k0 k1 k2 k3 k4 c0; have HK10 := Lib.hid K10)) | (refine wpList_store_row rfl 32 (.tmp 10) (.tmp 22) (by with_reducible rfl) (w.heap.size + 1 + 1) #[.int .i64 0, .int .i64 0, .int .i64 0, .int .i64 0] (by rfl) (by rfl) 32 #[.int .i64 0, .int .i64 0, .int .i64 0, .int .i64 0] (by exact HK10.out) (by kernel_rfl) rfl (by simp [Value.oneCell']) ?_))
  refine bodyPost_ret (results_row_tmp Try.results18 _ _ (w.heap.size + 1 + 1) 32 #[.int .i64 0, .int .i64 0, .int .i64 0, .int .i64 0] (0, 0) _ (.int .i64 220) (by rfl) (by rfl) (show Blk _ _ _ _ from blk_row HK10.out _) Try.underlying32 rfl (by kernel_rfl)) rfl ⟨rfl, ?_⟩
  exact below_setRow B0 (by omega) _
set_option maxRecDepth 100000 in
set_option maxHeartbeats 1000000 in
theorem cnblend_arg (q : Nat) (A : Q) (Am : Option Addr) (n mc : Nat) (x y c : Int) (hk : chkB A n = true) (hc : inZ 0 255 c = false) (w : World) : Calls Try.prog 18 #[.pointer (some ⟨q, 0, none⟩), .agg #[.int .i64 A.x0, .int .i64 A.y0, .int .i64 A.x1, .int .i64 A.y1, .slice Am n mc], .int .i64 x, .int .i64 y, .int .i64 c] w fun e w' => e = .returned (.tuple #[.agg #[.int .i64 0, .int .i64 0, .int .i64 0, .int .i64 0], .int .i64 1]) ∧ Below w.heap.size w w' := by
  have K6 := (((Blk.new w 35 #[.int .i64 A.x0, .int .i64 A.y0, .int .i64 A.x1, .int .i64 A.y1, .slice Am n mc]).below (below_a1 _ (.cells #[.int .i64 c] 3)))).below (below_a1 _ (.cells #[.int .i64 0, .int .i64 0, .int .i64 0, .int .i64 0] 32))
  have K9 := (Blk.new (w.alloc (.cells #[.int .i64 A.x0, .int .i64 A.y0, .int .i64 A.x1, .int .i64 A.y1, .slice Am n mc] 35)) 3 #[.int .i64 c]).below (below_a1 _ (.cells #[.int .i64 0, .int .i64 0, .int .i64 0, .int .i64 0] 32))
  have K10 := Blk.new ((w.alloc (.cells #[.int .i64 A.x0, .int .i64 A.y0, .int .i64 A.x1, .int .i64 A.y1, .slice Am n mc] 35)).alloc (.cells #[.int .i64 c] 3)) 32 #[.int .i64 0, .int .i64 0, .int .i64 0, .int .i64 0]
  have B0 : Below w.heap.size w (((w.alloc (.cells #[.int .i64 A.x0, .int .i64 A.y0, .int .i64 A.x1, .int .i64 A.y1, .slice Am n mc] 35)).alloc (.cells #[.int .i64 c] 3)).alloc (.cells #[.int .i64 0, .int .i64 0, .int .i64 0, .int .i64 0] 32)) := below_a3 _ _ _ _
  simp only [World.size_alloc] at K6 K9 K10
  have HK10 := Lib.hid K10
  have CC := fun W => ckmask_any A Am n mc W
  rw [show chkC A n = 0 by unfold chkC; rw [hk]; rfl] at CC
  have k0 := K6.cell 0; have k1 := K6.cell 1; have k2 := K6.cell 2; have k3 := K6.cell 3; have k4 := K6.cell 4; have kl := K6.lt; have c0 := K9.cell 0; have cl := K9.lt; simp only [List.getElem?_toArray, List.getElem?_cons_succ, List.getElem?_cons_zero] at k0 k1 k2 k3 k4 c0; have HK10 := Lib.hid K10
  go_enter Try.func18, Try.ntmps18
  go_wp2_with (first | (go_at_call 36; ((with_reducible refine (CC _).mono ?_); rintro e w1 ⟨rfl, b1⟩; have K6 := K6.below b1; have K9 := K9.below b1; have K10 := K10.below b1; have B0 := B0.trans (b1.mono B0.size); have k0 := K6.cell 0; have k1 := K6.cell 1; have k2 := K6.cell 2; have k3 := K6.cell 3; have k4 := K6.cell 4; have kl := K6.lt; have c0 := K9.cell 0; have cl := K9.lt; simp only [List.getElem?_toArray, List.getElem?_cons_succ, List.getElem?_cons_zero] at k0 k1 k2 k3 k4 c0; have HK10 := Lib.hid K10)) | (go_at_call 27; ((with_reducible refine (mayByte_1 w1.heap.size c _ (Blk.new w1 3 #[.int .i64 c])).mono ?_); rintro e w' ⟨rfl, rfl⟩; rw [hc]; have b2 := below_a1 w1 (.cells #[.int .i64 c] 3); have K6 := K6.below b2; have K9 := K9.below b2; have K10 := K10.below b2; have B0 := B0.trans (b2.mono B0.size); have k0 := K6.cell 0; have k1 := K6.cell 1; have k2 := K6.cell 2; have k3 := K6.cell 3; have k4 := K6.cell 4; have kl := K6.lt; have c0 := K9.cell 0; have cl := K9.lt; simp only [List.getElem?_toArray, List.getElem?_cons_succ, List.getElem?_cons_zero] at k0 k1 k2 k3 k4 c0; have HK10 := Lib.hid K10)) | (refine wpList_store_row rfl 32 (.tmp 10) (.tmp 28) (by with_reducible rfl) (w.heap.size + 1 + 1) #[.int .i64 0, .int .i64 0, .int .i64 0, .int .i64 0] (by rfl) (by rfl) 32 #[.int .i64 0, .int .i64 0, .int .i64 0, .int .i64 0] (by exact HK10.out) (by kernel_rfl) rfl (by simp [Value.oneCell']) ?_))
  refine bodyPost_ret (results_row_tmp Try.results18 _ _ (w.heap.size + 1 + 1) 32 #[.int .i64 0, .int .i64 0, .int .i64 0, .int .i64 0] (0, 0) _ (.int .i64 1) (by rfl) (by rfl) (show Blk _ _ _ _ from blk_row HK10.out _) Try.underlying32 rfl (by kernel_rfl)) rfl ⟨rfl, ?_⟩
  exact below_setRow B0 (by omega) _
set_option maxRecDepth 100000 in
set_option maxHeartbeats 1000000 in
theorem cnblend_over (q : Nat) (A : Q) (Am : Option Addr) (n mc : Nat) (x y c : Int) (hk : chkB A n = true) (hc : inZ 0 255 c = true) (hxy : (inZ (-1048576) 1048576 x && inZ (-1048576) 1048576 y) = false) (w : World) : Calls Try.prog 18 #[.pointer (some ⟨q, 0, none⟩), .agg #[.int .i64 A.x0, .int .i64 A.y0, .int .i64 A.x1, .int .i64 A.y1, .slice Am n mc], .int .i64 x, .int .i64 y, .int .i64 c] w fun e w' => e = .returned (.tuple #[.agg #[.int .i64 0, .int .i64 0, .int .i64 0, .int .i64 0], .int .i64 10]) ∧ Below w.heap.size w w' := by
  have K6 := (((Blk.new w 35 #[.int .i64 A.x0, .int .i64 A.y0, .int .i64 A.x1, .int .i64 A.y1, .slice Am n mc]).below (below_a1 _ (.cells #[.int .i64 c] 3)))).below (below_a1 _ (.cells #[.int .i64 0, .int .i64 0, .int .i64 0, .int .i64 0] 32))
  have K9 := (Blk.new (w.alloc (.cells #[.int .i64 A.x0, .int .i64 A.y0, .int .i64 A.x1, .int .i64 A.y1, .slice Am n mc] 35)) 3 #[.int .i64 c]).below (below_a1 _ (.cells #[.int .i64 0, .int .i64 0, .int .i64 0, .int .i64 0] 32))
  have K10 := Blk.new ((w.alloc (.cells #[.int .i64 A.x0, .int .i64 A.y0, .int .i64 A.x1, .int .i64 A.y1, .slice Am n mc] 35)).alloc (.cells #[.int .i64 c] 3)) 32 #[.int .i64 0, .int .i64 0, .int .i64 0, .int .i64 0]
  have B0 : Below w.heap.size w (((w.alloc (.cells #[.int .i64 A.x0, .int .i64 A.y0, .int .i64 A.x1, .int .i64 A.y1, .slice Am n mc] 35)).alloc (.cells #[.int .i64 c] 3)).alloc (.cells #[.int .i64 0, .int .i64 0, .int .i64 0, .int .i64 0] 32)) := below_a3 _ _ _ _
  simp only [World.size_alloc] at K6 K9 K10
  have HK10 := Lib.hid K10
  have CC := fun W => ckmask_any A Am n mc W
  rw [show chkC A n = 0 by unfold chkC; rw [hk]; rfl] at CC
  have k0 := K6.cell 0; have k1 := K6.cell 1; have k2 := K6.cell 2; have k3 := K6.cell 3; have k4 := K6.cell 4; have kl := K6.lt; have c0 := K9.cell 0; have cl := K9.lt; simp only [List.getElem?_toArray, List.getElem?_cons_succ, List.getElem?_cons_zero] at k0 k1 k2 k3 k4 c0; have HK10 := Lib.hid K10
  go_enter Try.func18, Try.ntmps18
  go_wp2_with (first | (go_at_call 36; ((with_reducible refine (CC _).mono ?_); rintro e w1 ⟨rfl, b1⟩; have K6 := K6.below b1; have K9 := K9.below b1; have K10 := K10.below b1; have B0 := B0.trans (b1.mono B0.size); have k0 := K6.cell 0; have k1 := K6.cell 1; have k2 := K6.cell 2; have k3 := K6.cell 3; have k4 := K6.cell 4; have kl := K6.lt; have c0 := K9.cell 0; have cl := K9.lt; simp only [List.getElem?_toArray, List.getElem?_cons_succ, List.getElem?_cons_zero] at k0 k1 k2 k3 k4 c0; have HK10 := Lib.hid K10)) | (go_at_call 27; ((with_reducible refine (mayByte_1 w1.heap.size c _ (Blk.new w1 3 #[.int .i64 c])).mono ?_); rintro e w' ⟨rfl, rfl⟩; rw [hc]; have b2 := below_a1 w1 (.cells #[.int .i64 c] 3); have K6 := K6.below b2; have K9 := K9.below b2; have K10 := K10.below b2; have B0 := B0.trans (b2.mono B0.size); have k0 := K6.cell 0; have k1 := K6.cell 1; have k2 := K6.cell 2; have k3 := K6.cell 3; have k4 := K6.cell 4; have kl := K6.lt; have c0 := K9.cell 0; have cl := K9.lt; simp only [List.getElem?_toArray, List.getElem?_cons_succ, List.getElem?_cons_zero] at k0 k1 k2 k3 k4 c0; have HK10 := Lib.hid K10)) | (go_at_call 26; ((with_reducible refine (within_2 (-1048576) 1048576 (w1.heap.size + 1) x y _ (by have := Blk.new (w1.alloc (.cells #[.int .i64 c] 3)) 3 #[.int .i64 x, .int .i64 y]; rw [World.size_alloc] at this; exact this)).mono ?_); rintro e w' ⟨rfl, rfl⟩; rw [hxy]; have b3 := below_a1 (w1.alloc (.cells #[.int .i64 c] 3)) (.cells #[.int .i64 x, .int .i64 y] 3); have K6 := K6.below b3; have K9 := K9.below b3; have K10 := K10.below b3; have B0 := B0.trans (b3.mono B0.size); have k0 := K6.cell 0; have k1 := K6.cell 1; have k2 := K6.cell 2; have k3 := K6.cell 3; have k4 := K6.cell 4; have kl := K6.lt; have c0 := K9.cell 0; have cl := K9.lt; simp only [List.getElem?_toArray, List.getElem?_cons_succ, List.getElem?_cons_zero] at k0 k1 k2 k3 k4 c0; have HK10 := Lib.hid K10)) | (refine wpList_store_row rfl 32 (.tmp 10) (.tmp 34) (by with_reducible rfl) (w.heap.size + 1 + 1) #[.int .i64 0, .int .i64 0, .int .i64 0, .int .i64 0] (by rfl) (by rfl) 32 #[.int .i64 0, .int .i64 0, .int .i64 0, .int .i64 0] (by exact HK10.out) (by kernel_rfl) rfl (by simp [Value.oneCell']) ?_))
  refine bodyPost_ret (results_row_tmp Try.results18 _ _ (w.heap.size + 1 + 1) 32 #[.int .i64 0, .int .i64 0, .int .i64 0, .int .i64 0] (0, 0) _ (.int .i64 10) (by rfl) (by rfl) (show Blk _ _ _ _ from blk_row HK10.out _) Try.underlying32 rfl (by kernel_rfl)) rfl ⟨rfl, ?_⟩
  exact below_setRow B0 (by omega) _
/-- A box further on, plain. -/
def shS (A : Q) (x y : Int) : Q := if emptyQ A then zeroQ else shiftQ A x y
theorem shift_near (A : Q) (x y : Int) (w : World) (h : in4 A = true) (hxy : (inZ (-1048576) 1048576 x && inZ (-1048576) 1048576 y) = true) :
    Calls Try.prog 37 #[.agg (qV A), .int .i64 x, .int .i64 y] w fun e w' => e = .returned (.tuple #[.agg (qV (shS A x y)), .int .i64 0]) ∧ Below w.heap.size w w' := by
  have h4 := in4_lims h
  rw [Bool.and_eq_true] at hxy
  have hx := inB_in hxy.1
  have hy := inB_in hxy.2
  have hxb : (mayB x && mayB y) = true := by simp [mayB]; omega
  unfold shS
  cases he : emptyQ A
  · have hm : mayQ (shiftQ A x y) = true := by
      show (mayB (A.x0 + x) && mayB (A.y0 + y) && mayB (A.x1 + x) && mayB (A.y1 + y)) = true
      unfold mayB
      simp only [Bool.and_eq_true, decide_eq_true_eq]
      omega
    have := shift_go A x y w (in4_may h) hxb he (shiftQ A x y) 0 (by rw [if_pos hm]) (by rw [if_pos hm])
    rw [if_neg (by simp)]
    exact this
  · have := shift_none A x y w (in4_may h) hxb he
    rw [if_pos rfl]
    exact this
theorem sh_may {A : Q} {x y : Int} (h : in4 A = true) (hxy : (inZ (-1048576) 1048576 x && inZ (-1048576) 1048576 y) = true) : mayQ (shS A x y) = true := by
  have h4 := in4_lims h
  rw [Bool.and_eq_true] at hxy
  have hx := inB_in hxy.1
  have hy := inB_in hxy.2
  unfold shS
  split
  · rfl
  · show (mayB (A.x0 + x) && mayB (A.y0 + y) && mayB (A.x1 + x) && mayB (A.y1 + y)) = true
    unfold mayB
    simp only [Bool.and_eq_true, decide_eq_true_eq]
    omega
def blF (A : Q) (M : List Value) (x y c : Int) (wd : Nat) : Nat → Nat → Value → Value := blnF c M (shS A x y).x0 (shS A x y).y0 ((shS A x y).x1 - (shS A x y).x0).toNat wd
/-- A mask that may be was put onto the canvas. -/
def blnE (wd ht : Nat) (A : Q) (M : List Value) (x y c : Int) (E : List Value) : List Value := cnputE wd ht (shS A x y) (blF A M x y c wd) E
theorem chk_in4 {A : Q} {n : Nat} (h : chkB A n = true) : in4 A = true := by unfold chkB msB at h; simp only [Bool.and_eq_true] at h; exact h.1.1.1
theorem chk_area {A : Q} {n : Nat} (h : chkB A n = true) : areaQ A = (n : Int) ∧ n ≤ 4194304 := by
  unfold chkB msB at h
  simp only [Bool.and_eq_true, decide_eq_true_eq] at h
  omega
theorem chk_empty {A : Q} {n : Nat} (h : chkB A n = true) (he : emptyQ A = true) : A = zeroQ ∧ n = 0 := by
  have h1 := chk_area h
  unfold chkB msB at h
  rw [he] at h
  simp only [Bool.and_eq_true, Bool.not_true, Bool.false_or] at h
  refine ⟨zerB_eq h.1.1.2, ?_⟩
  unfold areaQ at h1
  rw [he, if_pos rfl] at h1
  omega
/-- each, of a mask. -/
theorem each_mask (q g wd ht pb pm pc mc : Nat) (E : List Value) (A : Q) (Am : Option Addr) (M : List Value) (x y c : Int) (w W : World) (h : CnV W q g wd ht E) (hl : Lists w w.heap.size Am M) (hM8 : Bytes8 M) (hmc : M.length ≤ mc) (hk : chkB A M.length = true)
    (hxy : (inZ (-1048576) 1048576 x && inZ (-1048576) 1048576 y) = true) (hc : inZ 0 255 c = true) (hsep : ∀ a, Am = some a → M ≠ [] → a.block ≠ g) (hB : Below w.heap.size w W)
    (kb : Blk W pb 32 (qV (shS A x y))) (km : Blk W pm 35 #[.int .i64 A.x0, .int .i64 A.y0, .int .i64 A.x1, .int .i64 A.y1, .slice Am M.length mc]) (kc : Blk W pc 3 #[.int .i64 c]) (hne : pb ≠ g ∧ pm ≠ g ∧ pc ≠ g) :
    Calls Try.prog 28 #[.pointer (some ⟨q, 0, none⟩), .agg (qV (shS A x y)), .func (.func 38) #[] #[.pointer (some ⟨pb, 0, none⟩), .pointer (some ⟨pm, 0, none⟩), .pointer (some ⟨pc, 0, none⟩)]] W fun e w' => e = .returned (.agg (qV (meetC wd ht (shS A x y)))) ∧ CnV w' q g wd ht (blnE wd ht A M x y c E) ∧ Only W w' [g] := by
  have hmay := sh_may (chk_in4 hk) hxy
  have hkb : ∀ X0 X1 Y0 Y1, KeepB (blF A M x y c wd) wd X0 X1 Y0 Y1 := fun X0 X1 Y0 Y1 => bln_keep c M _ _ _ wd X0 X1 Y0 Y1 hc hM8
  obtain ⟨h1, h2⟩ := chk_area hk
  cases he : emptyQ A
  · have hsh : shS A x y = shiftQ A x y := by unfold shS; rw [he]; rfl
    have p4 := prod4 (chk_in4 hk) he
    have hnn : M ≠ [] := by
      rintro rfl
      unfold areaQ at h1
      rw [he] at h1
      simp only [Bool.false_eq_true, if_false, List.length_nil] at h1
      omega
    obtain ⟨mb, mo, rfl, hlt, hcell⟩ := hl.plain hnn
    have hI : Bl1 W pb pm pc g (shS A x y) A mb mo mc M c := ⟨kb, km, kc, fun i v hv => (hB.cell (p := ⟨mb, mo + i, none⟩) hlt).trans (hcell i v hv), Nat.lt_of_lt_of_le hlt hB.size, ⟨hsep _ rfl hnn, hne.1, hne.2.1, hne.2.2⟩⟩
    refine each_put q g wd ht E (shS A x y) 38 _ (blF A M x y c wd) (fun V => Bl1 V pb pm pc g (shS A x y) A mb mo mc M c) W (fun _ _ => rfl) h hmay hI (fun V V' hV o => hV.keep o) (fun X0 X1 yy h3 h4 h5 h6 h7 h8 h9 => ?_) hkb
    have hw : (shS A x y).x1 - (shS A x y).x0 = A.x1 - A.x0 := by rw [hsh]; simp only [shiftQ]; omega
    have hh : (shS A x y).y1 - (shS A x y).y0 = A.y1 - A.y0 := by rw [hsh]; simp only [shiftQ]; omega
    unfold areaQ at h1
    rw [he] at h1
    simp only [Bool.false_eq_true, if_false] at h1
    refine blend1_row pb pm pc g wd ht X0 X1 yy (shS A x y) A mb mo mc M c ⟨h3, h4⟩ h5 ⟨h.dim.1.2, h.dim.2.2⟩ hc hM8 hmc ((shS A x y).x1 - (shS A x y).x0).toNat ((shS A x y).y1 - (shS A x y).y0).toNat (by omega) (by omega) ?_ h2 (by omega) ⟨h6, h7, h8, h9⟩
    have e1 : (((A.x1 - A.x0).toNat : Nat) : Int) = A.x1 - A.x0 := by omega
    have e2 : (((A.y1 - A.y0).toNat : Nat) : Int) = A.y1 - A.y0 := by omega
    rw [hw, hh]
    have e3 : ((M.length : Nat) : Int) = (((A.x1 - A.x0).toNat * (A.y1 - A.y0).toNat : Nat) : Int) := by rw [Int.natCast_mul, e1, e2, h1]
    exact Int.ofNat.inj e3
  · have hsh : shS A x y = zeroQ := by unfold shS; rw [he]; rfl
    refine each_put q g wd ht E (shS A x y) 38 _ (blF A M x y c wd) (fun V => True) W (fun _ _ => rfl) h hmay trivial (fun V V' hV o => trivial) (fun X0 X1 yy h3 h4 h5 h6 h7 h8 h9 => ?_) hkb
    rw [hsh] at h6 h7
    simp only [zeroQ] at h6 h7
    omega
set_option maxRecDepth 100000 in
set_option maxHeartbeats 2000000 in
theorem cnblend_ok (q g wd ht mc : Nat) (E : List Value) (A : Q) (Am : Option Addr) (M : List Value) (x y c : Int) (w : World) (h : CnV w q g wd ht E) (hl : Lists w w.heap.size Am M) (hM8 : Bytes8 M) (hmc : M.length ≤ mc) (hk : chkB A M.length = true)
    (hxy : (inZ (-1048576) 1048576 x && inZ (-1048576) 1048576 y) = true) (hc : inZ 0 255 c = true) (hsep : ∀ a, Am = some a → M ≠ [] → a.block ≠ g) :
    Calls Try.prog 18 #[.pointer (some ⟨q, 0, none⟩), .agg #[.int .i64 A.x0, .int .i64 A.y0, .int .i64 A.x1, .int .i64 A.y1, .slice Am M.length mc], .int .i64 x, .int .i64 y, .int .i64 c] w fun e w' => e = .returned (.tuple #[.agg (qV (meetC wd ht (shS A x y))), .int .i64 0]) ∧ CnV w' q g wd ht (blnE wd ht A M x y c E) ∧ Only w w' [g] := by
  have HH := Lib.hid h
  have hg := h.row.lt
  have hq := h.blk.lt
  have CE := fun (p13 : Nat) (W : World) (hW : Below w.heap.size w W) kb km kc (hp : w.heap.size ≤ p13) => each_mask q g wd ht p13 w.heap.size (w.heap.size + 1) mc E A Am M x y c w W (HH.out.below hW) hl hM8 hmc hk hxy hc hsep hW kb km kc ⟨by omega, by omega, by omega⟩
  have CS := fun W => shift_near A x y W (chk_in4 hk) hxy
  obtain ⟨n, hn⟩ : ∃ n, n = M.length := ⟨_, rfl⟩
  rw [← hn] at CE hk ⊢
  have K6 := (((Blk.new w 35 #[.int .i64 A.x0, .int .i64 A.y0, .int .i64 A.x1, .int .i64 A.y1, .slice Am n mc]).below (below_a1 _ (.cells #[.int .i64 c] 3)))).below (below_a1 _ (.cells #[.int .i64 0, .int .i64 0, .int .i64 0, .int .i64 0] 32))
  have K9 := (Blk.new (w.alloc (.cells #[.int .i64 A.x0, .int .i64 A.y0, .int .i64 A.x1, .int .i64 A.y1, .slice Am n mc] 35)) 3 #[.int .i64 c]).below (below_a1 _ (.cells #[.int .i64 0, .int .i64 0, .int .i64 0, .int .i64 0] 32))
  have K10 := Blk.new ((w.alloc (.cells #[.int .i64 A.x0, .int .i64 A.y0, .int .i64 A.x1, .int .i64 A.y1, .slice Am n mc] 35)).alloc (.cells #[.int .i64 c] 3)) 32 #[.int .i64 0, .int .i64 0, .int .i64 0, .int .i64 0]
  have B0 : Below w.heap.size w (((w.alloc (.cells #[.int .i64 A.x0, .int .i64 A.y0, .int .i64 A.x1, .int .i64 A.y1, .slice Am n mc] 35)).alloc (.cells #[.int .i64 c] 3)).alloc (.cells #[.int .i64 0, .int .i64 0, .int .i64 0, .int .i64 0] 32)) := below_a3 _ _ _ _
  simp only [World.size_alloc] at K6 K9 K10
  have HK10 := Lib.hid K10
  have CC := fun W => ckmask_any A Am n mc W
  rw [show chkC A n = 0 by unfold chkC; rw [hk]; rfl] at CC
  have k0 := K6.cell 0; have k1 := K6.cell 1; have k2 := K6.cell 2; have k3 := K6.cell 3; have k4 := K6.cell 4; have kl := K6.lt; have c0 := K9.cell 0; have cl := K9.lt; simp only [List.getElem?_toArray, List.getElem?_cons_succ, List.getElem?_cons_zero] at k0 k1 k2 k3 k4 c0; have HK10 := Lib.hid K10
  clear h hl hM8 hmc hk hsep hn
  generalize meetC wd ht (shS A x y) = R at *
  generalize shS A x y = S at *
  generalize blnE wd ht A M x y c E = EE at *
  have CS : ∀ W, Calls Try.prog 37 #[.agg #[.int .i64 A.x0, .int .i64 A.y0, .int .i64 A.x1, .int .i64 A.y1], .int .i64 x, .int .i64 y] W fun e w' => e = .returned (.tuple #[.agg (qV S), .int .i64 0]) ∧ Below W.heap.size W w' := CS
  have CE : ∀ (p13 : Nat) (W : World) (hW : Below w.heap.size w W) (kb : Blk W p13 32 (qV S)) (km : Blk W w.heap.size 35 #[.int .i64 A.x0, .int .i64 A.y0, .int .i64 A.x1, .int .i64 A.y1, .slice Am n mc]) (kc : Blk W (w.heap.size + 1) 3 #[.int .i64 c]) (hp : w.heap.size ≤ p13), Calls Try.prog 28 #[.pointer (some ⟨q, 0, none⟩), .agg #[.int .i64 S.x0, .int .i64 S.y0, .int .i64 S.x1, .int .i64 S.y1], .func (.func 38) #[] #[.pointer (some ⟨p13, 0, none⟩), .pointer (some ⟨w.heap.size, 0, none⟩), .pointer (some ⟨w.heap.size + 1, 0, none⟩)]] W fun e w' => e = .returned (.agg (qV R)) ∧ CnV w' q g wd ht EE ∧ Only W w' [g] := CE
  go_enter Try.func18, Try.ntmps18
  go_wp2_with (first | (go_at_call 36; ((with_reducible refine (CC _).mono ?_); rintro e w1 ⟨rfl, b1⟩; have K6 := K6.below b1; have K9 := K9.below b1; have K10 := K10.below b1; have B0 := B0.trans (b1.mono B0.size); have k0 := K6.cell 0; have k1 := K6.cell 1; have k2 := K6.cell 2; have k3 := K6.cell 3; have k4 := K6.cell 4; have kl := K6.lt; have c0 := K9.cell 0; have cl := K9.lt; simp only [List.getElem?_toArray, List.getElem?_cons_succ, List.getElem?_cons_zero] at k0 k1 k2 k3 k4 c0; have HK10 := Lib.hid K10)) | (go_at_call 27; ((with_reducible refine (mayByte_1 w1.heap.size c _ (Blk.new w1 3 #[.int .i64 c])).mono ?_); rintro e w' ⟨rfl, rfl⟩; rw [hc]; have b2 := below_a1 w1 (.cells #[.int .i64 c] 3); have K6 := K6.below b2; have K9 := K9.below b2; have K10 := K10.below b2; have B0 := B0.trans (b2.mono B0.size); have k0 := K6.cell 0; have k1 := K6.cell 1; have k2 := K6.cell 2; have k3 := K6.cell 3; have k4 := K6.cell 4; have kl := K6.lt; have c0 := K9.cell 0; have cl := K9.lt; simp only [List.getElem?_toArray, List.getElem?_cons_succ, List.getElem?_cons_zero] at k0 k1 k2 k3 k4 c0; have HK10 := Lib.hid K10)) | (go_at_call 26; ((with_reducible refine (within_2 (-1048576) 1048576 (w1.heap.size + 1) x y _ (by have := Blk.new (w1.alloc (.cells #[.int .i64 c] 3)) 3 #[.int .i64 x, .int .i64 y]; rw [World.size_alloc] at this; exact this)).mono ?_); rintro e w' ⟨rfl, rfl⟩; rw [hxy]; have b3 := below_a1 (w1.alloc (.cells #[.int .i64 c] 3)) (.cells #[.int .i64 x, .int .i64 y] 3); have K6 := K6.below b3; have K9 := K9.below b3; have K10 := K10.below b3; have B0 := B0.trans (b3.mono B0.size); have k0 := K6.cell 0; have k1 := K6.cell 1; have k2 := K6.cell 2; have k3 := K6.cell 3; have k4 := K6.cell 4; have kl := K6.lt; have c0 := K9.cell 0; have cl := K9.lt; simp only [List.getElem?_toArray, List.getElem?_cons_succ, List.getElem?_cons_zero] at k0 k1 k2 k3 k4 c0; have HK10 := Lib.hid K10)) | (go_at_call 37; ((with_reducible refine (CS _).mono ?_); rintro e w2 ⟨rfl, b4⟩; have K6 := K6.below b4; have K9 := K9.below b4; have K10 := K10.below b4; have B0 := B0.trans (b4.mono B0.size); have hs2 := B0.size; have K13 := Blk.new w2 32 #[.int .i64 0, .int .i64 0, .int .i64 0, .int .i64 0]; have HK13 := Lib.hid K13; have b5 : Below w2.heap.size w2 ((w2.alloc (.cells #[.int .i64 0, .int .i64 0, .int .i64 0, .int .i64 0] 32)).setRow w2.heap.size (qV S)) := below_setRow (below_a1 w2 _) (Nat.le_refl _) (qV S); have KS := blk_row K13 (qV S); have K6 := K6.below b5; have K9 := K9.below b5; have K10 := K10.below b5; have B0 := B0.trans (b5.mono B0.size); have k0 := K6.cell 0; have k1 := K6.cell 1; have k2 := K6.cell 2; have k3 := K6.cell 3; have k4 := K6.cell 4; have kl := K6.lt; have c0 := K9.cell 0; have cl := K9.lt; simp only [List.getElem?_toArray, List.getElem?_cons_succ, List.getElem?_cons_zero] at k0 k1 k2 k3 k4 c0; have HK10 := Lib.hid K10; have s0 : ((w2.alloc (.cells #[.int .i64 0, .int .i64 0, .int .i64 0, .int .i64 0] 32)).setRow w2.heap.size (qV S)).cell? ⟨w2.heap.size, 0, none⟩ = some (.int .i64 S.x0) := (KS.cell 0).trans rfl; have s1 : ((w2.alloc (.cells #[.int .i64 0, .int .i64 0, .int .i64 0, .int .i64 0] 32)).setRow w2.heap.size (qV S)).cell? ⟨w2.heap.size, 1, none⟩ = some (.int .i64 S.y0) := (KS.cell 1).trans rfl; have s2 : ((w2.alloc (.cells #[.int .i64 0, .int .i64 0, .int .i64 0, .int .i64 0] 32)).setRow w2.heap.size (qV S)).cell? ⟨w2.heap.size, 2, none⟩ = some (.int .i64 S.x1) := (KS.cell 2).trans rfl; have s3 : ((w2.alloc (.cells #[.int .i64 0, .int .i64 0, .int .i64 0, .int .i64 0] 32)).setRow w2.heap.size (qV S)).cell? ⟨w2.heap.size, 3, none⟩ = some (.int .i64 S.y1) := (KS.cell 3).trans rfl; have sl := KS.lt; have HB0 := Lib.hid B0)) | (refine wpList_store_row rfl 32 (.tmp 13) (.tmp 41) (by with_reducible rfl) w2.heap.size (qV S) (by rfl) (by rfl) 32 #[.int .i64 0, .int .i64 0, .int .i64 0, .int .i64 0] (by exact HK13.out) (bxInfoF S) rfl (by simp [qV, Value.oneCell']) ?_) | (go_at_call 28; ((with_reducible refine (CE w2.heap.size _ B0 KS K6 K9 (by omega)).mono ?_); rintro e w3 ⟨rfl, h1, h2⟩; have K10 := K10.only h2 (by simp; omega); have HK10 := Lib.hid K10)) | (refine wpList_store_row rfl 32 (.tmp 10) (.tmp 46) (by with_reducible rfl) (w.heap.size + 1 + 1) (qV R) (by rfl) (by rfl) 32 #[.int .i64 0, .int .i64 0, .int .i64 0, .int .i64 0] (by exact HK10.out) (bxInfoF R) rfl (by simp [qV, Value.oneCell']) ?_))
  have o9 := only_row (g := (w.heap.size + 1 + 1)) (Only.refl w3 [(w.heap.size + 1 + 1)]) (.inl (by simp)) (qV R)
  refine bodyPost_ret (results_row_tmp Try.results18 _ _ (w.heap.size + 1 + 1) 32 (qV R) (0, 0) _ (.int .i64 0) (by rfl) (by rfl) (show Blk _ _ _ _ from blk_row HK10.out _) Try.underlying32 rfl (bxInfoF R)) rfl ⟨rfl, h1.only o9 (by simp; omega) (by simp; omega), ?_⟩
  exact only_row (g := (w.heap.size + 1 + 1)) ((Only.of_below HB0.out [g]).trans h2 (fun b hb => .inl hb)) (.inr (by omega)) _
end Go.Proofs.Ytlbbigehjdnjmaa

namespace Go.Proofs.Ytlbbigehjdnjmaa
open Go Go.RowKit
set_option linter.unusedVariables false
set_option linter.unusedSimpArgs false

def LE2 : List Value := [.int .u8 100, .int .u8 100, .int .u8 100, .int .u8 100, .int .u8 200, .int .u8 150]
theorem le2_b8 : Bytes8 LE2 := fun v hv => by
  simp [LE2] at hv
  rcases hv with rfl | rfl | rfl
  · exact ⟨100, by decide, rfl⟩
  · exact ⟨200, by decide, rfl⟩
  · exact ⟨150, by decide, rfl⟩
theorem le2_eq : blnE 3 2 ⟨0, 0, 2, 1⟩ [.int .u8 255, .int .u8 128] 1 1 200 (oneE (3 * 2) 100) = LE2 := by kernel_rfl
theorem le2_bx : qV (meetC 3 2 (shS ⟨0, 0, 2, 1⟩ 1 1)) = #[.int .i64 1, .int .i64 1, .int .i64 3, .int .i64 2] := by kernel_rfl
theorem le2_str : (⟨(LE2.map toU8).toArray⟩ : ByteArray) = ⟨#[100, 100, 100, 100, 200, 150]⟩ := by kernel_rfl
theorem new0 (w : World) : Calls Try.prog 10 #[.int .i64 3, .int .i64 2, .int .i64 100] w (MadeCn w 3 2 (oneE (3 * 2) 100)) := cnnew_ok 3 2 100 w (by decide)
theorem size0 (q g : Nat) (E : List Value) (W : World) (h : CnV W q g 3 2 E) : Calls Try.prog 15 #[.pointer (some ⟨q, 0, none⟩)] W fun e w' => e = .returned (.tuple #[.int .i64 3, .int .i64 2]) ∧ Below W.heap.size W w' := cnsize_any q g 3 2 E W h
theorem blend0 (q g : Nat) (W : World) (h : CnV W q g 3 2 (oneE (3 * 2) 100)) : Calls Try.prog 18 #[.pointer (some ⟨q, 0, none⟩), .agg #[.int .i64 0, .int .i64 0, .int .i64 2, .int .i64 1, .slice (some ⟨W.heap.size, 0, none⟩) 2 2], .int .i64 1, .int .i64 1, .int .i64 200] (W.alloc (.cells #[.int .u8 255, .int .u8 128] 5)) fun e w' => e = .returned (.tuple #[.agg #[.int .i64 1, .int .i64 1, .int .i64 3, .int .i64 2], .int .i64 0]) ∧ CnV w' q g 3 2 LE2 ∧ Only W w' [g] := by
  have hg := h.row.lt
  have := cnblend_ok q g 3 2 2 (oneE (3 * 2) 100) ⟨0, 0, 2, 1⟩ (some ⟨W.heap.size, 0, none⟩) [.int .u8 255, .int .u8 128] 1 1 200 (W.alloc (.cells #[.int .u8 255, .int .u8 128] 5)) (h.below (below_a1 _ _)) ((lists_row W [.int .u8 255, .int .u8 128] 5).more (by simp))
    (fun v hv => by
      simp at hv
      rcases hv with rfl | rfl
      · exact ⟨255, by decide, rfl⟩
      · exact ⟨128, by decide, rfl⟩) (by decide) (by decide) (by decide) (by decide) (fun a ha _ => by cases ha; show W.heap.size ≠ g; omega)
  rw [le2_eq, le2_bx] at this
  exact this.mono fun e w' ⟨h1, h2, h3⟩ => ⟨h1, h2, (Only.of_below (below_a1 _ _) [g]).trans h3 (fun b hb => .inl hb)⟩
theorem lists_of_blk {w : World} {p : Nat} {T : TypeId} {E : List Value} (h : Blk w p T E.toArray) : Lists w w.heap.size (some ⟨p, 0, none⟩) E := ⟨fun ha => (nomatch ha), fun a ha j u hu => by cases ha; rw [addr_plain, Nat.zero_add, h.cell, List.getElem?_toArray]; exact hu, fun a ha _ => by cases ha; exact h.lt⟩
theorem at11 (q g : Nat) (W : World) (h : CnV W q g 3 2 LE2) : Calls Try.prog 16 #[.pointer (some ⟨q, 0, none⟩), .int .i64 1, .int .i64 1] W fun e w' => e = .returned (.int .i64 200) ∧ Below W.heap.size W w' := by
  have := cnat_any q g 3 2 LE2 1 1 W h
  rw [show atC 3 2 LE2 1 1 = 200 from by kernel_rfl] at this
  exact this
theorem at21 (q g : Nat) (W : World) (h : CnV W q g 3 2 LE2) : Calls Try.prog 16 #[.pointer (some ⟨q, 0, none⟩), .int .i64 2, .int .i64 1] W fun e w' => e = .returned (.int .i64 150) ∧ Below W.heap.size W w' := by
  have := cnat_any q g 3 2 LE2 2 1 W h
  rw [show atC 3 2 LE2 2 1 = 150 from by kernel_rfl] at this
  exact this
theorem at00 (q g : Nat) (W : World) (h : CnV W q g 3 2 LE2) : Calls Try.prog 16 #[.pointer (some ⟨q, 0, none⟩), .int .i64 0, .int .i64 0] W fun e w' => e = .returned (.int .i64 100) ∧ Below W.heap.size W w' := by
  have := cnat_any q g 3 2 LE2 0 0 W h
  rw [show atC 3 2 LE2 0 0 = 100 from by kernel_rfl] at this
  exact this
set_option maxRecDepth 100000 in
set_option maxHeartbeats 2000000 in
theorem lives26 (w : World) : Calls Try.prog 9 #[] w fun e w' => e = .returned (.bool true) ∧ Below w.heap.size w w' := by
  have e1 := fun W => eqB_run 1 1 3 2 1 1 3 2 W
  have e2 := fun x y W => eqB_guard 1 1 3 2 1 1 3 2 x y W
  rw [show eq4 1 1 3 2 1 1 3 2 = true from rfl] at e1
  go_enter Try.func9, Try.ntmps9
  go_wp2_with (first | (go_at_call 10; ((with_reducible refine (new0 w).mono ?_); rintro e w1 ⟨q, g, rfl, X1, hq, hg, b1⟩; have B1 := b1)) | (go_at_call 10; ((with_reducible refine (cnnew_no 0 2 100 w1 (by decide)).mono ?_); rintro e w2 ⟨rfl, b2⟩; have X2 := X1.below b2; have B2 := B1.trans (b2.mono B1.size))) | (go_at_call 13; ((with_reducible refine (cnfork_any q g 3 2 _ w2 X2).mono ?_); rintro e w3 ⟨pf, bf, rfl, _, _, _, b3⟩; have X3 := X2.below b3; have B3 := B2.trans (b3.mono B2.size))) | (go_at_call 18; ((with_reducible refine (blend0 q g w3 X3).mono ?_); rintro e w4 ⟨rfl, X4, o4⟩; have B4 := B3.trans (o4.to_below B3.size (by simp; exact hg)); have K5 := Blk.new w4 32 #[.int .i64 0, .int .i64 0, .int .i64 0, .int .i64 0]; have HK5 := Lib.hid K5; have K5 := blk_row K5 #[.int .i64 1, .int .i64 1, .int .i64 3, .int .i64 2]; have b5 : Below w4.heap.size w4 ((w4.alloc (.cells #[.int .i64 0, .int .i64 0, .int .i64 0, .int .i64 0] 32)).setRow w4.heap.size #[.int .i64 1, .int .i64 1, .int .i64 3, .int .i64 2]) := below_setRow (below_a1 w4 _) (Nat.le_refl _) _; have X5 := X4.below b5; have B5 := B4.trans (b5.mono B4.size))) | (refine wpList_store_row rfl 32 (.tmp 5) (.tmp 40) (by with_reducible rfl) w4.heap.size #[.int .i64 1, .int .i64 1, .int .i64 3, .int .i64 2] (by rfl) (by rfl) 32 #[.int .i64 0, .int .i64 0, .int .i64 0, .int .i64 0] (by exact HK5.out) (by kernel_rfl) rfl (by simp [Value.oneCell']) ?_) | (go_at_call 20; ((with_reducible refine (cmix_any 100 200 128 _).mono ?_); rintro e w6 ⟨rfl, b6⟩; have X6 := X5.below b6; have B6 := B5.trans (b6.mono B5.size); have K5 := K5.below b6)) | (go_at_call 15; ((with_reducible refine (size0 q g _ w6 X6).mono ?_); rintro e w7 ⟨rfl, b7⟩; have X7 := X6.below b7; have B7 := B6.trans (b7.mono B6.size); have K5 := K5.below b7; have k0 := K5.cell 0; have k1 := K5.cell 1; have k2 := K5.cell 2; have k3 := K5.cell 3; have kl := K5.lt; simp only [List.getElem?_toArray, List.getElem?_cons_succ, List.getElem?_cons_zero] at k0 k1 k2 k3)) | (go_at_call 16; ((with_reducible refine (at11 q g w7 X7).mono ?_); rintro e w8 ⟨rfl, b8⟩; have X8 := X7.below b8; have B8 := B7.trans (b8.mono B7.size))) | (go_at_call 16; ((with_reducible refine (at21 q g w8 X8).mono ?_); rintro e w9 ⟨rfl, b9⟩; have X9 := X8.below b9; have B9 := B8.trans (b9.mono B8.size))) | (go_at_call 16; ((with_reducible refine (at00 q g w9 X9).mono ?_); rintro e w10 ⟨rfl, b10⟩; have X10 := X9.below b10; have B10 := B9.trans (b10.mono B9.size))) | (go_at_call 12; ((with_reducible refine (cnbytes_any q g 3 2 6 _ w10 X10 rfl).mono ?_); rintro e w11 ⟨rfl, K11, b11⟩; have X11 := X10.below b11; have B11 := B10.trans (b11.mono B10.size); have q1 := conv_lists (n := 6) (c := 6) (A := some ⟨w10.heap.size, 0, none⟩) (w := w11) (B := w11.heap.size) (E := LE2) (lists_of_blk K11) rfl le2_b8; rw [le2_str] at q1)))
  go_ret
  exact ⟨rfl, B11⟩
end Go.Proofs.Ytlbbigehjdnjmaa

namespace Go.Proofs.Ytlbbigehjdnjmaa
open Go.ChangeShapes Go.WideShapes Go.ChangeAt Go.RowKit

section
variable {H : Type} {enc : TypeId × Value → H} {P : Program}

theorem args_stay (hl : laidOutB P = true) {W W' : World} (hb : Below W.heap.size W W') :
    ∀ {ts : List TypeId} {vs : List Value} {ds : List (DataW H)} {ps : List MemPlace}, (ts.all fun t => P.readableRec t && decide (t < P.types.size)) = true →
      DataW.TrodAll enc P W 0 (fun _ => true) true ts vs ds ps → (∀ x ∈ ps, x.block < W.heap.size) → DataW.TrodAll enc P W' 0 (fun b => decide (b < W.heap.size)) true ts vs ds ps
  | [], vs, ds, ps, _, h, _ => by
    obtain ⟨rfl, rfl, rfl⟩ := trodAll_nil h
    exact h
  | t :: ts, vs, ds, ps, hr, h, hp => by
    obtain ⟨v, vs', d, ds', p, q, rfl, rfl, rfl, h1, h2⟩ := trodAll_cons h
    rw [List.all_cons, Bool.and_eq_true, Bool.and_eq_true, decide_eq_true_eq] at hr
    exact trodAll_cons_mk (Below.trod hl hr.1.1 hr.1.2 h1 hb fun x hx => hp x (List.mem_append_left _ hx)) (args_stay hl hb hr.2 h2 fun x hx => hp x (List.mem_append_right _ hx))

theorem law_post {f : Func} {s : ChangeSpec} {T : TypeId} {W W' : World} {args : Array Value} {ds : List (DataW H)} {before : List MemPlace} (hl : laidOutB P = true)
    (hr : f.resultTypes = #[T]) (hT : P.underlying T = some .bool) (hrd : (f.params.toList.all fun t => P.readableRec t && decide (t < P.types.size)) = true) (hv : s.vars = [])
    (h1 : (s.fn H ds).results = [.lit (.bool true)]) (h2 : (s.fn H ds).args = ds) (h3 : (s.fn H ds).vars = [])
    (hW : DataW.Whole enc P f.params.toList s.vars false W args.toList ds [] before) (hb : Below W.heap.size W W') :
    s.post enc P f false true false false W args (.bool true) W' := by
  have hlt : ∀ p ∈ before, p.block < W.heap.size := fun p hp => hW.lt p hp
  obtain ⟨p, q, hA, hV, rfl, _, _⟩ := id hW
  rw [hv] at hV
  have hq : q = [] := by simpa [DataW.TrodVars] using hV
  subst hq
  rw [List.append_nil] at hlt
  refine ⟨ds, [], _, [], p, [], hW, ?_, ?_, ?_, ?_, fun h => nomatch h⟩
  · rw [hr, List.append_nil, h1]; exact trodAll_mk1 (shut_bool hT true)
  · rw [List.append_nil, h2]; exact args_stay hl hb hrd hA hlt
  · rw [List.append_nil, h3, hv]; rfl
  · exact World.keptBut_mono (fun x hx => ⟨by simpa using hx, .inr (.inl hx)⟩) (hb.frame (· ∈ p))
end

theorem Try.own : ownKnob Try.prog.godebug = none := by kernel_rfl
theorem Try.laidOut : laidOutB Try.prog = true := by kernel_rfl

end Go.Proofs.Ytlbbigehjdnjmaa

namespace Go.Proofs.Ytlbbigehjdnjmaa
open Go.ChangeShapes Go.WideShapes Go.ChangeAt Go.RowKit

section
variable {H : Type} {enc : TypeId × Value → H} {P : Program}
theorem open_list_int {w : World} {t e : TypeId} {base : Nat} {spare : Nat → Bool} {held : Bool} {r : Reach} {b0 : Nat} {v : Value} {d : DataW H} {p : List MemPlace}
    (hs : P.underlying t = some (.slice e)) (he : P.underlying e = some (.int .i64)) (hC : P.cellsOf e = 1)
    (hv : Value.okWide P w r b0 t v) (h : DataW.Trod enc P w base spare held t v d p) :
    ∃ (A : Option Addr) (n c : Nat) (zs : List Int), v = .slice A n c ∧ zs.length = n ∧ n ≤ c ∧ c ≤ maxLen ∧ Lists w w.heap.size A (intCells zs) ∧ ∀ z ∈ zs, (Lit.int .i64 z).wf = true := by
  obtain ⟨a0, len, cap, rfl⟩ := okWide_slice hs hv
  obtain ⟨fuel, hf⟩ := h
  rcases open_ints hs he hC hf with ⟨hcs, _⟩ | ⟨a, len', cap', zs, hcs, _, hl, hm, hz, _, hcell, hwf⟩
  · simp [Value.cells] at hcs
    obtain ⟨rfl, rfl, rfl⟩ := hcs
    exact ⟨none, 0, 0, [], rfl, rfl, Nat.le_refl _, Nat.zero_le _, Lists.empty _ _ _, fun z hz => by cases hz⟩
  · simp [Value.cells] at hcs
    obtain ⟨rfl, rfl, rfl⟩ := hcs
    have hlen : len ≤ zs.length := by split at hz <;> omega
    have hc : ∀ j u, (intCells (zs.take len))[j]? = some u → w.cell? (a.add j) = some u := fun j u hu => by
      have hj : j < (zs.take len).length := by
        rcases Nat.lt_or_ge j (zs.take len).length with h | h
        · exact h
        · rw [List.getElem?_eq_none (by rw [intCells_len]; exact h)] at hu; cases hu
      rw [intCells_get _ _ hj] at hu
      have hj2 : j < len := by simp at hj; omega
      have hh := hcell j (by omega)
      cases hu
      rw [hh]
      simp [List.getD, hj2]
    refine ⟨some a, len, cap, zs.take len, rfl, by simp; omega, hl, hm, ⟨fun ha => (nomatch ha), fun a' ha => ?_, fun a' ha hx => ?_⟩, fun z hz' => hwf z (List.mem_of_mem_take hz')⟩
    · cases ha; exact hc
    · cases ha
      have h0 : 0 < (intCells (zs.take len)).length := by
        rcases Nat.eq_zero_or_pos (intCells (zs.take len)).length with h | h
        · exact absurd (List.eq_nil_of_length_eq_zero h) hx
        · exact h
      have := hc 0 _ (List.getElem?_eq_getElem h0)
      rcases Nat.lt_or_ge a.block w.heap.size with h | h
      · exact h
      · have e0 : (a.add 0) = a := by simp [Addr.add]
        rw [e0] at this
        unfold World.cell? at this
        rw [Array.getElem?_eq_none h] at this
        cases this
end

end Go.Proofs.Ytlbbigehjdnjmaa

namespace Go.Proofs.Ytlbbigehjdnjmaa
open Go.ChangeShapes Go.WideShapes Go.ChangeAt Go.RowKit

section
variable {H : Type} {enc : TypeId × Value → H} {P : Program}
theorem weights_all {e : TypeId} {d : DataW H} {n : Nat} (hn : n ∈ d.weights P e) : ∀ {l : List (DataW H)}, d ∈ l → n ∈ DataW.weightsAll P e l
  | [], h => (nomatch h)
  | a :: r, h => by
    rw [DataW.weightsAll]
    rcases List.mem_cons.1 h with h | h
    · subst h; exact List.mem_append_left _ hn
    · exact List.mem_append_right _ (weights_all hn h)

theorem cell_lt {w : World} {a : Addr} {v : Value} (h : w.cell? a = some v) : a.block < w.heap.size := by
  rcases Nat.lt_or_ge a.block w.heap.size with h1 | h1
  · exact h1
  · unfold World.cell? at h
    rw [Array.getElem?_eq_none h1] at h
    cases h

/-- A slice of numbers, at the value that a cell holds. -/
theorem open_nums {w : World} {t e : TypeId} {k : IntKind} {base fuel : Nat} {spare : Nat → Bool} {held : Bool} {v : Value} {x : DataW H × List MemPlace}
    (hs : P.underlying t = some (.slice e)) (he : P.underlying e = some (.int k)) (hC : P.cellsOf e = 1) (h : DataW.trod enc P w base spare held fuel t [v] = some x) :
    ∃ (A : Option Addr) (n c : Nat) (zs : List Int), v = .slice A n c ∧ zs.length = n ∧ n ≤ c ∧ c ≤ maxLen ∧ Lists w w.heap.size A (zs.map (Value.int k)) ∧ (∀ z ∈ zs, (Lit.int k z).wf = true) ∧
      ∀ b, (∀ m ∈ x.1.weights P t, m ≤ b) → n * P.bytesOf e ≤ b := by
  rcases open_ints hs he hC h with ⟨hcs, hx⟩ | ⟨a, len, cap, zs, hcs, _, hl, hm, hz, hx, hcell, hwf⟩
  · simp only [List.cons.injEq, and_true] at hcs
    exact ⟨none, 0, 0, [], hcs, rfl, Nat.le_refl _, Nat.zero_le _, Lists.empty _ _ _, (fun z hz => (nomatch hz)), fun b _ => by omega⟩
  · simp only [List.cons.injEq, and_true] at hcs
    have hlen : len ≤ zs.length := by split at hz <;> omega
    have hc : ∀ j u, ((zs.take len).map (Value.int k))[j]? = some u → w.cell? (a.add j) = some u := fun j u hu => by
      rw [List.getElem?_map, Option.map_eq_some_iff] at hu
      obtain ⟨z, hz1, rfl⟩ := hu
      have hj : j < (zs.take len).length := (List.getElem?_eq_some_iff.1 hz1).1
      have hj2 : j < zs.length := by simp at hj; omega
      rw [hcell j hj2]
      simp only [List.getElem?_take, List.length_take] at hz1 hj
      rw [if_pos (by omega)] at hz1
      simp [List.getD, hz1]
    refine ⟨some a, len, cap, zs.take len, hcs, by simp; omega, hl, hm, ⟨fun ha => (nomatch ha), fun a' ha => ?_, fun a' ha hne => ?_⟩, fun z hz' => hwf z (List.mem_of_mem_take hz'), fun b hb => ?_⟩
    · cases ha; exact hc
    · cases ha
      have h0 : 0 < ((zs.take len).map (Value.int k)).length := by
        rcases Nat.eq_zero_or_pos ((zs.take len).map (Value.int k)).length with h | h
        · exact absurd (List.eq_nil_of_length_eq_zero h) hne
        · exact h
      have := cell_lt (hc 0 _ (List.getElem?_eq_getElem h0))
      rwa [addr_add_block] at this
    · subst hx
      have := hb (((lits k (zs.take len) : List (DataW H)).length + (lits k (zs.drop len) : List (DataW H)).length) * P.bytesOf e) (by simp [DataW.weights, hs])
      refine Nat.le_trans (Nat.mul_le_mul_right _ ?_) this
      simp [lits]
      omega

theorem bytes_of_wf {zs : List Int} (h : ∀ z ∈ zs, (Lit.int .u8 z).wf = true) : Bytes8 (zs.map (Value.int .u8)) := fun u hu => by
  obtain ⟨z, hz, rfl⟩ := List.mem_map.1 hu
  have := h z hz
  simp [Lit.wf, IntKind.min, IntKind.max, IntKind.signed, IntKind.bits] at this
  exact ⟨z.toNat, by omega, by congr 1; omega⟩

theorem one_of {w : World} {base fuel : Nat} {spare : Nat → Bool} {held : Bool} {fs : Array Field} {cs : List Value} {ys : List (DataW H × List MemPlace)} (hone : Deep.oneCellFields P fs = true)
    (hg : ∀ (i : Nat) (f : Field), fs[i]? = some f → DataW.trod enc P w base spare held fuel f.type ((cs.drop f.offset).take (P.cellsOf f.type)) = ys[i]?) {j : Nat} {f : Field} {c : Value} {y : DataW H × List MemPlace}
    (hf : fs[j]? = some f) (hc : cs[j]? = some c) (hy : ys[j]? = some y) : DataW.trod enc P w base spare held fuel f.type [c] = some y := by
  have h := hg j f hf
  obtain ⟨h1, h2⟩ := Deep.hone_of hone j f hf
  obtain ⟨hj, hcj⟩ := List.getElem?_eq_some_iff.1 hc
  rw [h1, h2, hy, List.drop_eq_getElem_cons hj, hcj] at h
  exact h
end

end Go.Proofs.Ytlbbigehjdnjmaa
