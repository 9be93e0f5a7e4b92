/- CanvasNobody: a nil canvas: no pixels, and nothing is put onto it; for every call. -/
import Derived.Test.YtlbbigehjdnjmaaCCn9

namespace Go.Proofs.Ytlbbigehjdnjmaa.canvasNobody
open Go Go.ChangeShapes Go.WideShapes Go.ChangeAt Go.RowKit
set_option linter.unusedVariables false
set_option linter.unusedSimpArgs false

variable {W : World}
set_option maxRecDepth 100000 in
set_option maxHeartbeats 4000000 in
theorem walk (kd : Int) (A : Q) (Am : Option Addr) (mc : Nat) (E : List Value) (B0 : Q) (x y cc : Int) (k : E.length ≤ mc) (m : mc ≤ 9223372036854775807) (l : Lists W W.heap.size Am E) (s : Bytes8 E) : Calls Try.prog 6 #[.agg #[.int .i64 kd, .int .i64 A.x0, .int .i64 A.y0, .int .i64 A.x1, .int .i64 A.y1, .slice Am E.length mc, .int .i64 B0.x0, .int .i64 B0.y0, .int .i64 B0.x1, .int .i64 B0.y1, .int .i64 x, .int .i64 y, .int .i64 cc]] W fun e w' => e = .returned (.bool true) ∧ Below W.heap.size W w' := by
  have CL := fun W => lives26 W
  have e1 := fun W => eqB_run 0 0 0 0 0 0 0 0 W
  have e2 := fun x y W => eqB_guard 0 0 0 0 0 0 0 0 x y W
  rw [show eq4 0 0 0 0 0 0 0 0 = true from rfl] at e1
  generalize E.length = n at *
  have B : Below W.heap.size W (W.alloc (.cells #[.int .i64 kd, .int .i64 A.x0, .int .i64 A.y0, .int .i64 A.x1, .int .i64 A.y1, .slice Am n mc, .int .i64 B0.x0, .int .i64 B0.y0, .int .i64 B0.x1, .int .i64 B0.y1, .int .i64 x, .int .i64 y, .int .i64 cc] 37)) := below_a1 _ _
  have K := Blk.new W 37 #[.int .i64 kd, .int .i64 A.x0, .int .i64 A.y0, .int .i64 A.x1, .int .i64 A.y1, .slice Am n mc, .int .i64 B0.x0, .int .i64 B0.y0, .int .i64 B0.x1, .int .i64 B0.y1, .int .i64 x, .int .i64 y, .int .i64 cc]
  have t0 := K.cell 0; have t1 := K.cell 1; have t2 := K.cell 2; have t3 := K.cell 3; have t4 := K.cell 4; have t5 := K.cell 5; have t6 := K.cell 6; have t7 := K.cell 7; have t8 := K.cell 8; have t9 := K.cell 9; have t10 := K.cell 10; have t11 := K.cell 11; have t12 := K.cell 12; have tl := K.lt; simp only [List.getElem?_toArray, List.getElem?_cons_succ, List.getElem?_cons_zero] at t0 t1 t2 t3 t4 t5 t6 t7 t8 t9 t10 t11 t12
  clear k m l s
  go_enter Try.func6, Try.ntmps6
  go_wp2_with (first | (go_at_call 15; ((with_reducible refine (cnsize_nil _).mono ?_); rintro e w9 ⟨rfl, rfl⟩)) | (go_at_call 18; ((with_reducible refine (cnblend_nil A Am n mc x y cc _).mono ?_); rintro e w1 ⟨rfl, b1⟩; have J1 := Blk.new w1 32 #[.int .i64 0, .int .i64 0, .int .i64 0, .int .i64 0]; have HJ1 := Lib.hid J1; have J1 := blk_row J1 #[.int .i64 0, .int .i64 0, .int .i64 0, .int .i64 0]; have b2 : Below w1.heap.size w1 ((w1.alloc (.cells #[.int .i64 0, .int .i64 0, .int .i64 0, .int .i64 0] 32)).setRow w1.heap.size #[.int .i64 0, .int .i64 0, .int .i64 0, .int .i64 0]) := below_setRow (below_a1 w1 _) (Nat.le_refl _) _; have K := (K.below b1).below b2; have B := (B.trans (b1.mono B.size)).trans (b2.mono (B.trans (b1.mono B.size)).size); have t0 := K.cell 0; have t1 := K.cell 1; have t2 := K.cell 2; have t3 := K.cell 3; have t4 := K.cell 4; have t5 := K.cell 5; have t6 := K.cell 6; have t7 := K.cell 7; have t8 := K.cell 8; have t9 := K.cell 9; have t10 := K.cell 10; have t11 := K.cell 11; have t12 := K.cell 12; have tl := K.lt; simp only [List.getElem?_toArray, List.getElem?_cons_succ, List.getElem?_cons_zero] at t0 t1 t2 t3 t4 t5 t6 t7 t8 t9 t10 t11 t12)) | (refine wpList_store_row rfl 32 (.tmp 6) (.tmp 26) (by with_reducible rfl) w1.heap.size #[.int .i64 0, .int .i64 0, .int .i64 0, .int .i64 0] (by rfl) (by rfl) 32 #[.int .i64 0, .int .i64 0, .int .i64 0, .int .i64 0] (by exact HJ1.out) (by kernel_rfl) rfl (by simp [Value.oneCell']) ?_))
  go_wp2_with (first | (go_at_call 23; ((with_reducible refine (cnfill_nil B0 cc _).mono ?_); rintro e w2 ⟨rfl, b3⟩; have J2 := Blk.new w2 32 #[.int .i64 0, .int .i64 0, .int .i64 0, .int .i64 0]; have HJ2 := Lib.hid J2; have J2 := blk_row J2 #[.int .i64 0, .int .i64 0, .int .i64 0, .int .i64 0]; have b4 : Below w2.heap.size w2 ((w2.alloc (.cells #[.int .i64 0, .int .i64 0, .int .i64 0, .int .i64 0] 32)).setRow w2.heap.size #[.int .i64 0, .int .i64 0, .int .i64 0, .int .i64 0]) := below_setRow (below_a1 w2 _) (Nat.le_refl _) _; have K := (K.below b3).below b4; have J1 := (J1.below b3).below b4; have B := (B.trans (b3.mono B.size)).trans (b4.mono (B.trans (b3.mono B.size)).size); have t0 := K.cell 0; have t1 := K.cell 1; have t2 := K.cell 2; have t3 := K.cell 3; have t4 := K.cell 4; have t5 := K.cell 5; have t6 := K.cell 6; have t7 := K.cell 7; have t8 := K.cell 8; have t9 := K.cell 9; have t10 := K.cell 10; have t11 := K.cell 11; have t12 := K.cell 12; have tl := K.lt; simp only [List.getElem?_toArray, List.getElem?_cons_succ, List.getElem?_cons_zero] at t0 t1 t2 t3 t4 t5 t6 t7 t8 t9 t10 t11 t12)) | (refine wpList_store_row rfl 32 (.tmp 8) (.tmp 35) (by with_reducible rfl) w2.heap.size #[.int .i64 0, .int .i64 0, .int .i64 0, .int .i64 0] (by rfl) (by rfl) 32 #[.int .i64 0, .int .i64 0, .int .i64 0, .int .i64 0] (by exact HJ2.out) (by kernel_rfl) rfl (by simp [Value.oneCell']) ?_))
  go_wp2_with (first | (go_at_call 9; ((with_reducible refine (CL _).mono ?_); rintro e w3 ⟨rfl, b5⟩; have K := K.below b5; have J1 := J1.below b5; have J2 := J2.below b5; have B := B.trans (b5.mono B.size); have t0 := K.cell 0; have t1 := K.cell 1; have t2 := K.cell 2; have t3 := K.cell 3; have t4 := K.cell 4; have t5 := K.cell 5; have t6 := K.cell 6; have t7 := K.cell 7; have t8 := K.cell 8; have t9 := K.cell 9; have t10 := K.cell 10; have t11 := K.cell 11; have t12 := K.cell 12; have tl := K.lt; simp only [List.getElem?_toArray, List.getElem?_cons_succ, List.getElem?_cons_zero] at t0 t1 t2 t3 t4 t5 t6 t7 t8 t9 t10 t11 t12; have j10 := J1.cell 0; have j11 := J1.cell 1; have j12 := J1.cell 2; have j13 := J1.cell 3; have jl1 := J1.lt; simp only [List.getElem?_toArray, List.getElem?_cons_succ, List.getElem?_cons_zero] at j10 j11 j12 j13; have j20 := J2.cell 0; have j21 := J2.cell 1; have j22 := J2.cell 2; have j23 := J2.cell 3; have jl2 := J2.lt; simp only [List.getElem?_toArray, List.getElem?_cons_succ, List.getElem?_cons_zero] at j20 j21 j22 j23)) | (go_at_call 16; ((with_reducible refine (cnat_nil x y _).mono ?_); rintro e w4 ⟨rfl, rfl⟩)) | (go_at_call 12; ((with_reducible refine (cnbytes_nil _).mono ?_); rintro e w5 ⟨rfl, rfl⟩)) | (go_at_call 13; ((with_reducible refine (cnfork_nil _).mono ?_); rintro e w6 ⟨rfl, rfl⟩)))
  go_ret
  exact ⟨rfl, B⟩

set_option linter.unusedVariables false in
set_option maxRecDepth 100000 in
theorem lifted (os : Os) (started : os.Started) (H : Type) (enc : TypeId × Value → H) :
    ReturnsInHanded {} Try.checked os 6 .any (Rows.canvasNobodySpec.pre6 enc Try.prog Try.f6 Rows.canvasNobodyRow.domain false) (Rows.canvasNobodySpec.post enc Try.prog Try.f6 false true false false) := by
  refine returnsInHanded_of_change (C := Try.checked) Try.own started (by kernel_rfl) Try.func6
    (ChangeSpec.witness6 (enc := enc) (C := Try.checked) false ⟨#[], #[.agg #[.int .i64 0, .int .i64 0, .int .i64 0, .int .i64 0, .int .i64 0, .slice none 0 0, .int .i64 0, .int .i64 0, .int .i64 0, .int .i64 0, .int .i64 0, .int .i64 0, .int .i64 0]], []⟩ 8 (by kernel_rfl) (by kernel_rfl) (by kernel_rfl) (by kernel_rfl)) ?_
  intro W base args ds gs before hval0 hW hcnd _
  have hval : ∀ (j : Nat) t v, Try.f6.params[j]? = some t → args[j]? = some v → Value.okWide Try.prog W .any base t v := hval0
  have hW' := hW
  obtain ⟨p, q, hA0, hV, rfl, hfz, hnd⟩ := hW
  have hA : DataW.TrodAll enc Try.prog W 0 (fun _ => true) true Try.f6.params.toList args.toList ds p := hA0
  rw [Try.params6] at hA hval
  obtain ⟨v0, vs0, d0, ds0, p0, q0, hargs, rfl, rfl, h0, r0⟩ := trodAll_cons hA
  obtain ⟨rfl, rfl, rfl⟩ := trodAll_nil r0
  obtain rfl : args = #[v0] := by cases args; simp_all
  obtain ⟨rfl, rfl⟩ := trodVars_none hV
  obtain ⟨kd0, A0, Am0, mc0, E0, B0, x0, y0, cc0, rfl, k0, m0, l0, s0⟩ := open_call (hval 0 37 v0 rfl rfl) h0
  clear hA0 hval0
  simp only [List.append_nil] at hW'
  refine (walk (W := W) kd0 A0 Am0 mc0 E0 B0 x0 y0 cc0 k0 m0 l0 s0).mono fun e W' ⟨he, hg⟩ => ?_
  subst he
  exact ⟨_, rfl, law_post Try.laidOut rfl Try.underlying4 (by kernel_rfl) rfl rfl rfl rfl hW' hg⟩

theorem over : Rows.canvasNobodyRow.holds Try.pinned (OpenSpec.ofChange Rows.canvasNobodySpec) :=
  OpenClaim.holds_of_wide 6 Try.f6 rfl rfl rfl rfl rfl rfl rfl ⟨rfl, rfl, rfl, rfl, rfl⟩ rfl rfl rfl rfl rfl (by kernel_rfl) Try.func6 (by kernel_rfl)
    (of_decide_eq_true (by kernel_rfl)) (by unfold Func.isWrapper; first | (rw [if_pos (by decide +kernel)]; kernel_rfl) | (rw [if_neg (by decide +kernel)]; exact ⟨rfl, rfl⟩))
    (fun os started H enc _ => lifted os started H enc)

theorem proved : Rows.CanvasNobodySaid :=
  over

end Go.Proofs.Ytlbbigehjdnjmaa.canvasNobody
