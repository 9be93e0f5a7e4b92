/- LruNobody: a nil cache has nothing, and takes nothing; for every call. -/
import Derived.Test.YtaaboochologaaaCLr9

namespace Go.Proofs.Ytaaboochologaaa.lruNobody
open Go Go.ChangeShapes Go.WideShapes Go.ChangeAt Go.RowKit
set_option linter.unusedVariables false
set_option linter.unusedSimpArgs false

variable {W : World}
set_option maxRecDepth 100000 in
set_option maxHeartbeats 4000000 in
theorem walk (r : LRec) (s : LrOk W W.heap.size r) : Calls Try.prog 6 #[.agg #[.int .i64 r.kd, .int .i64 r.k.1, .int .i64 r.k.2.1, .int .i64 r.k.2.2.1, .int .i64 r.k.2.2.2, .int .i64 r.a.x0, .int .i64 r.a.y0, .int .i64 r.a.x1, .int .i64 r.a.y1, .slice r.am r.m.length r.mc, .int .i64 r.n]] W fun e w' => e = .returned (.bool true) ∧ Below W.heap.size W w' := by
  have CL := fun W => lives25_any W
  obtain ⟨n, hn⟩ : ∃ n, n = r.m.length := ⟨_, rfl⟩
  rw [← hn]
  have B : Below W.heap.size W (W.alloc (.cells #[.int .i64 r.kd, .int .i64 r.k.1, .int .i64 r.k.2.1, .int .i64 r.k.2.2.1, .int .i64 r.k.2.2.2, .int .i64 r.a.x0, .int .i64 r.a.y0, .int .i64 r.a.x1, .int .i64 r.a.y1, .slice r.am n r.mc, .int .i64 r.n] 41)) := below_a1 _ _
  have K := Blk.new W 41 #[.int .i64 r.kd, .int .i64 r.k.1, .int .i64 r.k.2.1, .int .i64 r.k.2.2.1, .int .i64 r.k.2.2.2, .int .i64 r.a.x0, .int .i64 r.a.y0, .int .i64 r.a.x1, .int .i64 r.a.y1, .slice r.am n r.mc, .int .i64 r.n]
  have t0 := K.cell 0; have t1 := K.cell 1; have t2 := K.cell 2; have t3 := K.cell 3; have t4 := K.cell 4; have t5 := K.cell 5; have t6 := K.cell 6; have t7 := K.cell 7; have t8 := K.cell 8; have t9 := K.cell 9; have t10 := K.cell 10; have tl := K.lt; simp only [List.getElem?_toArray, List.getElem?_cons_succ, List.getElem?_cons_zero] at t0 t1 t2 t3 t4 t5 t6 t7 t8 t9 t10
  clear s hn
  go_enter Try.func6, Try.ntmps6
  go_upto_region 3 with (first
    | (go_at_call 13; ((with_reducible refine (lrget_nil r.k _).mono ?_); rintro e w1 ⟨rfl, b1⟩; have HJ := Lib.hid (Blk.new w1 37 #[.int .i64 0, .int .i64 0, .int .i64 0, .int .i64 0, .slice none 0 0])))
    | (refine wpList_store_row rfl 37 (.tmp 4) (.tmp 13) (by with_reducible rfl) w1.heap.size #[.int .i64 0, .int .i64 0, .int .i64 0, .int .i64 0, .slice none 0 0] (by rfl) (by rfl) 37 #[.int .i64 0, .int .i64 0, .int .i64 0, .int .i64 0, .slice none 0 0] (by exact HJ.out) mkInfoL rfl (by simp [Value.oneCell']) ?_))
  obtain ⟨q, hq⟩ : ∃ q, q = w1.heap.size := ⟨_, rfl⟩
  obtain ⟨w2, hw2⟩ : ∃ w2, w2 = (w1.alloc (.cells #[.int .i64 0, .int .i64 0, .int .i64 0, .int .i64 0, .slice none 0 0] 37)).setRow w1.heap.size #[.int .i64 0, .int .i64 0, .int .i64 0, .int .i64 0, .slice none 0 0] := ⟨_, rfl⟩
  rw [← hw2, ← hq]
  have b2 : Below w1.heap.size w1 w2 := hw2 ▸ below_setRow (g := w1.heap.size) (below_a1 _ _) (Nat.le_refl _) _
  have J : Blk w2 q 37 #[.int .i64 0, .int .i64 0, .int .i64 0, .int .i64 0, .slice none 0 0] := by rw [hw2, hq]; exact blk_row HJ.out _
  have K := (K.below b1).below b2
  have B := (B.trans (b1.mono B.size)).trans (b2.mono (B.trans (b1.mono B.size)).size)
  have t0 := K.cell 0; have t1 := K.cell 1; have t2 := K.cell 2; have t3 := K.cell 3; have t4 := K.cell 4; have t5 := K.cell 5; have t6 := K.cell 6; have t7 := K.cell 7; have t8 := K.cell 8; have t9 := K.cell 9; have t10 := K.cell 10; have tl := K.lt; simp only [List.getElem?_toArray, List.getElem?_cons_succ, List.getElem?_cons_zero] at t0 t1 t2 t3 t4 t5 t6 t7 t8 t9 t10
  have j0 := J.cell 0; have j1 := J.cell 1; have j2 := J.cell 2; have j3 := J.cell 3; have j4 := J.cell 4; have jl := J.lt; simp only [List.getElem?_toArray, List.getElem?_cons_succ, List.getElem?_cons_zero] at j0 j1 j2 j3 j4
  clear hw2 hq b1 b2
  go_wp2_with (first
    | (go_at_call 16; ((with_reducible refine (lrput_nil r.k r.a r.am n r.mc _).mono ?_); rintro e w3 ⟨rfl, bb⟩; have J := J.below bb; have K := K.below bb; have B := B.trans (bb.mono B.size); have t0 := K.cell 0; have t1 := K.cell 1; have t2 := K.cell 2; have t3 := K.cell 3; have t4 := K.cell 4; have t5 := K.cell 5; have t6 := K.cell 6; have t7 := K.cell 7; have t8 := K.cell 8; have t9 := K.cell 9; have t10 := K.cell 10; have tl := K.lt; simp only [List.getElem?_toArray, List.getElem?_cons_succ, List.getElem?_cons_zero] at t0 t1 t2 t3 t4 t5 t6 t7 t8 t9 t10; have j0 := J.cell 0; have j1 := J.cell 1; have j2 := J.cell 2; have j3 := J.cell 3; have j4 := J.cell 4; have jl := J.lt; simp only [List.getElem?_toArray, List.getElem?_cons_succ, List.getElem?_cons_zero] at j0 j1 j2 j3 j4))
    | (go_at_call 9; ((with_reducible refine (CL _).mono ?_); rintro e w3 ⟨rfl, bb⟩; have J := J.below bb; have K := K.below bb; have B := B.trans (bb.mono B.size); have t0 := K.cell 0; have t1 := K.cell 1; have t2 := K.cell 2; have t3 := K.cell 3; have t4 := K.cell 4; have t5 := K.cell 5; have t6 := K.cell 6; have t7 := K.cell 7; have t8 := K.cell 8; have t9 := K.cell 9; have t10 := K.cell 10; have tl := K.lt; simp only [List.getElem?_toArray, List.getElem?_cons_succ, List.getElem?_cons_zero] at t0 t1 t2 t3 t4 t5 t6 t7 t8 t9 t10; have j0 := J.cell 0; have j1 := J.cell 1; have j2 := J.cell 2; have j3 := J.cell 3; have j4 := J.cell 4; have jl := J.lt; simp only [List.getElem?_toArray, List.getElem?_cons_succ, List.getElem?_cons_zero] at j0 j1 j2 j3 j4))
    | (go_at_call 20; ((with_reducible refine (lrdrop_nil r.k _).mono ?_); rintro e w3 ⟨rfl, bb⟩; have J := J.below bb; have K := K.below bb; have B := B.trans (bb.mono B.size); have t0 := K.cell 0; have t1 := K.cell 1; have t2 := K.cell 2; have t3 := K.cell 3; have t4 := K.cell 4; have t5 := K.cell 5; have t6 := K.cell 6; have t7 := K.cell 7; have t8 := K.cell 8; have t9 := K.cell 9; have t10 := K.cell 10; have tl := K.lt; simp only [List.getElem?_toArray, List.getElem?_cons_succ, List.getElem?_cons_zero] at t0 t1 t2 t3 t4 t5 t6 t7 t8 t9 t10; have j0 := J.cell 0; have j1 := J.cell 1; have j2 := J.cell 2; have j3 := J.cell 3; have j4 := J.cell 4; have jl := J.lt; simp only [List.getElem?_toArray, List.getElem?_cons_succ, List.getElem?_cons_zero] at j0 j1 j2 j3 j4))
    | (go_at_call 21; ((with_reducible refine (lrlen_nil _).mono ?_); rintro e w3 ⟨rfl, rfl⟩))
    | (go_at_call 22; ((with_reducible refine (lrheld_nil _).mono ?_); rintro e w3 ⟨rfl, rfl⟩))
    | (go_at_call 19; ((with_reducible refine (lrkeys_nil _).mono ?_); rintro e w3 ⟨rfl, rfl⟩))
    | (go_at_call 23; ((with_reducible refine (lrresize_nil r.n _).mono ?_); rintro e w3 ⟨rfl, rfl⟩)))
  go_ret
  exact ⟨rfl, B⟩

set_option linter.unusedVariables false in
set_option maxRecDepth 100000 in
theorem lifted (os : Os) (started : os.Started) (H : Type) (enc : TypeId × Value → H) :
    ReturnsInHanded {} Try.checked os 6 .any (Rows.lruNobodySpec.pre6 enc Try.prog Try.f6 Rows.lruNobodyRow.domain false) (Rows.lruNobodySpec.post enc Try.prog Try.f6 false true false false) := by
  refine returnsInHanded_of_change (C := Try.checked) Try.own started (by kernel_rfl) Try.func6
    (ChangeSpec.witness6 (enc := enc) (C := Try.checked) false ⟨#[], #[.agg #[.int .i64 0, .int .i64 0, .int .i64 0, .int .i64 0, .int .i64 0, .int .i64 0, .int .i64 0, .int .i64 0, .int .i64 0, .slice none 0 0, .int .i64 0]], []⟩ 8 (by kernel_rfl) (by kernel_rfl) (by kernel_rfl) (by kernel_rfl)) ?_
  intro W base args ds gs before hval0 hW hcnd _
  have hval : ∀ (j : Nat) t v, Try.f6.params[j]? = some t → args[j]? = some v → Value.okWide Try.prog W .any base t v := hval0
  have hW' := hW
  obtain ⟨p, q, hA0, hV, rfl, hfz, hnd⟩ := hW
  have hA : DataW.TrodAll enc Try.prog W 0 (fun _ => true) true Try.f6.params.toList args.toList ds p := hA0
  rw [Try.params6] at hA hval
  obtain ⟨v0, vs0, d0, ds0, p0, q0, hargs, rfl, rfl, h0, r0⟩ := trodAll_cons hA
  obtain ⟨rfl, rfl, rfl⟩ := trodAll_nil r0
  obtain rfl : args = #[v0] := by cases args; simp_all
  obtain ⟨rfl, rfl⟩ := trodVars_none hV
  obtain ⟨r0, rfl, s0⟩ := open_lcall (hval 0 41 v0 rfl rfl) h0
  clear hA0 hval0
  simp only [List.append_nil] at hW'
  refine (walk (W := W) r0 s0).mono fun e W' ⟨he, hg⟩ => ?_
  subst he
  exact ⟨_, rfl, law_post Try.laidOut rfl Try.underlying4 (by kernel_rfl) rfl rfl rfl rfl hW' hg⟩

theorem over : Rows.lruNobodyRow.holds Try.pinned (OpenSpec.ofChange Rows.lruNobodySpec) :=
  OpenClaim.holds_of_wide 6 Try.f6 rfl rfl rfl rfl rfl rfl rfl ⟨rfl, rfl, rfl, rfl, rfl⟩ rfl rfl rfl rfl rfl (by kernel_rfl) Try.func6 (by kernel_rfl)
    (of_decide_eq_true (by kernel_rfl)) (by unfold Func.isWrapper; first | (rw [if_pos (by decide +kernel)]; kernel_rfl) | (rw [if_neg (by decide +kernel)]; exact ⟨rfl, rfl⟩))
    (fun os started H enc _ => lifted os started H enc)

theorem proved : Rows.LruNobodySaid :=
  over

end Go.Proofs.Ytaaboochologaaa.lruNobody
