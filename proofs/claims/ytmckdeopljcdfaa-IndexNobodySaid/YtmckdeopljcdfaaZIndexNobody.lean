/- IndexNobody: a nil Index: nothing in it; no condition but what the row prints. -/
import Derived.Test.YtmckdeopljcdfaaM6IndexNobody

namespace Go.Proofs.Ytmckdeopljcdfaa.indexNobody
open Go.ChangeShapes Go.WideShapes Go.ChangeAt Go.RowKit Go.Shelf
set_option linter.unusedVariables false
set_option linter.unusedSimpArgs false

variable {W : World}
attribute [local go_sem] Oper.semAt_some
set_option maxRecDepth 100000 in
set_option maxHeartbeats 2000000 in
theorem walk0 (i : Int) (w : World) : Calls Try.prog 6 #[.int .i64 i] w fun e w' => e = .returned (.bool true) ∧ Below w.heap.size w w' := by
  have FN := func_nilI
  have bR := Blk.new w 4 #[.bool false]
  have B0 := (Below.refl w.heap.size w).alloc (Nat.le_refl _) (.cells #[.bool false] 4)
  have HB0 := Lib.hid B0
  have HR := Lib.hid bR
  clear B0 bR
  refine (callsIn_wide (n := 3)).1 ?_
  refine callsIn_of_wp_marks Try.func6 rfl trivial ?_
  simp only [Try.ntmps6, List.size_toArray, List.length_cons, List.length_nil, Nat.reduceAdd, Nat.reduceSub, Array.replicate_succ, Array.replicate_zero, List.push_toArray, List.append_toArray, List.nil_append, List.cons_append]
  refine wpIn_wide.2 ?_
  go_wp2_with (first
    | (go_at_call 14; ((with_reducible refine (ixall_any (.pointer none) rfl _).mono ?_); rintro e w1 ⟨k, rfl, K1, b1⟩; have B1 := HB0.out.trans (b1.mono HB0.out.size); have R1 := HR.out.below b1))
    | (go_at_call 7; ((with_reducible refine (lives14 _).mono ?_); rintro e w2 ⟨rfl, b2⟩; have B2 := B1.trans (b2.mono B1.size); have R2 := R1.below b2; have K2 := K1.below b2)))
  have k0 := K2.cell 0
  have kl := K2.lt
  have hs2 := B2.size
  have hr2 := R2.lt
  simp only [List.getElem?_toArray, List.getElem?_cons_zero] at k0
  refine (wpIn_wide (n := 3)).1 ?_
  refine wpIn_rangeFunc_ownF (F := Fence.wide) (n := 3) rfl (by omega) (gf := 32) (lb := #[.pointer (some ⟨k, 0, none⟩)]) rfl trivial (enters_of Try.func32 (by kernel_rfl) rfl)
    (nobody_stops k w2.heap.size 1 w2 k0 kl) belowK_t (belowK_b (Nat.le_refl _)) (Below.refl _ _) (fun x => x.elim)
    (fun pre V => Blk V w.heap.size 4 #[.bool false] ∧ Below w.heap.size w V)
    (fun c pre V => False)
    (OwnFrom.and (fun pre X Y row hs hg hr => blk_grownI hs hr2 hg hr) (ownFrom_below (Nat.le_refl _) (by omega)))
    (fun c pre X Y row hs hg hr => hs)
    ⟨R2, B2⟩
    (fun x => x.elim)
    ?assign ?body ?done ?stop
  case assign => intro l x; exact x.elim
  case body => intro l pre x; exact x.elim
  case stop => intro D c pre V _ h; exact h.elim
  case done =>
    rintro D xs V hD _ ⟨R3, B3⟩ hK
    have c3 := R3.cell 0
    have f3 := R3.frozen 0
    have l3 := R3.lt
    simp only [List.getElem?_toArray, List.getElem?_cons_zero] at c3
    have BX := (B3.setCell (p := ⟨w.heap.size, 0, none⟩) (by simp) (.bool true))
    have hK' := (KeepsOthers.setCell V ⟨w.heap.size, 0, none⟩ (.bool true)).same D _ hK rfl
    have br2 := R3.set 0 (.bool true)
    have hc5 := cell_kept (br2.cell 0) (grownBy_putObj' _ D (.deferred none)) (fun r e => by cases e; exact ⟨_, hK', rfl⟩)
    have hBF := BX.trans (belowK_b (w := w) (Nat.le_refl _) _ D _ (.deferred none) (by omega) hK' rfl rfl)
    clear BX br2 R3 B3
    go_wp2_with (first
      | (go_at_call 15; ((with_reducible refine (ixat_nil i _).mono ?_); rintro e w4 ⟨rfl, rfl⟩))
      | (go_at_call 16; ((with_reducible refine (ixlen_nil _).mono ?_); rintro e w5 ⟨rfl, rfl⟩))
      | (go_at_call 17; ((with_reducible refine (ixsize_nil _).mono ?_); rintro e w6 ⟨rfl, rfl⟩)))
    refine ⟨by simp, .inl ⟨_, _, rfl, run_takeDeferred hK', ?_⟩⟩
    refine ⟨.bool true, ?_, rfl, hBF⟩
    simp [results, Try.f6, go_sem, hc5]
theorem walk (i : Int) (_ : (Lit.int .i64 i).wf = true) : Calls Try.prog 6 #[.int .i64 i] W fun e w' => e = .returned (.bool true) ∧ Below W.heap.size W w' := walk0 i W

set_option linter.unusedVariables false in
set_option maxRecDepth 100000 in
theorem lifted (os : Os) (started : os.Started) (H : Type) (enc : TypeId × Value → H) :
    ReturnsInHanded {} Try.checked os 6 .any (Rows.indexNobodySpec.pre6 enc Try.prog Try.f6 Rows.indexNobodyRow.domain false) (Rows.indexNobodySpec.post enc Try.prog Try.f6 false true false false) := by
  refine returnsInHanded_of_change (C := Try.checked) Try.own started (by kernel_rfl) Try.func6
    (ChangeSpec.witness6 (enc := enc) (C := Try.checked) false ⟨#[], #[.int .i64 0], []⟩ 8 (by kernel_rfl) (by kernel_rfl) (by kernel_rfl) (by kernel_rfl)) ?_
  intro W base args ds gs before hval0 hW hcnd _
  have hval : ∀ (j : Nat) t v, Try.f6.params[j]? = some t → args[j]? = some v → Value.okWide Try.prog W .any base t v := hval0
  have hW' := hW
  obtain ⟨p, q, hA0, hV, rfl, hfz, hnd⟩ := hW
  have hA : DataW.TrodAll enc Try.prog W 0 (fun _ => true) true Try.f6.params.toList args.toList ds p := hA0
  rw [Try.params6] at hA hval
  obtain ⟨v0, vs0, d0, ds0, p0, q0, hargs, rfl, rfl, h0, r0⟩ := trodAll_cons hA
  obtain ⟨rfl, rfl, rfl⟩ := trodAll_nil r0
  obtain rfl : args = #[v0] := by cases args; simp_all
  obtain ⟨rfl, rfl⟩ := trodVars_none hV
  obtain ⟨a0, rfl, rfl, rfl, w0⟩ := open_int Try.underlying3 (hval 0 3 v0 rfl rfl) h0
  clear hA0 hval0
  simp only [List.append_nil] at hW'
  refine (walk (W := W) a0 w0).mono fun e W' ⟨he, hg⟩ => ?_
  subst he
  exact ⟨_, rfl, law_post Try.laidOut rfl Try.underlying4 (by kernel_rfl) rfl rfl rfl rfl hW' hg⟩

theorem over : Rows.indexNobodyRow.holds Try.pinned (OpenSpec.ofChange Rows.indexNobodySpec) :=
  OpenClaim.holds_of_wide 6 Try.f6 rfl rfl rfl rfl rfl rfl rfl ⟨rfl, rfl, rfl, rfl, rfl⟩ rfl rfl rfl rfl rfl (by kernel_rfl) Try.func6 (by kernel_rfl)
    (of_decide_eq_true (by kernel_rfl)) (by unfold Func.isWrapper; first | (rw [if_pos (by decide +kernel)]; kernel_rfl) | (rw [if_neg (by decide +kernel)]; exact ⟨rfl, rfl⟩))
    (fun os started H enc _ => lifted os started H enc)

theorem proved : Rows.IndexNobodySaid :=
  over

end Go.Proofs.Ytmckdeopljcdfaa.indexNobody
