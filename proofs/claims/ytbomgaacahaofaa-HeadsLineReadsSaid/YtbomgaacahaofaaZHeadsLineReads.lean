/- HeadsLineReads: what any bytes are as lines, held against the document's own answer; no condition but what the row prints. -/
import Derived.Test.YtbomgaacahaofaaM1HeadsLineReads

namespace Go.Proofs.Ytbomgaacahaofaa.headsLineReads
open Go.ChangeShapes Go.WideShapes Go.ChangeAt Go.RowKit

variable {W : World}
set_option maxRecDepth 100000 in
set_option maxHeartbeats 8000000 in
theorem walk_yes (A0 : Option Addr) (c0 : Nat) (E0 : List Value) (k0 : E0.length ≤ c0) (m0 : c0 ≤ 9223372036854775807) (l0 : Lists W W.heap.size A0 E0) (s0 : Bytes8 E0) (t0 : E0.length ≤ 140737488355328) (a0 a1 a2 a3 : Int) (hok : okL E0 = true) (hv : valL E0 = .agg #[.int .i64 a0, .int .i64 a1, .int .i64 a2, .int .i64 a3]) : Calls Try.prog 7 #[.slice A0 E0.length c0] W fun e w' => e = .returned (.bool true) ∧ Below W.heap.size W w' := by
  have C := fun A c V hE hc hc2 => hLines_at A c E0.length E0 V rfl hE s0 hc hc2 t0 hok #[.int .i64 a0, .int .i64 a1, .int .i64 a2, .int .i64 a3] hv
  have CR : ∀ V, Below W.heap.size W V → Calls Try.prog 23 #[.slice A0 E0.length c0] V fun e w' => e = .returned (.tuple #[.agg #[.int .i64 a0, .int .i64 a1, .int .i64 a2, .int .i64 a3], .bool true]) ∧ Below V.heap.size V w' := by
    intro V hb
    refine (rLines_any A0 c0 E0 V ((l0.below hb).more hb.size) s0 k0 m0 t0).mono fun e w' h => ?_
    unfold GotRef at h
    rw [hok, if_pos rfl, hv] at h
    exact h
  have q1 := eqL_same a0 a1 a2 a3
  have q2 := eqgL a0 a1 a2 a3
  have HS0 := Lib.hid s0
  obtain ⟨i0, hi, hz0, hz1, hz2⟩ := info_parts u8Info
  clear hok hv s0
  
  go_enter Try.func7, Try.ntmps7
  go_wp2_with (first | (at_builtin; refine wpList_append_src_wide _ rfl (.tmp 8) (.tmp 9) 26 rfl W.heap.size 5 i0 (.int .u8 0) 1 1 Try.underlying26 hi hz0 hz1 hz2 rfl (by decide) (.slice (some ⟨W.heap.size, 0, none⟩) 0 0) 0 [] rfl (own_new W) _ A0 E0.length c0 E0 rfl (l0.alloc (Nat.le_refl _) _) (by simp) HS0.out.one (by simp only [maxLen]; omega) (by omega) (by simp) ?_; intro v1 w1 own1 hg1; rw [Nat.zero_add, List.nil_append] at own1; have b1 : Below W.heap.size W w1 := ((Below.refl _ _).alloc (Nat.le_refl _) _).grown hg1 (by simp) (fun b hb => by simp [Value.ownBlock] at hb; omega); obtain ⟨A9, c9, rfl, l9, hc9⟩ := own_lists own1; have hcap := own_cap own1) | (go_at_call 21; ((with_reducible refine (C A9 c9 _ l9 hc9 hcap).mono ?_); rintro e w2 ⟨rfl, b2⟩; have B2 := b1.trans (b2.mono b1.size); have B2a := B2.alloc B2.size (.cells #[.int .i64 a0, .int .i64 a1, .int .i64 a2, .int .i64 a3] 50); have X2 : Blk (w2.alloc (.cells #[.int .i64 a0, .int .i64 a1, .int .i64 a2, .int .i64 a3] 50)) w2.heap.size 50 #[.int .i64 a0, .int .i64 a1, .int .i64 a2, .int .i64 a3] := Blk.new _ _ _)) | (refine wpList_store_row rfl 50 (.tmp 3) (.tmp 12) (by with_reducible rfl) w2.heap.size #[.int .i64 a0, .int .i64 a1, .int .i64 a2, .int .i64 a3] (by rfl) (by rfl) 50 #[.int .i64 0, .int .i64 0, .int .i64 0, .int .i64 0] (Blk.new _ _ _) sizL rfl (by simp [Value.oneCell']) ?_; rw [World.setRow_alloc_new]) | (go_at_call 23; ((with_reducible refine (CR _ B2a).mono ?_); rintro e w3 ⟨rfl, b3⟩; have B3 := B2a.trans (b3.mono B2a.size); have B3a := B3.alloc B3.size (.cells #[.int .i64 a0, .int .i64 a1, .int .i64 a2, .int .i64 a3] 50); have al3 : Below w3.heap.size w3 (w3.alloc (.cells #[.int .i64 a0, .int .i64 a1, .int .i64 a2, .int .i64 a3] 50)) := (Below.refl _ _).alloc (Nat.le_refl _) _; have X3 : Blk (w3.alloc (.cells #[.int .i64 a0, .int .i64 a1, .int .i64 a2, .int .i64 a3] 50)) w3.heap.size 50 #[.int .i64 a0, .int .i64 a1, .int .i64 a2, .int .i64 a3] := Blk.new _ _ _)) | (refine wpList_store_row rfl 50 (.tmp 5) (.tmp 17) (by with_reducible rfl) w3.heap.size #[.int .i64 a0, .int .i64 a1, .int .i64 a2, .int .i64 a3] (by rfl) (by rfl) 50 #[.int .i64 0, .int .i64 0, .int .i64 0, .int .i64 0] (Blk.new _ _ _) sizL rfl (by simp [Value.oneCell']) ?_; rw [World.setRow_alloc_new]) | (go_at_call 9; ((with_reducible refine (lives5 _).mono ?_); rintro e w4 ⟨rfl, b4⟩; have B4 := B3a.trans (b4.mono B3a.size); have Y2 := X2.below (b3.trans ((al3.trans (b4.mono al3.size)).mono b3.size)); have y2_0 := Y2.cell 0; rw [show (#[.int .i64 a0, .int .i64 a1, .int .i64 a2, .int .i64 a3] : Array Value)[0]? = some (.int .i64 a0) from rfl] at y2_0; have y2_1 := Y2.cell 1; rw [show (#[.int .i64 a0, .int .i64 a1, .int .i64 a2, .int .i64 a3] : Array Value)[1]? = some (.int .i64 a1) from rfl] at y2_1; have y2_2 := Y2.cell 2; rw [show (#[.int .i64 a0, .int .i64 a1, .int .i64 a2, .int .i64 a3] : Array Value)[2]? = some (.int .i64 a2) from rfl] at y2_2; have y2_3 := Y2.cell 3; rw [show (#[.int .i64 a0, .int .i64 a1, .int .i64 a2, .int .i64 a3] : Array Value)[3]? = some (.int .i64 a3) from rfl] at y2_3; have Y3 := X3.below b4; have y3_0 := Y3.cell 0; rw [show (#[.int .i64 a0, .int .i64 a1, .int .i64 a2, .int .i64 a3] : Array Value)[0]? = some (.int .i64 a0) from rfl] at y3_0; have y3_1 := Y3.cell 1; rw [show (#[.int .i64 a0, .int .i64 a1, .int .i64 a2, .int .i64 a3] : Array Value)[1]? = some (.int .i64 a1) from rfl] at y3_1; have y3_2 := Y3.cell 2; rw [show (#[.int .i64 a0, .int .i64 a1, .int .i64 a2, .int .i64 a3] : Array Value)[2]? = some (.int .i64 a2) from rfl] at y3_2; have y3_3 := Y3.cell 3; rw [show (#[.int .i64 a0, .int .i64 a1, .int .i64 a2, .int .i64 a3] : Array Value)[3]? = some (.int .i64 a3) from rfl] at y3_3)))
  go_ret
  exact ⟨rfl, B4⟩

set_option maxRecDepth 100000 in
set_option maxHeartbeats 8000000 in
theorem walk_no (A0 : Option Addr) (c0 : Nat) (E0 : List Value) (k0 : E0.length ≤ c0) (m0 : c0 ≤ 9223372036854775807) (l0 : Lists W W.heap.size A0 E0) (s0 : Bytes8 E0) (t0 : E0.length ≤ 140737488355328) (hok : okL E0 = false) : Calls Try.prog 7 #[.slice A0 E0.length c0] W fun e w' => e = .returned (.bool true) ∧ Below W.heap.size W w' := by
  have C := fun A c V hE hc hc2 => hLines_no A c E0 V hE s0 hc hc2 t0 hok
  have CR : ∀ V, Below W.heap.size W V → Calls Try.prog 23 #[.slice A0 E0.length c0] V fun e w' => e = .returned (.tuple #[.agg #[.int .i64 0, .int .i64 0, .int .i64 0, .int .i64 0], .bool false]) ∧ Below V.heap.size V w' := by
    intro V hb
    refine (rLines_any A0 c0 E0 V ((l0.below hb).more hb.size) s0 k0 m0 t0).mono fun e w' h => ?_
    unfold GotRef at h
    rw [hok, if_neg (by simp)] at h
    exact h
  have q1 := eqL_same 0 0 0 0
  have q2 := eqgL 0 0 0 0
  have HS0 := Lib.hid s0
  obtain ⟨i0, hi, hz0, hz1, hz2⟩ := info_parts u8Info
  clear hok  s0
  unfold zL at C
  go_enter Try.func7, Try.ntmps7
  go_wp2_with (first | (at_builtin; refine wpList_append_src_wide _ rfl (.tmp 8) (.tmp 9) 26 rfl W.heap.size 5 i0 (.int .u8 0) 1 1 Try.underlying26 hi hz0 hz1 hz2 rfl (by decide) (.slice (some ⟨W.heap.size, 0, none⟩) 0 0) 0 [] rfl (own_new W) _ A0 E0.length c0 E0 rfl (l0.alloc (Nat.le_refl _) _) (by simp) HS0.out.one (by simp only [maxLen]; omega) (by omega) (by simp) ?_; intro v1 w1 own1 hg1; rw [Nat.zero_add, List.nil_append] at own1; have b1 : Below W.heap.size W w1 := ((Below.refl _ _).alloc (Nat.le_refl _) _).grown hg1 (by simp) (fun b hb => by simp [Value.ownBlock] at hb; omega); obtain ⟨A9, c9, rfl, l9, hc9⟩ := own_lists own1; have hcap := own_cap own1) | (go_at_call 21; ((with_reducible refine (C A9 c9 _ l9 hc9 hcap).mono ?_); rintro e w2 ⟨rfl, b2⟩; have B2 := b1.trans (b2.mono b1.size); have B2a := B2.alloc B2.size (.cells #[.int .i64 0, .int .i64 0, .int .i64 0, .int .i64 0] 50); have X2 : Blk (w2.alloc (.cells #[.int .i64 0, .int .i64 0, .int .i64 0, .int .i64 0] 50)) w2.heap.size 50 #[.int .i64 0, .int .i64 0, .int .i64 0, .int .i64 0] := Blk.new _ _ _)) | (refine wpList_store_row rfl 50 (.tmp 3) (.tmp 12) (by with_reducible rfl) w2.heap.size #[.int .i64 0, .int .i64 0, .int .i64 0, .int .i64 0] (by rfl) (by rfl) 50 #[.int .i64 0, .int .i64 0, .int .i64 0, .int .i64 0] (Blk.new _ _ _) sizL rfl (by simp [Value.oneCell']) ?_; rw [World.setRow_alloc_new]) | (go_at_call 23; ((with_reducible refine (CR _ B2a).mono ?_); rintro e w3 ⟨rfl, b3⟩; have B3 := B2a.trans (b3.mono B2a.size); have B3a := B3.alloc B3.size (.cells #[.int .i64 0, .int .i64 0, .int .i64 0, .int .i64 0] 50); have al3 : Below w3.heap.size w3 (w3.alloc (.cells #[.int .i64 0, .int .i64 0, .int .i64 0, .int .i64 0] 50)) := (Below.refl _ _).alloc (Nat.le_refl _) _; have X3 : Blk (w3.alloc (.cells #[.int .i64 0, .int .i64 0, .int .i64 0, .int .i64 0] 50)) w3.heap.size 50 #[.int .i64 0, .int .i64 0, .int .i64 0, .int .i64 0] := Blk.new _ _ _)) | (refine wpList_store_row rfl 50 (.tmp 5) (.tmp 17) (by with_reducible rfl) w3.heap.size #[.int .i64 0, .int .i64 0, .int .i64 0, .int .i64 0] (by rfl) (by rfl) 50 #[.int .i64 0, .int .i64 0, .int .i64 0, .int .i64 0] (Blk.new _ _ _) sizL rfl (by simp [Value.oneCell']) ?_; rw [World.setRow_alloc_new]) | (go_at_call 9; ((with_reducible refine (lives5 _).mono ?_); rintro e w4 ⟨rfl, b4⟩; have B4 := B3a.trans (b4.mono B3a.size); have Y2 := X2.below (b3.trans ((al3.trans (b4.mono al3.size)).mono b3.size)); have y2_0 := Y2.cell 0; rw [show (#[.int .i64 0, .int .i64 0, .int .i64 0, .int .i64 0] : Array Value)[0]? = some (.int .i64 0) from rfl] at y2_0; have y2_1 := Y2.cell 1; rw [show (#[.int .i64 0, .int .i64 0, .int .i64 0, .int .i64 0] : Array Value)[1]? = some (.int .i64 0) from rfl] at y2_1; have y2_2 := Y2.cell 2; rw [show (#[.int .i64 0, .int .i64 0, .int .i64 0, .int .i64 0] : Array Value)[2]? = some (.int .i64 0) from rfl] at y2_2; have y2_3 := Y2.cell 3; rw [show (#[.int .i64 0, .int .i64 0, .int .i64 0, .int .i64 0] : Array Value)[3]? = some (.int .i64 0) from rfl] at y2_3; have Y3 := X3.below b4; have y3_0 := Y3.cell 0; rw [show (#[.int .i64 0, .int .i64 0, .int .i64 0, .int .i64 0] : Array Value)[0]? = some (.int .i64 0) from rfl] at y3_0; have y3_1 := Y3.cell 1; rw [show (#[.int .i64 0, .int .i64 0, .int .i64 0, .int .i64 0] : Array Value)[1]? = some (.int .i64 0) from rfl] at y3_1; have y3_2 := Y3.cell 2; rw [show (#[.int .i64 0, .int .i64 0, .int .i64 0, .int .i64 0] : Array Value)[2]? = some (.int .i64 0) from rfl] at y3_2; have y3_3 := Y3.cell 3; rw [show (#[.int .i64 0, .int .i64 0, .int .i64 0, .int .i64 0] : Array Value)[3]? = some (.int .i64 0) from rfl] at y3_3)))
  go_ret
  exact ⟨rfl, B4⟩

theorem walk (A0 : Option Addr) (c0 : Nat) (E0 : List Value) (k0 : E0.length ≤ c0) (m0 : c0 ≤ 9223372036854775807) (l0 : Lists W W.heap.size A0 E0) (s0 : Bytes8 E0) (t0 : E0.length ≤ 140737488355328) : Calls Try.prog 7 #[.slice A0 E0.length c0] W fun e w' => e = .returned (.bool true) ∧ Below W.heap.size W w' := by
  cases hok : okL E0
  · exact walk_no A0 c0 E0 k0 m0 l0 s0 t0 hok
  · exact walk_yes A0 c0 E0 k0 m0 l0 s0 t0 _ _ _ _ hok rfl

set_option linter.unusedVariables false in
set_option maxRecDepth 100000 in
theorem lifted (os : Os) (started : os.Started) (H : Type) (enc : TypeId × Value → H) :
    ReturnsInHanded {} Try.checked os 7 .any (Rows.headsLineReadsSpec.pre6 enc Try.prog Try.f7 Rows.headsLineReadsRow.domain false) (Rows.headsLineReadsSpec.post enc Try.prog Try.f7 false true false false) := by
  refine returnsInHanded_of_change_sized (C := Try.checked) Try.own started (by kernel_rfl) Try.func7
    (ChangeSpec.witness6 (enc := enc) (C := Try.checked) false ⟨#[], #[.slice none 0 0], []⟩ 8 (by kernel_rfl) (by kernel_rfl) (by kernel_rfl) (by kernel_rfl)) ?_
  intro W base args ds gs before hval0 hW hcnd hsz0 _
  have hsz : (DataW.weightsEach Try.prog (Try.f7.params.toList ++ Rows.headsLineReadsSpec.plain.varTypes Try.prog) (ds ++ gs)).all (· ≤ reachBytes) = true := hsz0
  have hval : ∀ (j : Nat) t v, Try.f7.params[j]? = some t → args[j]? = some v → Value.okWide Try.prog W .any base t v := hval0
  have hW' := hW
  obtain ⟨p, q, hA0, hV, rfl, hfz, hnd⟩ := hW
  have hA : DataW.TrodAll enc Try.prog W 0 (fun _ => true) true Try.f7.params.toList args.toList ds p := hA0
  rw [Try.params7] at hA hval hsz
  obtain ⟨v0, vs0, d0, ds0, p0, q0, hargs, rfl, rfl, h0, r0⟩ := trodAll_cons hA
  obtain ⟨rfl, rfl, rfl⟩ := trodAll_nil r0
  obtain rfl : args = #[v0] := by cases args; simp_all
  obtain ⟨rfl, rfl⟩ := trodVars_none hV
  have hz0 : ∀ m ∈ d0.weights Try.prog 26, m ≤ reachBytes := fun m hm => of_decide_eq_true (List.all_eq_true.1 hsz m (DataW.weights_mem_each (j := 0) rfl rfl m hm))
  obtain ⟨A0, c0, E0, rfl, k0, m0, l0, s0, t0⟩ := open_bytes Try.underlying26 Try.underlying5 (by kernel_rfl) (by kernel_rfl) (hval 0 26 v0 rfl rfl) h0 hz0
  clear hA0 hval0
  simp only [List.append_nil] at hW'
  refine (walk (W := W) A0 c0 E0 k0 m0 l0 s0 t0).mono fun e W' ⟨he, hg⟩ => ?_
  subst he
  exact ⟨_, rfl, law_post Try.laidOut rfl Try.underlying4 (by kernel_rfl) rfl rfl rfl rfl hW' hg⟩

theorem over : Rows.headsLineReadsRow.holds Try.pinned (OpenSpec.ofChange Rows.headsLineReadsSpec) :=
  OpenClaim.holds_of_wide 7 Try.f7 rfl rfl rfl rfl rfl rfl rfl ⟨rfl, rfl, rfl, rfl, rfl⟩ rfl rfl rfl rfl rfl (by kernel_rfl) Try.func7 (by kernel_rfl)
    (of_decide_eq_true (by kernel_rfl)) (by unfold Func.isWrapper; first | (rw [if_pos (by decide +kernel)]; kernel_rfl) | (rw [if_neg (by decide +kernel)]; exact ⟨rfl, rfl⟩))
    (fun os started H enc _ => lifted os started H enc)

theorem proved : Rows.HeadsLineReadsSaid :=
  over

end Go.Proofs.Ytbomgaacahaofaa.headsLineReads
