/- MetricPuts: the table of any metrics, loaded again whatever follows; no condition but what the row prints. -/
import Derived.Test.YtdbhfigdojkceaaOpenMets
import Derived.Test.YtdbhfigdojkceaaLaw4
import Derived.Test.YtdbhfigdojkceaaMet15
import Derived.Test.YtdbhfigdojkceaaWide
namespace Go.Proofs.Ytdbhfigdojkceaa.metricPuts
open Go.ChangeShapes Go.WideShapes Go.ChangeAt Go.RowKit

variable {W : World}
theorem all_any {α : Type} {p : α → Bool} {l : List α} (h : l.all p = false) : (l.any fun x => !p x) = true := by rw [← List.not_all_eq_any_not, h]; rfl
theorem mput_no (m : Int) (B : Nat) (A : Option Addr) (c : Nat) (L : List (Int × Int)) (w : World) (hB : B ≤ w.heap.size) (hL : Lists w B A (metCells L)) (hcap : L.length ≤ c) (hr : mayI L m = false) : Calls Try.prog 9 #[.slice A L.length c, .int .i64 m] w (Refused w 1) := by
  cases hc : cmB L.length m
  · exact mput_counts m A L.length c w hc
  · have h := cmB_true hc
    obtain ⟨k0, rfl⟩ : ∃ k0 : Nat, m = (k0 : Int) + 1 := ⟨(m - 1).toNat, by omega⟩
    unfold mayI at hr
    rw [hc, Bool.true_and, show ((k0 : Int) + 1).toNat = k0 + 1 by omega] at hr
    unfold mayPut at hr
    cases h1 : L.all okMet
    · exact mput_large k0 B A c L w hB hL hc h1
    · rw [h1, Bool.true_and] at hr
      exact mput_other k0 B A c L w hB hL hcap hc h1 hr
theorem mput_yes (k0 : Nat) (B : Nat) (A : Option Addr) (c : Nat) (L : List (Int × Int)) (w : World) (hB : B ≤ w.heap.size) (hL : Lists w B A (metCells L)) (hcap : L.length ≤ c) (hr : mayI L ((k0 : Int) + 1) = true) : Calls Try.prog 9 #[.slice A L.length c, .int .i64 ((k0 : Int) + 1)] w (Gave w (putM L (k0 + 1))) := by
  unfold mayI at hr
  rw [Bool.and_eq_true, show ((k0 : Int) + 1).toNat = k0 + 1 by omega] at hr
  have h2 := hr.2
  unfold mayPut at h2
  rw [Bool.and_eq_true] at h2
  exact mput_ok k0 B A c L w hB hL hcap hr.1 h2.1 h2.2
theorem own_new (w : World) : (w.alloc (.cells #[] 5)).ownsRow w.heap.size 5 1 (.slice (some ⟨w.heap.size, 0, none⟩) 0 0) 0 [] := ⟨rfl, .inr ⟨w.heap.size, 0, #[], rfl, Nat.le_refl _, heap_alloc_new w _, Nat.le_refl _, Nat.zero_le _, rfl, rfl⟩⟩

set_option maxRecDepth 100000 in
set_option maxHeartbeats 2000000 in
theorem walk_no (A0 : Option Addr) (c0 : Nat) (L : List (Int × Int)) (hk : L.length ≤ c0) (hl : Lists W W.heap.size A0 (metCells L)) (m : Int) (S : Value) (g : Int) (hr : mayI L m = false) (h3 : L.length ≤ 3000) : Calls Try.prog 3 #[.slice A0 L.length c0, .int .i64 m, S, .int .i64 g] W fun e w' => e = .returned (.bool true) ∧ Below W.heap.size W w' := by
  have C1 := mput_no m W.heap.size A0 c0 L W (Nat.le_refl _) hl hk hr
  have C2 := fun V (hb : Below W.heap.size W V) => rmay_any m W.heap.size A0 c0 L V hb.size (hl.below hb)
  rw [hr] at C2
  clear hl hr
  generalize L.length = n at *
  go_enter Try.func3, Try.ntmps3
  go_wp2_with (first | (go_at_call 9; ((with_reducible refine C1.mono ?_); rintro e w1 ⟨rfl, b1⟩)) | (go_at_call 8; ((with_reducible refine (lives6 _).mono ?_); rintro e w2 ⟨rfl, b2⟩; have b12 := b1.trans (b2.mono b1.size))) | (go_at_call 10; ((with_reducible refine (C2 _ b12).mono ?_); rintro e w3 ⟨rfl, b3⟩; have b13 := b12.trans (b3.mono b12.size))))
  go_ret
  exact ⟨rfl, b13⟩

set_option maxRecDepth 100000 in
set_option maxHeartbeats 4000000 in
theorem walk_yes (A0 : Option Addr) (c0 : Nat) (L : List (Int × Int)) (hk : L.length ≤ c0) (hl : Lists W W.heap.size A0 (metCells L)) (k0 : Nat) (A2 : Option Addr) (c2 : Nat) (E2 : List Value) (l2 : Lists W W.heap.size A2 E2) (s2 : Bytes8 E2) (t2 : E2.length ≤ 140737488355328) (g : Int) (hr : mayI L ((k0 : Int) + 1) = true) (h3 : L.length ≤ 3000) :
    Calls Try.prog 3 #[.slice A0 L.length c0, .int .i64 ((k0 : Int) + 1), .slice A2 E2.length c2, .int .i64 g] W fun e w' => e = .returned (.bool true) ∧ Below W.heap.size W w' := by
  have C1 := mput_yes k0 W.heap.size A0 c0 L W (Nat.le_refl _) hl hk hr
  have C2 := fun V (hb : Below W.heap.size W V) => rmay_any ((k0 : Int) + 1) W.heap.size A0 c0 L V hb.size (hl.below hb)
  have C3 := fun V (hb : Below W.heap.size W V) => rmput_any (k0 + 1) W.heap.size A0 c0 L V hb.size (hl.below hb) (by omega)
  have hr' := hr
  unfold mayI at hr'
  rw [Bool.and_eq_true, show ((k0 : Int) + 1).toNat = k0 + 1 by omega] at hr'
  have hcm := cmB_true hr'.1
  have hA := are_back L (k0 + 1) E2 (by omega) (by omega) hr'.2
  have C5 := fun t V (hb : Below W.heap.size W V) (ht : MetAt V t _ _) => holds_any t _ _ L hA (by omega) g W.heap.size A0 c0 V ht hb.size (hl.below hb)
  have hpl := putM_len L (k0 + 1)
  have hpb := putM_bytes L (k0 + 1)
  have C4 := fun V A c (hE : Lists V V.heap.size A (putM L (k0 + 1) ++ E2)) (hcap : (putM L (k0 + 1) ++ E2).length ≤ c) => mload_ok A c (putM L (k0 + 1) ++ E2) L.length (k0 + 1) V hE (hpb.append s2) hcap (by rw [Int.natCast_succ]; exact hr'.1) (by rw [List.length_append, hpl]; omega)
  rw [hr] at C2
  rw [Int.natCast_succ] at C3 C4
  obtain ⟨ps, hps⟩ : ∃ ps, ps = putM L (k0 + 1) := ⟨_, rfl⟩
  rw [← hps] at C1 C3 C4 C5 hA hpb hpl
  have hpl2 : ps.length ≤ 262140 := by rw [hpl]; unfold posM; omega
  clear hr hr' hcm hA hps hpl hl
  have HPB := Lib.hid hpb
  have HS2 := Lib.hid s2
  have HL2 := Lib.hid l2
  clear hpb s2 l2
  obtain ⟨i0, hi, hz0, hz1, hz2⟩ := info_parts u8Info
  have C1' := C1.mono fun e w' k => k.n rfl
  rw [List.length_append] at C4
  clear C1
  go_enter Try.func3, Try.ntmps3
  go_wp2_with (first | (go_at_call 9; ((with_reducible refine C1'.mono ?_); rintro e w1 ⟨A7, c7, rfl, l7, hc7, b1⟩)) | (go_at_call 8; ((with_reducible refine (lives6 _).mono ?_); rintro e w2 ⟨rfl, b2⟩; have b12 := b1.trans (b2.mono b1.size))) | (go_at_call 10; ((with_reducible refine (C2 _ b12).mono ?_); rintro e w3 ⟨rfl, b3⟩; have b23 := b2.trans (b3.mono b2.size); have l73 := (l7.below b23).more b23.size; have b13 := b1.trans (b23.mono b1.size))) | (at_builtin; refine wpList_append_src_wide _ rfl (.tmp 37) (.tmp 38) 23 rfl w3.heap.size 5 i0 (.int .u8 0) 1 1 Try.underlying23 hi hz0 hz1 hz2 rfl (by decide) (.slice (some ⟨w3.heap.size, 0, none⟩) 0 0) 0 [] rfl (own_new w3) _ A7 ps.length c7 ps rfl (l73.alloc (Nat.le_refl _) _) (by simp) HPB.out.one (by simp only [maxLen]; omega) (by omega) (by simp) ?_; intro v4 w4 own4 hg4; rw [Nat.zero_add, List.nil_append] at own4; have b34 : Below w3.heap.size w3 w4 := ((Below.refl _ _).alloc (Nat.le_refl _) _).grown hg4 (by simp) (fun b hb => by simp [Value.ownBlock] at hb; omega); have b14 := b13.trans (b34.mono b13.size)) | (at_builtin; refine wpList_append_src_wide _ rfl (.tmp 39) (.tmp 40) 23 rfl w3.heap.size 5 i0 (.int .u8 0) 1 1 Try.underlying23 hi hz0 hz1 hz2 rfl (by decide) v4 ps.length ps rfl own4 _ A2 E2.length c2 E2 rfl (HL2.out.below b14) (by simp) HS2.out.one (by simp only [maxLen]; omega) (by omega) b34.size ?_; intro v5 w5 own5 hg5; have b35 : Below w3.heap.size w3 w5 := b34.grown hg5 b34.size (fun b hb => own_low own4 b (by simp [blk, hb])); have b15 := b13.trans (b35.mono b13.size); obtain ⟨A9, c9, rfl, l9, hc9⟩ := own_lists own5; have l75 := (l73.below b35).more b35.size) | (go_at_call 11; ((with_reducible refine (C4 _ A9 c9 l9 hc9).mono ?_); rintro e w6 ⟨t, rfl, ht, b6⟩; have b16 := b15.trans (b6.mono b15.size); have l76 := (l75.below b6).more b6.size)))
  have hI : Below w6.heap.size w6 w6.drew := (Below.refl _ _).drew
  refine wp_region_chain (fun V => Below w6.heap.size w6 V) [(0, false), (1, false), (2, false), (3, false), (4, false), (5, false), (6, false), (7, true), (8, true), (9, false), (10, false), (11, false), (12, false), (13, false), (14, false), (15, false), (16, false), (17, false), (18, false), (19, false), (20, false), (21, false), (22, false), (23, true), (24, false), (25, false)] (by kernel_rfl) (by kernel_rfl) hI ?_
  repeat (first
    | (refine ChainL.skip (o := ?_) ?_ ?_ ?_; rotate_left; (focus (first | (simp only [List.getElem?_toArray, List.getElem?_cons_succ, List.getElem?_cons_zero]; with_reducible rfl) | (simp only [List.getElem?_toArray, List.getElem?_cons_zero]; with_reducible rfl))); (focus rfl); simp only [Act.put, List.setIfInBounds_toArray, List.set_cons_zero, List.set_cons_succ])
    | (refine ChainL.val (o := ?_) (v := ?_) ?_ ?_ ?_ ?_ ?_; rotate_left 2; (focus (first | (simp only [List.getElem?_toArray, List.getElem?_cons_succ, List.getElem?_cons_zero]; with_reducible rfl) | (simp only [List.getElem?_toArray, List.getElem?_cons_zero]; with_reducible rfl))); (focus (intro _ _ h; cases h)); (focus rfl); (focus (intro w' hJ; have q1 := conv_lists (c := c7) (l76.below hJ) rfl HPB.out; go_simp <;> with_reducible rfl)); simp only [Act.put, List.setIfInBounds_toArray, List.set_cons_zero, List.set_cons_succ]))
  refine ChainL.call (o := ?_) (f := ?_) (args := ?_) ?_ ?_ ?_ ?_
  rotate_left 3
  (focus (simp only [List.getElem?_toArray, List.getElem?_cons_succ, List.getElem?_cons_zero]; with_reducible rfl))
  (focus rfl)
  (focus (go_simp; (constructor <;> with_reducible rfl)))
  refine (C3 _ (b16.trans (hI.mono b16.size))).mono ?_
  rintro e w7 ⟨A8, c8, rfl, l8, hc8, b7⟩
  have b67 := hI.trans (b7.mono hI.size)
  refine ⟨_, rfl, b67, ?_⟩
  simp only [Act.put, List.setIfInBounds_toArray, List.set_cons_zero, List.set_cons_succ]
  have q2 := conv_lists (c := c8) l8 rfl HPB.out
  refine ChainL.does (o := ?_) (v := ?_) (w1 := ?_) ?_ ?_ ?_ ?_ ?_
  rotate_left 3
  (focus (simp only [List.getElem?_toArray, List.getElem?_cons_succ, List.getElem?_cons_zero]; with_reducible rfl))
  (focus rfl)
  (focus (go_simp; (constructor <;> with_reducible rfl)))
  exact b67
  simp only [Act.put, List.setIfInBounds_toArray, List.set_cons_zero, List.set_cons_succ]
  repeat (first
    | (refine ChainL.skip (o := ?_) ?_ ?_ ?_; rotate_left; (focus (first | (simp only [List.getElem?_toArray, List.getElem?_cons_succ, List.getElem?_cons_zero]; with_reducible rfl) | (simp only [List.getElem?_toArray, List.getElem?_cons_zero]; with_reducible rfl))); (focus rfl); simp only [Act.put, List.setIfInBounds_toArray, List.set_cons_zero, List.set_cons_succ])
    | (refine ChainL.val (o := ?_) (v := ?_) ?_ ?_ ?_ ?_ ?_; rotate_left 2; (focus (first | (simp only [List.getElem?_toArray, List.getElem?_cons_succ, List.getElem?_cons_zero]; with_reducible rfl) | (simp only [List.getElem?_toArray, List.getElem?_cons_zero]; with_reducible rfl))); (focus (intro _ _ h; cases h)); (focus rfl); (focus (intro w' hJ; skip; go_simp <;> with_reducible rfl)); simp only [Act.put, List.setIfInBounds_toArray, List.set_cons_zero, List.set_cons_succ]))
  refine ChainL.call (o := ?_) (f := ?_) (args := ?_) ?_ ?_ ?_ ?_
  rotate_left 3
  (focus (simp only [List.getElem?_toArray, List.getElem?_cons_succ, List.getElem?_cons_zero]; with_reducible rfl))
  (focus rfl)
  (focus (go_simp; (constructor <;> with_reducible rfl)))
  refine (C5 t w7 (b16.trans (b67.mono b16.size)) (ht.below b67)).mono ?_
  rintro e w8 ⟨rfl, b8⟩
  have b68 := b67.trans (b8.mono b67.size)
  refine ⟨_, rfl, b68, ?_⟩
  simp only [Act.put, List.setIfInBounds_toArray, List.set_cons_zero, List.set_cons_succ]
  repeat (first
    | (refine ChainL.skip (o := ?_) ?_ ?_ ?_; rotate_left; (focus (first | (simp only [List.getElem?_toArray, List.getElem?_cons_succ, List.getElem?_cons_zero]; with_reducible rfl) | (simp only [List.getElem?_toArray, List.getElem?_cons_zero]; with_reducible rfl))); (focus rfl); simp only [Act.put, List.setIfInBounds_toArray, List.set_cons_zero, List.set_cons_succ])
    | (refine ChainL.val (o := ?_) (v := ?_) ?_ ?_ ?_ ?_ ?_; rotate_left 2; (focus (first | (simp only [List.getElem?_toArray, List.getElem?_cons_succ, List.getElem?_cons_zero]; with_reducible rfl) | (simp only [List.getElem?_toArray, List.getElem?_cons_zero]; with_reducible rfl))); (focus (intro _ _ h; cases h)); (focus rfl); (focus (intro w' hJ; skip; go_simp <;> with_reducible rfl)); simp only [Act.put, List.setIfInBounds_toArray, List.set_cons_zero, List.set_cons_succ]))
  refine ChainL.nil ?_
  go_wp2
  go_ret
  exact ⟨rfl, b16.trans (b68.mono b16.size)⟩

set_option maxRecDepth 100000 in
theorem walk_big (A0 : Option Addr) (c0 n : Nat) (m : Int) (S : Value) (g : Int) (h3 : 3000 < n) : Calls Try.prog 3 #[.slice A0 n c0, .int .i64 m, S, .int .i64 g] W fun e w' => e = .returned (.bool true) ∧ Below W.heap.size W w' := by
  go_enter Try.func3, Try.ntmps3
  go_wp2_with (first | (go_at_call 8; ((with_reducible refine (lives6 _).mono ?_); rintro e w2 ⟨rfl, b2⟩)))
  go_ret
  exact ⟨rfl, b2⟩

theorem walk (A0 : Option Addr) (c0 : Nat) (L : List (Int × Int)) (hk : L.length ≤ c0) (_ : c0 ≤ 9223372036854775807) (hl : Lists W W.heap.size A0 (metCells L)) (m : Int) (_ : (Lit.int .i64 m).wf = true) (A2 : Option Addr) (c2 : Nat) (E2 : List Value) (_ : E2.length ≤ c2) (_ : c2 ≤ 9223372036854775807) (l2 : Lists W W.heap.size A2 E2) (s2 : Bytes8 E2) (t2 : E2.length ≤ 140737488355328) (g : Int) (_ : (Lit.int .i64 g).wf = true) :
    Calls Try.prog 3 #[.slice A0 L.length c0, .int .i64 m, .slice A2 E2.length c2, .int .i64 g] W fun e w' => e = .returned (.bool true) ∧ Below W.heap.size W w' := by
  rcases Nat.lt_or_ge 3000 L.length with h | h
  · exact walk_big A0 c0 L.length m _ g h
  · cases hr : mayI L m
    · exact walk_no A0 c0 L hk hl m _ g hr h
    · have h1 := hr
      unfold mayI at h1
      rw [Bool.and_eq_true] at h1
      have h2 := cmB_true h1.1
      obtain ⟨k0, rfl⟩ : ∃ k0 : Nat, m = (k0 : Int) + 1 := ⟨(m - 1).toNat, by omega⟩
      exact walk_yes A0 c0 L hk hl k0 A2 c2 E2 l2 s2 t2 g hr h

set_option linter.unusedVariables false in
set_option maxRecDepth 100000 in
theorem lifted (os : Os) (started : os.Started) (H : Type) (enc : TypeId × Value → H) :
    ReturnsInHanded {} Try.checked os 3 .any (Rows.metricPutsSpec.pre6 enc Try.prog Try.f3 Rows.metricPutsRow.domain false) (Rows.metricPutsSpec.post enc Try.prog Try.f3 false true false false) := by
  refine returnsInHanded_of_change_sized (C := Try.checked) Try.own started (by kernel_rfl) Try.func3
    (ChangeSpec.witness6 (enc := enc) (C := Try.checked) false ⟨#[], #[.slice none 0 0, .int .i64 0, .slice none 0 0, .int .i64 0], []⟩ 8 (by kernel_rfl) (by kernel_rfl) (by kernel_rfl) (by kernel_rfl)) ?_
  intro W base args ds gs before hval0 hW hcnd hsz0 _
  have hsz : (DataW.weightsEach Try.prog (Try.f3.params.toList ++ Rows.metricPutsSpec.plain.varTypes Try.prog) (ds ++ gs)).all (· ≤ reachBytes) = true := hsz0
  have hval : ∀ (j : Nat) t v, Try.f3.params[j]? = some t → args[j]? = some v → Value.okWide Try.prog W .any base t v := hval0
  have hW' := hW
  obtain ⟨p, q, hA0, hV, rfl, hfz, hnd⟩ := hW
  have hA : DataW.TrodAll enc Try.prog W 0 (fun _ => true) true Try.f3.params.toList args.toList ds p := hA0
  rw [Try.params3] at hA hval hsz
  obtain ⟨v0, vs0, d0, ds0, p0, q0, hargs, rfl, rfl, h0, r0⟩ := trodAll_cons hA
  obtain ⟨v1, vs1, d1, ds1, p1, q1, rfl, rfl, rfl, h1, r1⟩ := trodAll_cons r0
  obtain ⟨v2, vs2, d2, ds2, p2, q2, rfl, rfl, rfl, h2, r2⟩ := trodAll_cons r1
  obtain ⟨v3, vs3, d3, ds3, p3, q3, rfl, rfl, rfl, h3, r3⟩ := trodAll_cons r2
  obtain ⟨rfl, rfl, rfl⟩ := trodAll_nil r3
  obtain rfl : args = #[v0, v1, v2, v3] := by cases args; simp_all
  obtain ⟨rfl, rfl⟩ := trodVars_none hV
  obtain ⟨A0, c0, L0, rfl, k0, m0, l0⟩ := open_mets Try.underlying22 Try.underlying51 (by kernel_rfl) (by kernel_rfl) Try.underlying3 Try.underlying3 (hval 0 22 v0 rfl rfl) h0
  obtain ⟨a1, rfl, rfl, rfl, w1⟩ := open_int Try.underlying3 (hval 1 3 v1 rfl rfl) h1
  have hz2 : ∀ m ∈ d2.weights Try.prog 23, m ≤ reachBytes := fun m hm => of_decide_eq_true (List.all_eq_true.1 hsz m (DataW.weights_mem_each (j := 2) rfl rfl m hm))
  obtain ⟨A2, c2, E2, rfl, k2, m2, l2, s2, t2⟩ := open_bytes Try.underlying23 Try.underlying5 (by kernel_rfl) (by kernel_rfl) (hval 2 23 v2 rfl rfl) h2 hz2
  obtain ⟨a3, rfl, rfl, rfl, w3⟩ := open_int Try.underlying3 (hval 3 3 v3 rfl rfl) h3
  clear hA0 hval0
  simp only [List.append_nil] at hW'
  refine (walk (W := W) A0 c0 L0 k0 m0 l0 a1 w1 A2 c2 E2 k2 m2 l2 s2 t2 a3 w3).mono fun e W' ⟨he, hg⟩ => ?_
  subst he
  exact ⟨_, rfl, law_post Try.laidOut rfl Try.underlying4 (by kernel_rfl) rfl rfl rfl rfl hW' hg⟩

theorem over : Rows.metricPutsRow.holds Try.pinned (OpenSpec.ofChange Rows.metricPutsSpec) :=
  OpenClaim.holds_of_wide 3 Try.f3 rfl rfl rfl rfl rfl rfl rfl ⟨rfl, rfl, rfl, rfl, rfl⟩ rfl rfl rfl rfl rfl (by kernel_rfl) Try.func3 (by kernel_rfl)
    (of_decide_eq_true (by kernel_rfl)) (by unfold Func.isWrapper; first | (rw [if_pos (by decide +kernel)]; kernel_rfl) | (rw [if_neg (by decide +kernel)]; exact ⟨rfl, rfl⟩))
    (fun os started H enc _ => lifted os started H enc)

theorem proved : Rows.MetricPutsSaid :=
  over

end Go.Proofs.Ytdbhfigdojkceaa.metricPuts
