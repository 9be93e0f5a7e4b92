/- MetricPlaceLoads: what any bytes are as places; no condition but what the row prints. -/
import Derived.Test.YtdbhfigdojkceaaOpenMets
import Derived.Test.YtdbhfigdojkceaaLaw4
import Derived.Test.YtdbhfigdojkceaaMet19
import Derived.Test.YtdbhfigdojkceaaWide
namespace Go.Proofs.Ytdbhfigdojkceaa.metricPlaceLoads
open Go.ChangeShapes Go.WideShapes Go.ChangeAt Go.RowKit

variable {W : World}
theorem offs_take (long : Bool) (E : List Value) (n : Nat) : offsTo long (E.take (n * szP long)) n = offsTo long E n := by
  unfold offsTo
  refine List.map_congr_left fun k hk => ?_
  have hk : k < n := List.mem_range.1 hk
  cases long
  · simp only [offAt, szP, Bool.false_eq_true, if_false]
    rw [rd2_take (by omega)]
  · simp only [offAt, szP, if_true]
    rw [rd4_take (by omega)]
theorem pload_all (long : Bool) (A : Option Addr) (c : Nat) (E : List Value) (n : Nat) (size : Int) (w : World) (hE : Lists w w.heap.size A E) (h8 : Bytes8 E) (hcap : E.length ≤ c) (h1 : inB 1 65535 (n : Nat) = true) (h2 : inB 0 1048576 size = true) :
    Calls Try.prog 17 #[.slice A E.length c, .int .i64 (n : Nat), .bool long, .int .i64 size] w fun e w' => (rplB long E n size = true → MadePl w (offsTo long E (n + 1)) e w') ∧ (rplB long E n size = false → NoPtr w 61 e w') := by
  rcases Nat.lt_or_ge E.length ((n + 1) * szP long) with h | h
  · have hr := rplB_short (size := size) h
    exact (pload_short A E.length c n size long w h1 h2 h).mono fun e w' k => ⟨(fun h => by rw [hr] at h; cases h), fun _ => k⟩
  · have hr : rplB long E n size = rises size 0 (offsTo long E (n + 1)) := by unfold rplB; rw [decide_eq_true h, Bool.true_and]
    have fin : ∀ e w', PlPost w size (offsTo long (E.take ((n + 1) * szP long)) (n + 1)) e w' → (rplB long E n size = true → MadePl w (offsTo long E (n + 1)) e w') ∧ (rplB long E n size = false → NoPtr w 61 e w') := fun e w' k => by
      rw [offs_take] at k
      rw [hr]
      exact k
    cases long
    · exact (pload_false A c E n size w hE h8 hcap h1 h2 h).mono fin
    · exact (pload_true A c E n size w hE h8 hcap h1 h2 h).mono fin
theorem rpl_all (long : Bool) (n : Nat) (A : Option Addr) (c : Nat) (bs : List Value) (size : Int) (w : World) (hn : n ≤ 3000) (hs1 : 0 ≤ size) (hs2 : size ≤ 1048576) (hL : Lists w w.heap.size A bs) (h8 : Bytes8 bs) (hcap : bs.length ≤ c) (hc2 : c ≤ 9223372036854775807) (hl2 : bs.length ≤ 140737488355328) :
    Calls Try.prog 20 #[.slice A bs.length c, .int .i64 (n : Nat), .bool long, .int .i64 size] w (RPl w (rplB long bs n size) (n + 1) (offsTo long bs (n + 1))) := by
  cases long
  · exact rpl_false n A c bs size w hn hs1 hs2 hL h8 hcap hc2 hl2
  · exact rpl_true n A c bs size w hn hs1 hs2 hL h8 hcap hc2 hl2

set_option maxRecDepth 100000 in
theorem walk_big (S : Value) (n size : Int) (long : Bool) (h1 : 3000 < n) (h2 : n ≤ 65535) : Calls Try.prog 6 #[S, .int .i64 n, .bool long, .int .i64 size] W fun e w' => e = .returned (.bool true) ∧ Below W.heap.size W w' := by
  go_enter Try.func6, Try.ntmps6
  go_wp2_with (first | (go_at_call 8; ((with_reducible refine (lives6 _).mono ?_); rintro e w2 ⟨rfl, b2⟩)))
  go_ret
  exact ⟨rfl, b2⟩

set_option maxRecDepth 100000 in
set_option maxHeartbeats 4000000 in
theorem walk_arg (A0 : Option Addr) (c0 : Nat) (E : List Value) (hl : Lists W W.heap.size A0 E) (h8 : Bytes8 E) (t2 : E.length ≤ 140737488355328) (n size : Int) (long : Bool) (hr : inB 1 65535 n = false ∨ (inB 1 65535 n = true ∧ inB 0 1048576 size = false)) (hbig : ¬ (3000 < n ∧ n ≤ 65535)) :
    Calls Try.prog 6 #[.slice A0 E.length c0, .int .i64 n, .bool long, .int .i64 size] W fun e w' => e = .returned (.bool true) ∧ Below W.heap.size W w' := by
  have C1 : ∀ V A l c, Calls Try.prog 17 #[.slice A l c, .int .i64 n, .bool long, .int .i64 size] V (NoPtr V 1) := fun V A l c => by
    rcases hr with h | ⟨h, h2⟩
    · exact pload_n A l c n size long V h
    · exact pload_size A l c n size long V h h2
  have hcases : n < 1 ∨ (1 ≤ n ∧ 65535 < n) ∨ (1 ≤ n ∧ n ≤ 3000 ∧ size < 0) ∨ (1 ≤ n ∧ n ≤ 3000 ∧ 0 ≤ size ∧ 1048576 < size) := by
    rcases hr with h | ⟨h, h2⟩
    · rcases inB_false h with h | h
      · exact .inl h
      · exact .inr (.inl ⟨by omega, h⟩)
    · have h3 := inB_true h
      rcases inB_false h2 with h4 | h4
      · exact .inr (.inr (.inl ⟨by omega, by omega, h4⟩))
      · exact .inr (.inr (.inr ⟨by omega, by omega, by omega, h4⟩))
  clear hr hbig
  have HL := Lib.hid hl
  have H8 := Lib.hid h8
  clear hl h8
  obtain ⟨l, hll⟩ : ∃ l, E.length = l := ⟨_, rfl⟩
  have HE := Lib.hid hll
  rw [hll] at t2 ⊢
  obtain ⟨i0, hi, hz0, hz1, hz2⟩ := info_parts u8Info
  clear hll
  rcases hcases with h1 | ⟨h1, h2⟩ | ⟨h1, h2, h3⟩ | ⟨h1, h2, h3, h4⟩
  all_goals
    go_enter Try.func6, Try.ntmps6
    go_wp2_with (first | (at_builtin; refine wpList_append_src_wide _ rfl (.tmp 21) (.tmp 22) 23 rfl W.heap.size 5 i0 (.int .u8 0) 1 1 Try.underlying23 hi hz0 hz1 hz2 rfl (by decide) (.slice (some ⟨W.heap.size, 0, none⟩) 0 0) 0 [] rfl (own_new W) _ A0 l c0 E rfl (HL.out.alloc (Nat.le_refl _) _) (by rw [HE.out, Nat.mul_one]) H8.out.one (by simp only [maxLen]; omega) (by omega) (by simp) ?_; intro v1 w1 own1 hg1; rw [Nat.zero_add, List.nil_append] at own1; have b1 : Below W.heap.size W w1 := ((Below.refl _ _).alloc (Nat.le_refl _) _).grown hg1 (by simp) (fun b hb => by simp [Value.ownBlock] at hb; omega); obtain ⟨A1, c1, rfl, l1, hc1⟩ := own_lists own1) | (go_at_call 17; ((with_reducible refine (C1 _ _ _ _).mono ?_); rintro e w2 ⟨rfl, b2⟩; have b12 := b1.trans (b2.mono b1.size))) | (go_at_call 8; ((with_reducible refine (lives6 _).mono ?_); rintro e w3 ⟨rfl, b3⟩; have b13 := b12.trans (b3.mono b12.size))))
    go_ret
    exact ⟨rfl, b13⟩

set_option maxRecDepth 100000 in
set_option maxHeartbeats 4000000 in
theorem walk_ok (A0 : Option Addr) (c0 : Nat) (E : List Value) (hl : Lists W W.heap.size A0 E) (h8 : Bytes8 E) (hcap : E.length ≤ c0) (hc0 : c0 ≤ 9223372036854775807) (t2 : E.length ≤ 140737488355328) (n : Nat) (size : Int) (long : Bool) (h1 : inB 1 65535 (n : Nat) = true) (h2 : inB 0 1048576 size = true) (hn : n ≤ 3000) :
    Calls Try.prog 6 #[.slice A0 E.length c0, .int .i64 (n : Nat), .bool long, .int .i64 size] W fun e w' => e = .returned (.bool true) ∧ Below W.heap.size W w' := by
  have g1 := inB_true h1
  have g2 := inB_true h2
  have C1 := fun V A c (hE : Lists V V.heap.size A E) (hcp : E.length ≤ c) => pload_all long A c E n size V hE h8 hcp h1 h2
  have C2 := fun V (hb : Below W.heap.size W V) => rpl_all long n A0 c0 E size V hn g2.1 g2.2 ((hl.below hb).more hb.size) h8 hcap hc0 t2
  have hlen := offsTo_len long E (n + 1)
  have C3 := fun t V A c (ht : PlAt V t (offsTo long E (n + 1))) (hL : Lists V V.heap.size A (intCells (offsTo long E (n + 1)))) => stands_any t (offsTo long E (n + 1)) (by omega) (by omega) (-1) V.heap.size A c V ht (Nat.le_refl _) hL
  rw [hlen] at C3
  clear h1 h2 hlen
  cases hr : rplB long E n size
  · have C1' := fun V A c hE hcp => (C1 V A c hE hcp).mono fun e w' k => k.2 hr
    have C2' := fun V hb => (C2 V hb).mono fun e w' k => k.2 hr
    clear C1 C2 C3 hr
    have HL := Lib.hid hl
    have H8 := Lib.hid h8
    clear hl h8
    obtain ⟨l, hll⟩ : ∃ l, E.length = l := ⟨_, rfl⟩
    have HE := Lib.hid hll
    rw [hll] at t2 ⊢
    rw [hll] at C1' C2'
    obtain ⟨i0, hi, hz0, hz1, hz2⟩ := info_parts u8Info
    clear hll hcap
    go_enter Try.func6, Try.ntmps6
    go_wp2_with (first | (at_builtin; refine wpList_append_src_wide _ rfl (.tmp 21) (.tmp 22) 23 rfl W.heap.size 5 i0 (.int .u8 0) 1 1 Try.underlying23 hi hz0 hz1 hz2 rfl (by decide) (.slice (some ⟨W.heap.size, 0, none⟩) 0 0) 0 [] rfl (own_new W) _ A0 l c0 E rfl (HL.out.alloc (Nat.le_refl _) _) (by rw [HE.out, Nat.mul_one]) H8.out.one (by simp only [maxLen]; omega) (by omega) (by simp) ?_; intro v1 w1 own1 hg1; rw [Nat.zero_add, List.nil_append] at own1; have b1 : Below W.heap.size W w1 := ((Below.refl _ _).alloc (Nat.le_refl _) _).grown hg1 (by simp) (fun b hb => by simp [Value.ownBlock] at hb; omega); obtain ⟨A1, c1, rfl, l1, hc1⟩ := own_lists own1) | (go_at_call 17; ((with_reducible refine (C1' _ A1 c1 l1 hc1).mono ?_); rintro e w2 ⟨rfl, b2⟩; have b12 := b1.trans (b2.mono b1.size))) | (go_at_call 8; ((with_reducible refine (lives6 _).mono ?_); rintro e w3 ⟨rfl, b3⟩; have b13 := b12.trans (b3.mono b12.size))) | (go_at_call 20; ((with_reducible refine (C2' _ b13).mono ?_); rintro e w4 ⟨rfl, b4⟩; have b14 := b13.trans (b4.mono b13.size))))
    go_ret
    exact ⟨rfl, b14⟩
  · have C1' := fun V A c hE hcp => (C1 V A c hE hcp).mono fun e w' k => k.1 hr
    have C2' := fun V hb => (C2 V hb).mono fun e w' k => k.1 hr
    clear C1 C2 hr
    have HL := Lib.hid hl
    have H8 := Lib.hid h8
    clear hl h8
    obtain ⟨l, hll⟩ : ∃ l, E.length = l := ⟨_, rfl⟩
    have HE := Lib.hid hll
    rw [hll] at t2 ⊢
    rw [hll] at C1' C2'
    obtain ⟨i0, hi, hz0, hz1, hz2⟩ := info_parts u8Info
    clear hll hcap
    go_enter Try.func6, Try.ntmps6
    go_wp2_with (first | (at_builtin; refine wpList_append_src_wide _ rfl (.tmp 21) (.tmp 22) 23 rfl W.heap.size 5 i0 (.int .u8 0) 1 1 Try.underlying23 hi hz0 hz1 hz2 rfl (by decide) (.slice (some ⟨W.heap.size, 0, none⟩) 0 0) 0 [] rfl (own_new W) _ A0 l c0 E rfl (HL.out.alloc (Nat.le_refl _) _) (by rw [HE.out, Nat.mul_one]) H8.out.one (by simp only [maxLen]; omega) (by omega) (by simp) ?_; intro v1 w1 own1 hg1; rw [Nat.zero_add, List.nil_append] at own1; have b1 : Below W.heap.size W w1 := ((Below.refl _ _).alloc (Nat.le_refl _) _).grown hg1 (by simp) (fun b hb => by simp [Value.ownBlock] at hb; omega); obtain ⟨A1, c1, rfl, l1, hc1⟩ := own_lists own1) | (go_at_call 17; ((with_reducible refine (C1' _ A1 c1 l1 hc1).mono ?_); rintro e w2 ⟨t, rfl, ht, b2⟩; have b12 := b1.trans (b2.mono b1.size))) | (go_at_call 8; ((with_reducible refine (lives6 _).mono ?_); rintro e w3 ⟨rfl, b3⟩; have b13 := b12.trans (b3.mono b12.size); have ht3 := ht.below b3)) | (go_at_call 20; ((with_reducible refine (C2' _ b13).mono ?_); rintro e w4 ⟨A4, c4, rfl, l4, b4⟩; have b14 := b13.trans (b4.mono b13.size); have ht4 := ht3.below b4)) | (go_at_call 19; ((with_reducible refine (C3 t w4 A4 c4 ht4 l4).mono ?_); rintro e w5 ⟨rfl, b5⟩; have b15 := b14.trans (b5.mono b14.size))))
    go_ret
    exact ⟨rfl, b15⟩

theorem walk (A0 : Option Addr) (c0 : Nat) (E : List Value) (hcap : E.length ≤ c0) (hc0 : c0 ≤ 9223372036854775807) (hl : Lists W W.heap.size A0 E) (h8 : Bytes8 E) (t2 : E.length ≤ 140737488355328) (n : Int) (_ : (Lit.int .i64 n).wf = true) (long : Bool) (size : Int) (_ : (Lit.int .i64 size).wf = true) :
    Calls Try.prog 6 #[.slice A0 E.length c0, .int .i64 n, .bool long, .int .i64 size] W fun e w' => e = .returned (.bool true) ∧ Below W.heap.size W w' := by
  by_cases hbig : 3000 < n ∧ n ≤ 65535
  · exact walk_big _ n size long hbig.1 hbig.2
  · cases h1 : inB 1 65535 n
    · exact walk_arg A0 c0 E hl h8 t2 n size long (.inl h1) hbig
    · cases h2 : inB 0 1048576 size
      · exact walk_arg A0 c0 E hl h8 t2 n size long (.inr ⟨h1, h2⟩) hbig
      · have h := inB_true h1
        obtain ⟨k, rfl⟩ : ∃ k : Nat, n = (k : Int) := ⟨n.toNat, by omega⟩
        exact walk_ok A0 c0 E hl h8 hcap hc0 t2 k size long h1 h2 (by omega)

set_option linter.unusedVariables false in
set_option maxRecDepth 100000 in
theorem lifted (os : Os) (started : os.Started) (H : Type) (enc : TypeId × Value → H) :
    ReturnsInHanded {} Try.checked os 6 .any (Rows.metricPlaceLoadsSpec.pre6 enc Try.prog Try.f6 Rows.metricPlaceLoadsRow.domain false) (Rows.metricPlaceLoadsSpec.post enc Try.prog Try.f6 false true false false) := by
  refine returnsInHanded_of_change_sized (C := Try.checked) Try.own started (by kernel_rfl) Try.func6
    (ChangeSpec.witness6 (enc := enc) (C := Try.checked) false ⟨#[], #[.slice none 0 0, .int .i64 0, .bool false, .int .i64 0], []⟩ 8 (by kernel_rfl) (by kernel_rfl) (by kernel_rfl) (by kernel_rfl)) ?_
  intro W base args ds gs before hval0 hW hcnd hsz0 _
  have hsz : (DataW.weightsEach Try.prog (Try.f6.params.toList ++ Rows.metricPlaceLoadsSpec.plain.varTypes Try.prog) (ds ++ gs)).all (· ≤ reachBytes) = true := hsz0
  have hval : ∀ (j : Nat) t v, Try.f6.params[j]? = some t → args[j]? = some v → Value.okWide Try.prog W .any base t v := hval0
  have hW' := hW
  obtain ⟨p, q, hA0, hV, rfl, hfz, hnd⟩ := hW
  have hA : DataW.TrodAll enc Try.prog W 0 (fun _ => true) true Try.f6.params.toList args.toList ds p := hA0
  rw [Try.params6] at hA hval hsz
  obtain ⟨v0, vs0, d0, ds0, p0, q0, hargs, rfl, rfl, h0, r0⟩ := trodAll_cons hA
  obtain ⟨v1, vs1, d1, ds1, p1, q1, rfl, rfl, rfl, h1, r1⟩ := trodAll_cons r0
  obtain ⟨v2, vs2, d2, ds2, p2, q2, rfl, rfl, rfl, h2, r2⟩ := trodAll_cons r1
  obtain ⟨v3, vs3, d3, ds3, p3, q3, rfl, rfl, rfl, h3, r3⟩ := trodAll_cons r2
  obtain ⟨rfl, rfl, rfl⟩ := trodAll_nil r3
  obtain rfl : args = #[v0, v1, v2, v3] := by cases args; simp_all
  obtain ⟨rfl, rfl⟩ := trodVars_none hV
  have hz0 : ∀ m ∈ d0.weights Try.prog 23, m ≤ reachBytes := fun m hm => of_decide_eq_true (List.all_eq_true.1 hsz m (DataW.weights_mem_each (j := 0) rfl rfl m hm))
  obtain ⟨A0, c0, E0, rfl, k0, m0, l0, s0, t0⟩ := open_bytes Try.underlying23 Try.underlying5 (by kernel_rfl) (by kernel_rfl) (hval 0 23 v0 rfl rfl) h0 hz0
  obtain ⟨a1, rfl, rfl, rfl, w1⟩ := open_int Try.underlying3 (hval 1 3 v1 rfl rfl) h1
  obtain ⟨a2, rfl, rfl, rfl⟩ := open_bool Try.underlying4 (hval 2 4 v2 rfl rfl) h2
  obtain ⟨a3, rfl, rfl, rfl, w3⟩ := open_int Try.underlying3 (hval 3 3 v3 rfl rfl) h3
  clear hA0 hval0
  simp only [List.append_nil] at hW'
  refine (walk (W := W) A0 c0 E0 k0 m0 l0 s0 t0 a1 w1 a2 a3 w3).mono fun e W' ⟨he, hg⟩ => ?_
  subst he
  exact ⟨_, rfl, law_post Try.laidOut rfl Try.underlying4 (by kernel_rfl) rfl rfl rfl rfl hW' hg⟩

theorem over : Rows.metricPlaceLoadsRow.holds Try.pinned (OpenSpec.ofChange Rows.metricPlaceLoadsSpec) :=
  OpenClaim.holds_of_wide 6 Try.f6 rfl rfl rfl rfl rfl rfl rfl ⟨rfl, rfl, rfl, rfl, rfl⟩ rfl rfl rfl rfl rfl (by kernel_rfl) Try.func6 (by kernel_rfl)
    (of_decide_eq_true (by kernel_rfl)) (by unfold Func.isWrapper; first | (rw [if_pos (by decide +kernel)]; kernel_rfl) | (rw [if_neg (by decide +kernel)]; exact ⟨rfl, rfl⟩))
    (fun os started H enc _ => lifted os started H enc)

theorem proved : Rows.MetricPlaceLoadsSaid :=
  over

end Go.Proofs.Ytdbhfigdojkceaa.metricPlaceLoads
