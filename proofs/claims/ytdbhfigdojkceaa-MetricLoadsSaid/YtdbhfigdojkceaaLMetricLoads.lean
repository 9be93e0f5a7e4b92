/- MetricLoads: what any bytes are as metrics; no condition but what the row prints. -/
import Derived.Test.YtdbhfigdojkceaaOpenMets
import Derived.Test.YtdbhfigdojkceaaLaw4
import Derived.Test.YtdbhfigdojkceaaMet18
import Derived.Test.YtdbhfigdojkceaaWide
namespace Go.Proofs.Ytdbhfigdojkceaa.metricLoads
open Go.ChangeShapes Go.WideShapes Go.ChangeAt Go.RowKit

variable {W : World}
theorem metAt_take (E : List Value) (m n k : Nat) (hk : k < n) : metAt (E.take (posM m n)) m k = metAt E m k := by
  unfold metAt advAt bearAt
  have h1 := posM_mono m (min k (m - 1) + 1) n (by omega)
  have h2 := posM_mono m (k + 1) n (by omega)
  rw [posM_succ] at h1 h2
  have h3 : posM m (min k (m - 1)) + 1 < posM m n := by unfold bearPos at h1; split at h1 <;> omega
  rw [rd2_take h3, rd2_take (show bearPos m k + 1 < posM m n by omega)]
theorem are_loads (E : List Value) (m n : Nat) (hm : 1 ≤ m) (hmn : m ≤ n) : Are (advsTo (E.take (posM m n)) m m) (bearsTo (E.take (posM m n)) m n) (metsTo E m n) := by
  refine are_of _ m n _ (metsTo_len E m n).symm hm hmn fun k q hk => ?_
  have hlt : k < n := by have := (List.getElem?_eq_some_iff.1 hk).1; rwa [metsTo_len] at this
  rw [metAt_take E m n k hlt]
  rw [metsTo_get E m n k hlt] at hk
  exact Option.some.inj hk
def RMadeN (w : World) (n : Nat) (L : List (Int × Int)) (e : Ending) (w' : World) : Prop := ∃ A c, e = .returned (.tuple #[.slice A n c, .bool true]) ∧ Lists w' w'.heap.size A (metCells L) ∧ Below w.heap.size w w'

set_option maxRecDepth 100000 in
theorem walk_big (S : Value) (n m g : Int) (h1 : 3000 < n) (h2 : n ≤ 65535) : Calls Try.prog 4 #[S, .int .i64 n, .int .i64 m, .int .i64 g] W fun e w' => e = .returned (.bool true) ∧ Below W.heap.size W w' := by
  go_enter Try.func4, Try.ntmps4
  go_wp2_with (first | (go_at_call 8; ((with_reducible refine (lives6 _).mono ?_); rintro e w2 ⟨rfl, b2⟩)))
  go_ret
  exact ⟨rfl, b2⟩

set_option maxRecDepth 100000 in
set_option maxHeartbeats 4000000 in
theorem walk_arg (A0 : Option Addr) (c0 : Nat) (E : List Value) (hl : Lists W W.heap.size A0 E) (h8 : Bytes8 E) (t2 : E.length ≤ 140737488355328) (n m g : Int) (hr : cmB n m = false) (hbig : ¬ (3000 < n ∧ n ≤ 65535)) :
    Calls Try.prog 4 #[.slice A0 E.length c0, .int .i64 n, .int .i64 m, .int .i64 g] W fun e w' => e = .returned (.bool true) ∧ Below W.heap.size W w' := by
  have C1 := fun V A l c => mload_arg A l c n m V hr
  have hcases : n < 1 ∨ (1 ≤ n ∧ 65535 < n) ∨ (1 ≤ n ∧ n ≤ 3000 ∧ m < 1) ∨ (1 ≤ n ∧ n ≤ 3000 ∧ 1 ≤ m ∧ n < m) := by
    rcases Int.lt_or_le n 1 with h | h
    · exact .inl h
    · rcases Int.lt_or_le 65535 n with h2 | h2
      · exact .inr (.inl ⟨h, h2⟩)
      · rcases Int.lt_or_le m 1 with h3 | h3
        · exact .inr (.inr (.inl ⟨h, by omega, h3⟩))
        · rcases Int.lt_or_le n m with h4 | h4
          · exact .inr (.inr (.inr ⟨h, by omega, h3, h4⟩))
          · rw [cmB_yes h h2 h3 h4] at hr; cases hr
  clear hr hbig
  have HL := Lib.hid hl
  have H8 := Lib.hid h8
  clear hl h8
  obtain ⟨l, hll⟩ : ∃ l, E.length = l := ⟨_, rfl⟩
  have HE := Lib.hid hll
  rw [hll] at t2 ⊢
  obtain ⟨i0, hi, hz0, hz1, hz2⟩ := info_parts u8Info
  clear hll
  rcases hcases with h1 | ⟨h1, h2⟩ | ⟨h1, h2, h3⟩ | ⟨h1, h2, h3, h4⟩
  all_goals
    go_enter Try.func4, Try.ntmps4
    go_wp2_with (first | (at_builtin; refine wpList_append_src_wide _ rfl (.tmp 21) (.tmp 22) 23 rfl W.heap.size 5 i0 (.int .u8 0) 1 1 Try.underlying23 hi hz0 hz1 hz2 rfl (by decide) (.slice (some ⟨W.heap.size, 0, none⟩) 0 0) 0 [] rfl (own_new W) _ A0 l c0 E rfl (HL.out.alloc (Nat.le_refl _) _) (by rw [HE.out, Nat.mul_one]) H8.out.one (by simp only [maxLen]; omega) (by omega) (by simp) ?_; intro v1 w1 own1 hg1; rw [Nat.zero_add, List.nil_append] at own1; have b1 : Below W.heap.size W w1 := ((Below.refl _ _).alloc (Nat.le_refl _) _).grown hg1 (by simp) (fun b hb => by simp [Value.ownBlock] at hb; omega); obtain ⟨A1, c1, rfl, l1, hc1⟩ := own_lists own1) | (go_at_call 11; ((with_reducible refine (C1 _ _ _ _).mono ?_); rintro e w2 ⟨rfl, b2⟩; have b12 := b1.trans (b2.mono b1.size))) | (go_at_call 8; ((with_reducible refine (lives6 _).mono ?_); rintro e w3 ⟨rfl, b3⟩; have b13 := b12.trans (b3.mono b12.size))))
    go_ret
    exact ⟨rfl, b13⟩

set_option maxRecDepth 100000 in
set_option maxHeartbeats 4000000 in
theorem walk_short (A0 : Option Addr) (c0 : Nat) (E : List Value) (hl : Lists W W.heap.size A0 E) (h8 : Bytes8 E) (t2 : E.length ≤ 140737488355328) (n m : Nat) (g : Int) (hr : cmB n m = true) (hn : n ≤ 3000) (hs : E.length < posM m n) :
    Calls Try.prog 4 #[.slice A0 E.length c0, .int .i64 (n : Nat), .int .i64 (m : Nat), .int .i64 g] W fun e w' => e = .returned (.bool true) ∧ Below W.heap.size W w' := by
  have hc := cmB_true hr
  have C1 := fun V A c => mload_short A E.length c n m V hr hs
  have C2 := fun V => rload_short n m A0 E.length c0 V (by omega) hn hs
  clear hr
  have HL := Lib.hid hl
  have H8 := Lib.hid h8
  clear hl h8
  obtain ⟨l, hll⟩ : ∃ l, E.length = l := ⟨_, rfl⟩
  have HE := Lib.hid hll
  rw [hll] at t2 ⊢
  rw [hll] at C1 C2
  obtain ⟨i0, hi, hz0, hz1, hz2⟩ := info_parts u8Info
  clear hll hs
  go_enter Try.func4, Try.ntmps4
  go_wp2_with (first | (at_builtin; refine wpList_append_src_wide _ rfl (.tmp 21) (.tmp 22) 23 rfl W.heap.size 5 i0 (.int .u8 0) 1 1 Try.underlying23 hi hz0 hz1 hz2 rfl (by decide) (.slice (some ⟨W.heap.size, 0, none⟩) 0 0) 0 [] rfl (own_new W) _ A0 l c0 E rfl (HL.out.alloc (Nat.le_refl _) _) (by rw [HE.out, Nat.mul_one]) H8.out.one (by simp only [maxLen]; omega) (by omega) (by simp) ?_; intro v1 w1 own1 hg1; rw [Nat.zero_add, List.nil_append] at own1; have b1 : Below W.heap.size W w1 := ((Below.refl _ _).alloc (Nat.le_refl _) _).grown hg1 (by simp) (fun b hb => by simp [Value.ownBlock] at hb; omega); obtain ⟨A1, c1, rfl, l1, hc1⟩ := own_lists own1) | (go_at_call 11; ((with_reducible refine (C1 _ _ _).mono ?_); rintro e w2 ⟨rfl, b2⟩; have b12 := b1.trans (b2.mono b1.size))) | (go_at_call 8; ((with_reducible refine (lives6 _).mono ?_); rintro e w3 ⟨rfl, b3⟩; have b13 := b12.trans (b3.mono b12.size))) | (go_at_call 14; ((with_reducible refine (C2 _).mono ?_); rintro e w4 ⟨rfl, b4⟩; have b14 := b13.trans (b4.mono b13.size))))
  go_ret
  exact ⟨rfl, b14⟩

set_option maxRecDepth 100000 in
set_option maxHeartbeats 4000000 in
theorem walk_ok (A0 : Option Addr) (c0 : Nat) (E : List Value) (hl : Lists W W.heap.size A0 E) (h8 : Bytes8 E) (hcap : E.length ≤ c0) (hc0 : c0 ≤ 9223372036854775807) (t2 : E.length ≤ 140737488355328) (n m0 : Nat) (g : Int) (hr : cmB n ((m0 : Int) + 1) = true) (hn : n ≤ 3000) (hs : posM (m0 + 1) n ≤ E.length) :
    Calls Try.prog 4 #[.slice A0 E.length c0, .int .i64 (n : Nat), .int .i64 ((m0 : Int) + 1), .int .i64 g] W fun e w' => e = .returned (.bool true) ∧ Below W.heap.size W w' := by
  have hc := cmB_true hr
  have C1 := fun V A c (hE : Lists V V.heap.size A E) (hcp : E.length ≤ c) => mload_ok A c E n (m0 + 1) V hE h8 hcp (by rw [Int.natCast_succ]; exact hr) hs
  rw [Int.natCast_succ] at C1
  have C2 : ∀ V, Below W.heap.size W V → Calls Try.prog 14 #[.slice A0 E.length c0, .int .i64 (n : Nat), .int .i64 ((m0 : Int) + 1)] V (RMadeN V n (metsTo E (m0 + 1) n)) := fun V hb =>
    (rload_ok n m0 A0 c0 E V (by omega) hn hs ((hl.below hb).more hb.size) h8 hcap hc0 t2).mono fun e w' ⟨A, c, h1, h2, _, h4⟩ => ⟨A, c, by rw [metsTo_len] at h1; exact h1, h2, h4⟩
  have hA := are_loads E (m0 + 1) n (by omega) (by omega)
  have C3 := fun t V A c (ht : MetAt V t _ _) (hL : Lists V V.heap.size A _) => holds_any t _ _ _ hA (by rw [metsTo_len]; omega) g V.heap.size A c V ht (Nat.le_refl _) hL
  rw [metsTo_len] at C3
  clear hr hA
  have HL := Lib.hid hl
  have H8 := Lib.hid h8
  clear hl h8
  obtain ⟨l, hll⟩ : ∃ l, E.length = l := ⟨_, rfl⟩
  have HE := Lib.hid hll
  rw [hll] at t2 ⊢
  rw [hll] at C1 C2
  obtain ⟨i0, hi, hz0, hz1, hz2⟩ := info_parts u8Info
  clear hll hs hcap
  go_enter Try.func4, Try.ntmps4
  go_wp2_with (first | (at_builtin; refine wpList_append_src_wide _ rfl (.tmp 21) (.tmp 22) 23 rfl W.heap.size 5 i0 (.int .u8 0) 1 1 Try.underlying23 hi hz0 hz1 hz2 rfl (by decide) (.slice (some ⟨W.heap.size, 0, none⟩) 0 0) 0 [] rfl (own_new W) _ A0 l c0 E rfl (HL.out.alloc (Nat.le_refl _) _) (by rw [HE.out, Nat.mul_one]) H8.out.one (by simp only [maxLen]; omega) (by omega) (by simp) ?_; intro v1 w1 own1 hg1; rw [Nat.zero_add, List.nil_append] at own1; have b1 : Below W.heap.size W w1 := ((Below.refl _ _).alloc (Nat.le_refl _) _).grown hg1 (by simp) (fun b hb => by simp [Value.ownBlock] at hb; omega); obtain ⟨A1, c1, rfl, l1, hc1⟩ := own_lists own1) | (go_at_call 11; ((with_reducible refine (C1 _ A1 c1 l1 hc1).mono ?_); rintro e w2 ⟨t, rfl, ht, b2⟩; have b12 := b1.trans (b2.mono b1.size))) | (go_at_call 8; ((with_reducible refine (lives6 _).mono ?_); rintro e w3 ⟨rfl, b3⟩; have b13 := b12.trans (b3.mono b12.size); have ht3 := ht.below b3)) | (go_at_call 14; ((with_reducible refine (C2 _ b13).mono ?_); rintro e w4 ⟨A4, c4, rfl, l4, b4⟩; have b14 := b13.trans (b4.mono b13.size); have ht4 := ht3.below b4)) | (go_at_call 13; ((with_reducible refine (C3 t w4 A4 c4 ht4 l4).mono ?_); rintro e w5 ⟨rfl, b5⟩; have b15 := b14.trans (b5.mono b14.size))))
  go_ret
  exact ⟨rfl, b15⟩

theorem walk (A0 : Option Addr) (c0 : Nat) (E : List Value) (hcap : E.length ≤ c0) (hc0 : c0 ≤ 9223372036854775807) (hl : Lists W W.heap.size A0 E) (h8 : Bytes8 E) (t2 : E.length ≤ 140737488355328) (n : Int) (_ : (Lit.int .i64 n).wf = true) (m : Int) (_ : (Lit.int .i64 m).wf = true) (g : Int) (_ : (Lit.int .i64 g).wf = true) :
    Calls Try.prog 4 #[.slice A0 E.length c0, .int .i64 n, .int .i64 m, .int .i64 g] W fun e w' => e = .returned (.bool true) ∧ Below W.heap.size W w' := by
  by_cases hbig : 3000 < n ∧ n ≤ 65535
  · exact walk_big _ n m g hbig.1 hbig.2
  · cases hr : cmB n m
    · exact walk_arg A0 c0 E hl h8 t2 n m g hr hbig
    · have h := cmB_true hr
      obtain ⟨k, rfl⟩ : ∃ k : Nat, n = (k : Int) := ⟨n.toNat, by omega⟩
      obtain ⟨m0, rfl⟩ : ∃ k : Nat, m = (k : Int) + 1 := ⟨(m - 1).toNat, by omega⟩
      rcases Nat.lt_or_ge E.length (posM (m0 + 1) k) with h1 | h1
      · have := walk_short (W := W) A0 c0 E hl h8 t2 k (m0 + 1) g (by rw [Int.natCast_succ]; exact hr) (by omega) h1
        rw [Int.natCast_succ] at this
        exact this
      · exact walk_ok A0 c0 E hl h8 hcap hc0 t2 k m0 g hr (by omega) h1

set_option linter.unusedVariables false in
set_option maxRecDepth 100000 in
theorem lifted (os : Os) (started : os.Started) (H : Type) (enc : TypeId × Value → H) :
    ReturnsInHanded {} Try.checked os 4 .any (Rows.metricLoadsSpec.pre6 enc Try.prog Try.f4 Rows.metricLoadsRow.domain false) (Rows.metricLoadsSpec.post enc Try.prog Try.f4 false true false false) := by
  refine returnsInHanded_of_change_sized (C := Try.checked) Try.own started (by kernel_rfl) Try.func4
    (ChangeSpec.witness6 (enc := enc) (C := Try.checked) false ⟨#[], #[.slice none 0 0, .int .i64 0, .int .i64 0, .int .i64 0], []⟩ 8 (by kernel_rfl) (by kernel_rfl) (by kernel_rfl) (by kernel_rfl)) ?_
  intro W base args ds gs before hval0 hW hcnd hsz0 _
  have hsz : (DataW.weightsEach Try.prog (Try.f4.params.toList ++ Rows.metricLoadsSpec.plain.varTypes Try.prog) (ds ++ gs)).all (· ≤ reachBytes) = true := hsz0
  have hval : ∀ (j : Nat) t v, Try.f4.params[j]? = some t → args[j]? = some v → Value.okWide Try.prog W .any base t v := hval0
  have hW' := hW
  obtain ⟨p, q, hA0, hV, rfl, hfz, hnd⟩ := hW
  have hA : DataW.TrodAll enc Try.prog W 0 (fun _ => true) true Try.f4.params.toList args.toList ds p := hA0
  rw [Try.params4] at hA hval hsz
  obtain ⟨v0, vs0, d0, ds0, p0, q0, hargs, rfl, rfl, h0, r0⟩ := trodAll_cons hA
  obtain ⟨v1, vs1, d1, ds1, p1, q1, rfl, rfl, rfl, h1, r1⟩ := trodAll_cons r0
  obtain ⟨v2, vs2, d2, ds2, p2, q2, rfl, rfl, rfl, h2, r2⟩ := trodAll_cons r1
  obtain ⟨v3, vs3, d3, ds3, p3, q3, rfl, rfl, rfl, h3, r3⟩ := trodAll_cons r2
  obtain ⟨rfl, rfl, rfl⟩ := trodAll_nil r3
  obtain rfl : args = #[v0, v1, v2, v3] := by cases args; simp_all
  obtain ⟨rfl, rfl⟩ := trodVars_none hV
  have hz0 : ∀ m ∈ d0.weights Try.prog 23, m ≤ reachBytes := fun m hm => of_decide_eq_true (List.all_eq_true.1 hsz m (DataW.weights_mem_each (j := 0) rfl rfl m hm))
  obtain ⟨A0, c0, E0, rfl, k0, m0, l0, s0, t0⟩ := open_bytes Try.underlying23 Try.underlying5 (by kernel_rfl) (by kernel_rfl) (hval 0 23 v0 rfl rfl) h0 hz0
  obtain ⟨a1, rfl, rfl, rfl, w1⟩ := open_int Try.underlying3 (hval 1 3 v1 rfl rfl) h1
  obtain ⟨a2, rfl, rfl, rfl, w2⟩ := open_int Try.underlying3 (hval 2 3 v2 rfl rfl) h2
  obtain ⟨a3, rfl, rfl, rfl, w3⟩ := open_int Try.underlying3 (hval 3 3 v3 rfl rfl) h3
  clear hA0 hval0
  simp only [List.append_nil] at hW'
  refine (walk (W := W) A0 c0 E0 k0 m0 l0 s0 t0 a1 w1 a2 w2 a3 w3).mono fun e W' ⟨he, hg⟩ => ?_
  subst he
  exact ⟨_, rfl, law_post Try.laidOut rfl Try.underlying4 (by kernel_rfl) rfl rfl rfl rfl hW' hg⟩

theorem over : Rows.metricLoadsRow.holds Try.pinned (OpenSpec.ofChange Rows.metricLoadsSpec) :=
  OpenClaim.holds_of_wide 4 Try.f4 rfl rfl rfl rfl rfl rfl rfl ⟨rfl, rfl, rfl, rfl, rfl⟩ rfl rfl rfl rfl rfl (by kernel_rfl) Try.func4 (by kernel_rfl)
    (of_decide_eq_true (by kernel_rfl)) (by unfold Func.isWrapper; first | (rw [if_pos (by decide +kernel)]; kernel_rfl) | (rw [if_neg (by decide +kernel)]; exact ⟨rfl, rfl⟩))
    (fun os started H enc _ => lifted os started H enc)

theorem proved : Rows.MetricLoadsSaid :=
  over

end Go.Proofs.Ytdbhfigdojkceaa.metricLoads
