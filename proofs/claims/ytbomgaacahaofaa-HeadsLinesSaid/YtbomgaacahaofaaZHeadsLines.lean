/- HeadsLines: the table of any lines, read again whatever follows; no condition but what the row prints. -/
import Derived.Test.YtbomgaacahaofaaCP10

namespace Go.Proofs.Ytbomgaacahaofaa.headsLines
open Go.ChangeShapes Go.WideShapes Go.ChangeAt Go.RowKit

variable {W : World}
theorem own_low {w : World} {base : Nat} {e : TypeId} {size n : Nat} {v : Value} {xs : List Value} (h : w.ownsRow base e size v n xs) : ∀ b ∈ blk v, base ≤ b := by
  intro b hm
  rcases h.2 with ⟨rfl, _⟩ | ⟨g, cap, cur, rfl, h2, _⟩
  · simp [blk, Value.ownBlock] at hm
  · have : b = g := by simpa [blk, Value.ownBlock] using hm
    omega
set_option maxRecDepth 100000 in
set_option maxHeartbeats 4000000 in
theorem walk_no (a0 a1 a2 a3 : Int) (S : Value) (hmay : mayL a0 a1 a2 a3 = false) : Calls Try.prog 6 #[.agg #[.int .i64 a0, .int .i64 a1, .int .i64 a2, .int .i64 a3], S] W fun e w' => e = .returned (.bool true) ∧ Below W.heap.size W w' := by
  have C1 := fun V => hPutLines_no a0 a1 a2 a3 V hmay
  have C2 := fun V => rMayLines a0 a1 a2 a3 V
  rw [hmay] at C2
  have b0 : Below W.heap.size W (W.alloc (.cells #[.int .i64 a0, .int .i64 a1, .int .i64 a2, .int .i64 a3] 50)) := (Below.refl _ _).alloc (Nat.le_refl _) _
  have X0 : Blk (W.alloc (.cells #[.int .i64 a0, .int .i64 a1, .int .i64 a2, .int .i64 a3] 50)) W.heap.size 50 #[.int .i64 a0, .int .i64 a1, .int .i64 a2, .int .i64 a3] := Blk.new _ _ _
  have HB := Lib.hid (And.intro b0 X0)
  clear hmay b0 X0
  go_enter Try.func6, Try.ntmps6
  go_wp2_with (first | (go_at_call 19; ((with_reducible refine (C1 _).mono ?_); rintro e w1 ⟨rfl, b1⟩; have B1 := HB.out.1.trans (b1.mono HB.out.1.size); have X1 := HB.out.2.below b1)) | (go_at_call 9; ((with_reducible refine (lives5 _).mono ?_); rintro e w2 ⟨rfl, b2⟩; have B2 := B1.trans (b2.mono B1.size); have Yx := X1.below b2; have yx_0 := Yx.cell 0; rw [show (#[.int .i64 a0, .int .i64 a1, .int .i64 a2, .int .i64 a3] : Array Value)[0]? = some (.int .i64 a0) from rfl] at yx_0; have yx_1 := Yx.cell 1; rw [show (#[.int .i64 a0, .int .i64 a1, .int .i64 a2, .int .i64 a3] : Array Value)[1]? = some (.int .i64 a1) from rfl] at yx_1; have yx_2 := Yx.cell 2; rw [show (#[.int .i64 a0, .int .i64 a1, .int .i64 a2, .int .i64 a3] : Array Value)[2]? = some (.int .i64 a2) from rfl] at yx_2; have yx_3 := Yx.cell 3; rw [show (#[.int .i64 a0, .int .i64 a1, .int .i64 a2, .int .i64 a3] : Array Value)[3]? = some (.int .i64 a3) from rfl] at yx_3)) | (go_at_call 20; ((with_reducible refine (C2 _).mono ?_); rintro e w3 ⟨rfl, b3⟩; have B3 := B2.trans (b3.mono B2.size))))
  go_ret
  exact ⟨rfl, B3⟩

set_option maxRecDepth 100000 in
set_option maxHeartbeats 16000000 in
theorem walk_yes (a0 a1 a2 a3 : Int) (A1 : Option Addr) (c1 : Nat) (E1 : List Value) (_ : E1.length ≤ c1) (_ : c1 ≤ 9223372036854775807) (l1 : Lists W W.heap.size A1 E1) (s1 : Bytes8 E1) (t1 : E1.length ≤ 140737488351232) (hmay : mayL a0 a1 a2 a3 = true) : Calls Try.prog 6 #[.agg #[.int .i64 a0, .int .i64 a1, .int .i64 a2, .int .i64 a3], .slice A1 E1.length c1] W fun e w' => e = .returned (.bool true) ∧ Below W.heap.size W w' := by
  have C1 : ∀ V, Calls Try.prog 19 #[.agg #[.int .i64 a0, .int .i64 a1, .int .i64 a2, .int .i64 a3]] V (GaveL V 36 (putLs a0 a1 a2 a3)) := fun V => (hPutLines_yes a0 a1 a2 a3 V hmay).mono fun e w' h => h.l rfl
  have C2 := fun V => rMayLines a0 a1 a2 a3 V
  rw [hmay] at C2
  have C3 : ∀ V, Calls Try.prog 22 #[.agg #[.int .i64 a0, .int .i64 a1, .int .i64 a2, .int .i64 a3]] V fun e w' => ∃ A c, e = .returned (.slice A 36 c) ∧ Lists w' w'.heap.size A (putLs a0 a1 a2 a3) ∧ 36 ≤ c ∧ Below V.heap.size V w' := fun V => rPutLines_any a0 a1 a2 a3 V
  have hpb : Bytes8 (putLs a0 a1 a2 a3) := putLs_bytes a0 a1 a2 a3
  have hbk := backL a0 a1 a2 a3 E1 hmay
  have hpl : (putLs a0 a1 a2 a3).length = 36 := rfl
  have C4 : ∀ A c V, Lists V V.heap.size A (putLs a0 a1 a2 a3 ++ E1) → 36 + E1.length ≤ c → c ≤ 9223372036854775807 → Calls Try.prog 21 #[.slice A (36 + E1.length) c] V fun e w' => e = .returned (.tuple #[.agg #[.int .i64 a0, .int .i64 a1, .int .i64 a2, .int .i64 a3], .int .i64 0]) ∧ Below V.heap.size V w' :=
    fun A c V hE hc hc2 => hLines_at A c _ (putLs a0 a1 a2 a3 ++ E1) V (by rw [List.length_append, hpl]) hE (hpb.append s1) hc hc2 (by omega) hbk.1 _ hbk.2
  have q3 := eqL_same a0 a1 a2 a3
  have q4 := eqgL a0 a1 a2 a3
  generalize putLs a0 a1 a2 a3 = ps at *
  have b0 : Below W.heap.size W (W.alloc (.cells #[.int .i64 a0, .int .i64 a1, .int .i64 a2, .int .i64 a3] 50)) := (Below.refl _ _).alloc (Nat.le_refl _) _
  have X0 : Blk (W.alloc (.cells #[.int .i64 a0, .int .i64 a1, .int .i64 a2, .int .i64 a3] 50)) W.heap.size 50 #[.int .i64 a0, .int .i64 a1, .int .i64 a2, .int .i64 a3] := Blk.new _ _ _
  have HB := Lib.hid (And.intro b0 X0)
  have HPB := Lib.hid hpb
  have HPL := Lib.hid hpl
  have HS1 := Lib.hid s1
  have HL1 := Lib.hid l1
  obtain ⟨i0, hi, hz0, hz1, hz2⟩ := info_parts u8Info
  clear hmay b0 X0 hpb hpl hbk s1 l1
  go_enter Try.func6, Try.ntmps6
  go_wp2_with (first | (go_at_call 19; ((with_reducible refine (C1 _).mono ?_); rintro e w1 ⟨A7, c7, rfl, l7, hc7, hcap7, b1⟩; have B1 := HB.out.1.trans (b1.mono HB.out.1.size); have X1 := HB.out.2.below b1)) | (go_at_call 9; ((with_reducible refine (lives5 _).mono ?_); rintro e w2 ⟨rfl, b2⟩; have B2 := B1.trans (b2.mono B1.size); have Yx := X1.below b2; have yx_0 := Yx.cell 0; rw [show (#[.int .i64 a0, .int .i64 a1, .int .i64 a2, .int .i64 a3] : Array Value)[0]? = some (.int .i64 a0) from rfl] at yx_0; have yx_1 := Yx.cell 1; rw [show (#[.int .i64 a0, .int .i64 a1, .int .i64 a2, .int .i64 a3] : Array Value)[1]? = some (.int .i64 a1) from rfl] at yx_1; have yx_2 := Yx.cell 2; rw [show (#[.int .i64 a0, .int .i64 a1, .int .i64 a2, .int .i64 a3] : Array Value)[2]? = some (.int .i64 a2) from rfl] at yx_2; have yx_3 := Yx.cell 3; rw [show (#[.int .i64 a0, .int .i64 a1, .int .i64 a2, .int .i64 a3] : Array Value)[3]? = some (.int .i64 a3) from rfl] at yx_3)) | (go_at_call 20; ((with_reducible refine (C2 _).mono ?_); rintro e w3 ⟨rfl, b3⟩; have B3 := B2.trans (b3.mono B2.size); have b13 := b2.trans (b3.mono b2.size); have l73 := (l7.below b13).more b13.size; have X3 := Yx.below b3)) | (at_builtin; refine wpList_append_src_wide _ rfl (.tmp 27) (.tmp 28) 26 rfl w3.heap.size 5 i0 (.int .u8 0) 1 1 Try.underlying26 hi hz0 hz1 hz2 rfl (by decide) (.slice (some ⟨w3.heap.size, 0, none⟩) 0 0) 0 [] rfl (own_new w3) _ A7 36 c7 ps rfl (l73.alloc (Nat.le_refl _) _) (by rw [HPL.out]) HPB.out.one (by simp only [maxLen]; omega) (by omega) (by simp) ?_; intro v4 w4 own4 hg4; rw [Nat.zero_add, List.nil_append] at own4; have b34 : Below w3.heap.size w3 w4 := ((Below.refl _ _).alloc (Nat.le_refl _) _).grown hg4 (by simp) (fun b hb => by simp [Value.ownBlock] at hb; omega); have B4 := B3.trans (b34.mono B3.size)) | (at_builtin; refine wpList_append_src_wide _ rfl (.tmp 29) (.tmp 30) 26 rfl w3.heap.size 5 i0 (.int .u8 0) 1 1 Try.underlying26 hi hz0 hz1 hz2 rfl (by decide) v4 36 ps rfl own4 _ A1 E1.length c1 E1 rfl (HL1.out.below B4) (by simp) HS1.out.one (by simp only [maxLen]; omega) (by omega) b34.size ?_; intro v5 w5 own5 hg5; have b35 : Below w3.heap.size w3 w5 := b34.grown hg5 b34.size (fun b hb => own_low own4 b (by simp [blk, hb])); have B5 := B3.trans (b35.mono B3.size); obtain ⟨A9, c9, rfl, l9, hc9⟩ := own_lists own5; have hcap := own_cap own5; have l75 := (l73.below b35).more b35.size; have X5 := X3.below b35) | (go_at_call 21; ((with_reducible refine (C4 A9 c9 _ l9 hc9 hcap).mono ?_); rintro e w6 ⟨rfl, b6⟩; have B6 := B5.trans (b6.mono B5.size); have l76 := (l75.below b6).more b6.size; have al6 : Below w6.heap.size w6 (w6.alloc (.cells #[.int .i64 a0, .int .i64 a1, .int .i64 a2, .int .i64 a3] 50)) := (Below.refl _ _).alloc (Nat.le_refl _) _; have l77 := (l76.below al6).more al6.size; have P6 : Blk (w6.alloc (.cells #[.int .i64 a0, .int .i64 a1, .int .i64 a2, .int .i64 a3] 50)) W.heap.size 50 #[.int .i64 a0, .int .i64 a1, .int .i64 a2, .int .i64 a3] := (X5.below b6).below al6; have Q6 : Blk (w6.alloc (.cells #[.int .i64 a0, .int .i64 a1, .int .i64 a2, .int .i64 a3] 50)) w6.heap.size 50 #[.int .i64 a0, .int .i64 a1, .int .i64 a2, .int .i64 a3] := Blk.new _ _ _; have B7 := B6.trans (al6.mono B6.size))) | (refine wpList_store_row rfl 50 (.tmp 7) (.tmp 33) (by with_reducible rfl) w6.heap.size #[.int .i64 a0, .int .i64 a1, .int .i64 a2, .int .i64 a3] (by rfl) (by rfl) 50 #[.int .i64 0, .int .i64 0, .int .i64 0, .int .i64 0] (Blk.new _ _ _) sizL rfl (by simp [Value.oneCell']) ?_; rw [World.setRow_alloc_new]))
  have hI : Below (w6.alloc (.cells #[.int .i64 a0, .int .i64 a1, .int .i64 a2, .int .i64 a3] 50)).heap.size (w6.alloc (.cells #[.int .i64 a0, .int .i64 a1, .int .i64 a2, .int .i64 a3] 50)) (w6.alloc (.cells #[.int .i64 a0, .int .i64 a1, .int .i64 a2, .int .i64 a3] 50)).drew := (Below.refl _ _).drew
  generalize w6.alloc (.cells #[.int .i64 a0, .int .i64 a1, .int .i64 a2, .int .i64 a3] 50) = w7 at *
  refine wp_region_chain (fun V => Below w7.heap.size w7 V) [(0, false), (1, false), (2, false), (3, false), (4, false), (5, false), (6, true), (7, true), (8, false), (9, false), (10, false), (11, false), (12, false), (13, false), (14, false), (15, false), (16, false), (17, false), (18, false), (19, false)] (by kernel_rfl) (by kernel_rfl) hI ?_
  repeat (first
    | (refine ChainL.skip (o := ?_) ?_ ?_ ?_; rotate_left; (focus (first | (simp only [List.getElem?_toArray, List.getElem?_cons_succ, List.getElem?_cons_zero]; with_reducible rfl) | (simp only [List.getElem?_toArray, List.getElem?_cons_zero]; with_reducible rfl))); (focus rfl); simp only [Act.put, List.setIfInBounds_toArray, List.set_cons_zero, List.set_cons_succ])
    | (refine ChainL.val (o := ?_) (v := ?_) ?_ ?_ ?_ ?_ ?_; rotate_left 2; (focus (first | (simp only [List.getElem?_toArray, List.getElem?_cons_succ, List.getElem?_cons_zero]; with_reducible rfl) | (simp only [List.getElem?_toArray, List.getElem?_cons_zero]; with_reducible rfl))); (focus (intro _ _ h; cases h)); (focus rfl); (focus (intro w' hJ; have q1 := conv_lists (c := c7) (l77.below hJ) HPL.out HPB.out; have Yp := P6.below hJ; have yp_0 := Yp.cell 0; rw [show (#[.int .i64 a0, .int .i64 a1, .int .i64 a2, .int .i64 a3] : Array Value)[0]? = some (.int .i64 a0) from rfl] at yp_0; have yp_1 := Yp.cell 1; rw [show (#[.int .i64 a0, .int .i64 a1, .int .i64 a2, .int .i64 a3] : Array Value)[1]? = some (.int .i64 a1) from rfl] at yp_1; have yp_2 := Yp.cell 2; rw [show (#[.int .i64 a0, .int .i64 a1, .int .i64 a2, .int .i64 a3] : Array Value)[2]? = some (.int .i64 a2) from rfl] at yp_2; have yp_3 := Yp.cell 3; rw [show (#[.int .i64 a0, .int .i64 a1, .int .i64 a2, .int .i64 a3] : Array Value)[3]? = some (.int .i64 a3) from rfl] at yp_3; have Yq := Q6.below hJ; have yq_0 := Yq.cell 0; rw [show (#[.int .i64 a0, .int .i64 a1, .int .i64 a2, .int .i64 a3] : Array Value)[0]? = some (.int .i64 a0) from rfl] at yq_0; have yq_1 := Yq.cell 1; rw [show (#[.int .i64 a0, .int .i64 a1, .int .i64 a2, .int .i64 a3] : Array Value)[1]? = some (.int .i64 a1) from rfl] at yq_1; have yq_2 := Yq.cell 2; rw [show (#[.int .i64 a0, .int .i64 a1, .int .i64 a2, .int .i64 a3] : Array Value)[2]? = some (.int .i64 a2) from rfl] at yq_2; have yq_3 := Yq.cell 3; rw [show (#[.int .i64 a0, .int .i64 a1, .int .i64 a2, .int .i64 a3] : Array Value)[3]? = some (.int .i64 a3) from rfl] at yq_3; go_simp <;> with_reducible rfl)); simp only [Act.put, List.setIfInBounds_toArray, List.set_cons_zero, List.set_cons_succ]))
  refine ChainL.call (o := ?_) (f := ?_) (args := ?_) ?_ ?_ ?_ ?_
  rotate_left 3
  (focus (simp only [List.getElem?_toArray, List.getElem?_cons_succ, List.getElem?_cons_zero]; with_reducible rfl))
  (focus rfl)
  (focus (go_simp; (constructor <;> with_reducible rfl)))
  refine (C3 _).mono ?_
  rintro e w8 ⟨A8, c8, rfl, l8, hc8, bw8⟩
  have b78 := hI.trans (bw8.mono hI.size)
  refine ⟨_, rfl, b78, ?_⟩
  simp only [Act.put, List.setIfInBounds_toArray, List.set_cons_zero, List.set_cons_succ]
  have q2 := conv_lists (c := c8) l8 HPL.out HPB.out
  refine ChainL.does (o := ?_) (v := ?_) (w1 := ?_) ?_ ?_ ?_ ?_ ?_
  rotate_left 3
  (focus (simp only [List.getElem?_toArray, List.getElem?_cons_succ, List.getElem?_cons_zero]; with_reducible rfl))
  (focus rfl)
  (focus (go_simp; (constructor <;> with_reducible rfl)))
  exact b78
  simp only [Act.put, List.setIfInBounds_toArray, List.set_cons_zero, List.set_cons_succ]
  repeat (first
    | (refine ChainL.skip (o := ?_) ?_ ?_ ?_; rotate_left; (focus (first | (simp only [List.getElem?_toArray, List.getElem?_cons_succ, List.getElem?_cons_zero]; with_reducible rfl) | (simp only [List.getElem?_toArray, List.getElem?_cons_zero]; with_reducible rfl))); (focus rfl); simp only [Act.put, List.setIfInBounds_toArray, List.set_cons_zero, List.set_cons_succ])
    | (refine ChainL.val (o := ?_) (v := ?_) ?_ ?_ ?_ ?_ ?_; rotate_left 2; (focus (first | (simp only [List.getElem?_toArray, List.getElem?_cons_succ, List.getElem?_cons_zero]; with_reducible rfl) | (simp only [List.getElem?_toArray, List.getElem?_cons_zero]; with_reducible rfl))); (focus (intro _ _ h; cases h)); (focus rfl); (focus (intro w' hJ; have Yp := P6.below hJ; have yp_0 := Yp.cell 0; rw [show (#[.int .i64 a0, .int .i64 a1, .int .i64 a2, .int .i64 a3] : Array Value)[0]? = some (.int .i64 a0) from rfl] at yp_0; have yp_1 := Yp.cell 1; rw [show (#[.int .i64 a0, .int .i64 a1, .int .i64 a2, .int .i64 a3] : Array Value)[1]? = some (.int .i64 a1) from rfl] at yp_1; have yp_2 := Yp.cell 2; rw [show (#[.int .i64 a0, .int .i64 a1, .int .i64 a2, .int .i64 a3] : Array Value)[2]? = some (.int .i64 a2) from rfl] at yp_2; have yp_3 := Yp.cell 3; rw [show (#[.int .i64 a0, .int .i64 a1, .int .i64 a2, .int .i64 a3] : Array Value)[3]? = some (.int .i64 a3) from rfl] at yp_3; have Yq := Q6.below hJ; have yq_0 := Yq.cell 0; rw [show (#[.int .i64 a0, .int .i64 a1, .int .i64 a2, .int .i64 a3] : Array Value)[0]? = some (.int .i64 a0) from rfl] at yq_0; have yq_1 := Yq.cell 1; rw [show (#[.int .i64 a0, .int .i64 a1, .int .i64 a2, .int .i64 a3] : Array Value)[1]? = some (.int .i64 a1) from rfl] at yq_1; have yq_2 := Yq.cell 2; rw [show (#[.int .i64 a0, .int .i64 a1, .int .i64 a2, .int .i64 a3] : Array Value)[2]? = some (.int .i64 a2) from rfl] at yq_2; have yq_3 := Yq.cell 3; rw [show (#[.int .i64 a0, .int .i64 a1, .int .i64 a2, .int .i64 a3] : Array Value)[3]? = some (.int .i64 a3) from rfl] at yq_3; go_simp <;> with_reducible rfl)); simp only [Act.put, List.setIfInBounds_toArray, List.set_cons_zero, List.set_cons_succ]))
  refine ChainL.nil ?_
  go_wp2
  go_ret
  exact ⟨rfl, B7.trans (b78.mono B7.size)⟩

theorem walk (a0 a1 a2 a3 : Int) (A1 : Option Addr) (c1 : Nat) (E1 : List Value) (k1 : E1.length ≤ c1) (m1 : c1 ≤ 9223372036854775807) (l1 : Lists W W.heap.size A1 E1) (s1 : Bytes8 E1) (t1 : E1.length ≤ 140737488351232) : Calls Try.prog 6 #[.agg #[.int .i64 a0, .int .i64 a1, .int .i64 a2, .int .i64 a3], .slice A1 E1.length c1] W fun e w' => e = .returned (.bool true) ∧ Below W.heap.size W w' := by
  cases hmay : mayL a0 a1 a2 a3
  · exact walk_no a0 a1 a2 a3 _ hmay
  · exact walk_yes a0 a1 a2 a3 A1 c1 E1 k1 m1 l1 s1 t1 hmay

set_option linter.unusedVariables false in
set_option maxRecDepth 100000 in
theorem lifted (os : Os) (started : os.Started) (H : Type) (enc : TypeId × Value → H) :
    ReturnsInHanded {} Try.checked os 6 .any (Rows.headsLinesSpec.pre6 enc Try.prog Try.f6 Rows.headsLinesRow.domain false) (Rows.headsLinesSpec.post enc Try.prog Try.f6 false true false false) := by
  refine returnsInHanded_of_change_sized (C := Try.checked) Try.own started (by kernel_rfl) Try.func6
    (ChangeSpec.witness6 (enc := enc) (C := Try.checked) false ⟨#[], #[.agg #[.int .i64 0, .int .i64 0, .int .i64 0, .int .i64 0], .slice none 0 0], []⟩ 8 (by kernel_rfl) (by kernel_rfl) (by kernel_rfl) (by kernel_rfl)) ?_
  intro W base args ds gs before hval0 hW hcnd hsz0 _
  have hsz : (DataW.weightsEach Try.prog (Try.f6.params.toList ++ Rows.headsLinesSpec.plain.varTypes Try.prog) (ds ++ gs)).all (· ≤ reachBytes) = true := hsz0
  have hval : ∀ (j : Nat) t v, Try.f6.params[j]? = some t → args[j]? = some v → Value.okWide Try.prog W .any base t v := hval0
  have hW' := hW
  obtain ⟨p, q, hA0, hV, rfl, hfz, hnd⟩ := hW
  have hA : DataW.TrodAll enc Try.prog W 0 (fun _ => true) true Try.f6.params.toList args.toList ds p := hA0
  rw [Try.params6] at hA hval hsz
  obtain ⟨v0, vs0, d0, ds0, p0, q0, hargs, rfl, rfl, h0, r0⟩ := trodAll_cons hA
  obtain ⟨v1, vs1, d1, ds1, p1, q1, rfl, rfl, rfl, h1, r1⟩ := trodAll_cons r0
  obtain ⟨rfl, rfl, rfl⟩ := trodAll_nil r1
  obtain rfl : args = #[v0, v1] := by cases args; simp_all
  obtain ⟨rfl, rfl⟩ := trodVars_none hV
  obtain ⟨x0, x1, x2, x3, rfl⟩ := open_lines (hval 0 50 v0 rfl rfl) h0
  have hz1 : ∀ m ∈ d1.weights Try.prog 26, m ≤ reachBytes := fun m hm => of_decide_eq_true (List.all_eq_true.1 hsz m (DataW.weights_mem_each (j := 1) rfl rfl m hm))
  obtain ⟨A1, c1, E1, rfl, k1, m1, l1, s1, t1⟩ := open_bytes_less Try.underlying26 Try.underlying5 (by kernel_rfl) (by kernel_rfl) (hval 1 26 v1 rfl rfl) h1 hz1
  clear hA0 hval0
  simp only [List.append_nil] at hW'
  refine (walk (W := W) x0 x1 x2 x3 A1 c1 E1 k1 m1 l1 s1 t1).mono fun e W' ⟨he, hg⟩ => ?_
  subst he
  exact ⟨_, rfl, law_post Try.laidOut rfl Try.underlying4 (by kernel_rfl) rfl rfl rfl rfl hW' hg⟩

theorem over : Rows.headsLinesRow.holds Try.pinned (OpenSpec.ofChange Rows.headsLinesSpec) :=
  OpenClaim.holds_of_wide 6 Try.f6 rfl rfl rfl rfl rfl rfl rfl ⟨rfl, rfl, rfl, rfl, rfl⟩ rfl rfl rfl rfl rfl (by kernel_rfl) Try.func6 (by kernel_rfl)
    (of_decide_eq_true (by kernel_rfl)) (by unfold Func.isWrapper; first | (rw [if_pos (by decide +kernel)]; kernel_rfl) | (rw [if_neg (by decide +kernel)]; exact ⟨rfl, rfl⟩))
    (fun os started H enc _ => lifted os started H enc)

theorem proved : Rows.HeadsLinesSaid :=
  over

end Go.Proofs.Ytbomgaacahaofaa.headsLines
