/- HeadsGlyphs: the table of any glyphs, read again; what any bytes are as one; no condition but what the row prints. -/
import Derived.Test.YtbomgaacahaofaaM1HeadsGlyphs

namespace Go.Proofs.Ytbomgaacahaofaa.headsGlyphs
open Go.ChangeShapes Go.WideShapes Go.ChangeAt Go.RowKit

set_option linter.unusedVariables false
variable {W : World}
theorem neqG_same (a0 : Int) (b1 : Bool) (w : World) : (binOp .neq 40 (.agg #[.int .i64 a0, .bool b1]) (.agg #[.int .i64 a0, .bool b1])).run Try.prog w = .ok (.bool false) w := by
  have hS : Try.prog.underlying 40 = some (.struct (Try.prog.fieldsOf 40)) := by kernel_rfl
  have hp : Try.prog.stoodInHeld 40 = false := by kernel_rfl
  have u3 := Try.underlying3
  have a3 := Try.isAgg3
  have z3 := Try.sizeOf3
  have u4 := Try.underlying4
  have a4 := Try.isAgg4
  have z4 := Try.sizeOf4
  rw [run_neq_struct, show (10000 : Nat) = 9999 + 1 from rfl, run_equalIn_agg w 9999 40 _ _ hS hp]
  simp only [Program.fieldsOf, Try.underlying40]
  go_simp
theorem neqgG (a0 : Int) (b1 : Bool) (x y : Operand) (w : World) : (eqGuard .neq 40 x y (.agg #[.int .i64 a0, .bool b1]) (.agg #[.int .i64 a0, .bool b1])).run Try.prog w = .ok () w :=
  run_eqGuard_agg w .neq 40 x y _ _ (by kernel_rfl)
set_option maxRecDepth 100000 in
set_option maxHeartbeats 16000000 in
theorem walk_nn (a0 : Int) (b1 : Bool) (A1 : Option Addr) (c1 : Nat) (E1 : List Value) (k1 : E1.length ≤ c1) (m1 : c1 ≤ 9223372036854775807) (l1 : Lists W W.heap.size A1 E1) (s1 : Bytes8 E1) (t1 : E1.length ≤ 140737488351232) (hok : okG E1 = false) (hmay : mayG a0 = false) : Calls Try.prog 5 #[.agg #[.int .i64 a0, .bool b1], .slice A1 E1.length c1] W fun e w' => e = .returned (.bool true) ∧ Below W.heap.size W w' := by
  have C := fun A c V hE hc hc2 => hGlyphs_no A c E1 V hE s1 hc hc2 (show E1.length ≤ 140737488355328 by omega) hok
  unfold zG at C
  have CR : ∀ V, Below W.heap.size W V → Calls Try.prog 16 #[.slice A1 E1.length c1] V fun e w' => e = .returned (.tuple #[.agg #[.int .i64 0, .bool false], .bool false]) ∧ Below V.heap.size V w' := by
    intro V hb
    refine (rGlyphs_any A1 c1 E1 V ((l1.below hb).more hb.size) s1 k1 m1 (by omega)).mono fun e w' h => ?_
    unfold GotRef at h
    rw [hok, if_neg (by simp)] at h
    exact h
  have C2 := fun V => rMayGlyphs a0 b1 V
  rw [hmay] at C2
  have q1 := neqG_same 0 false
  have q2 := neqgG 0 false
  have q3 := eqG_same a0 b1
  have q4 := eqgG a0 b1
  have C1 := fun V => hPutGlyphs_no a0 b1 V hmay
  have b0 : Below W.heap.size W (W.alloc (.cells #[.int .i64 a0, .bool b1] 40)) := (Below.refl _ _).alloc (Nat.le_refl _) _
  have X0 : Blk (W.alloc (.cells #[.int .i64 a0, .bool b1] 40)) W.heap.size 40 #[.int .i64 a0, .bool b1] := Blk.new _ _ _
  have HB := Lib.hid (And.intro b0 X0)
  have HS1 := Lib.hid s1
  have HL1 := Lib.hid l1
  obtain ⟨i0, hi, hz0, hz1, hz2⟩ := info_parts u8Info
  clear hmay hok  b0 X0 s1 l1
  go_enter Try.func5, Try.ntmps5
  go_wp2_with (first | (go_at_call 14; ((with_reducible refine (C1 _).mono ?_); rintro e w1 ⟨rfl, bp1⟩; have B1 := HB.out.1.trans (bp1.mono HB.out.1.size); have X1 := HB.out.2.below bp1)) | (at_builtin; refine wpList_append_src_wide _ rfl (.tmp 19) (.tmp 20) 26 rfl w1.heap.size 5 i0 (.int .u8 0) 1 1 Try.underlying26 hi hz0 hz1 hz2 rfl (by decide) (.slice (some ⟨w1.heap.size, 0, none⟩) 0 0) 0 [] rfl (own_new w1) _ A1 E1.length c1 E1 rfl ((HL1.out.below B1).alloc B1.size _) (by simp) HS1.out.one (by simp only [maxLen]; omega) (by omega) (by simp) ?_; intro v2 w2 own2 hg2; rw [Nat.zero_add, List.nil_append] at own2; have b12 : Below w1.heap.size w1 w2 := ((Below.refl _ _).alloc (Nat.le_refl _) _).grown hg2 (by simp) (fun b hb => by simp [Value.ownBlock] at hb; omega); have B2 := B1.trans (b12.mono B1.size); have X2 := X1.below b12; obtain ⟨A2, c2, rfl, l2, hc2⟩ := own_lists own2; have hcap2 := own_cap own2) | (go_at_call 15; ((with_reducible refine (C A2 c2 _ l2 hc2 hcap2).mono ?_); rintro e w3 ⟨rfl, bp3⟩; have B3 := B2.trans (bp3.mono B2.size); have al3 : Below w3.heap.size w3 (w3.alloc (.cells #[.int .i64 0, .bool false] 40)) := (Below.refl _ _).alloc (Nat.le_refl _) _; have B3a := B3.trans (al3.mono B3.size); have b23 := bp3.trans (al3.mono bp3.size); have X3 := X2.below b23; have Z3 : Blk (w3.alloc (.cells #[.int .i64 0, .bool false] 40)) w3.heap.size 40 #[.int .i64 0, .bool false] := Blk.new _ _ _)) | (refine wpList_store_row rfl 40 (.tmp 7) (.tmp 23) (by with_reducible rfl) w3.heap.size #[.int .i64 0, .bool false] (by rfl) (by rfl) 40 #[.int .i64 0, .bool false] (Blk.new _ _ _) sizG rfl (by simp [Value.oneCell']) ?_; rw [World.setRow_alloc_new]) | (go_at_call 16; ((with_reducible refine (CR _ B3a).mono ?_); rintro e w4 ⟨rfl, bp4⟩; have B4 := B3a.trans (bp4.mono B3a.size); have al4 : Below w4.heap.size w4 (w4.alloc (.cells #[.int .i64 0, .bool false] 40)) := (Below.refl _ _).alloc (Nat.le_refl _) _; have B4a := B4.trans (al4.mono B4.size); have b34 := bp4.trans (al4.mono bp4.size); have X4 := X3.below b34; have Z34 := Z3.below b34; have Z4 : Blk (w4.alloc (.cells #[.int .i64 0, .bool false] 40)) w4.heap.size 40 #[.int .i64 0, .bool false] := Blk.new _ _ _)) | (refine wpList_store_row rfl 40 (.tmp 9) (.tmp 28) (by with_reducible rfl) w4.heap.size #[.int .i64 0, .bool false] (by rfl) (by rfl) 40 #[.int .i64 0, .bool false] (Blk.new _ _ _) sizG rfl (by simp [Value.oneCell']) ?_; rw [World.setRow_alloc_new]) | (go_at_call 9; ((with_reducible refine (lives5 _).mono ?_); rintro e w5 ⟨rfl, bp5⟩; have B5 := B4a.trans (bp5.mono B4a.size); have Yx := X4.below bp5; have Yu := Z34.below bp5; have Yv := Z4.below bp5; have yx_0 := Yx.cell 0; rw [show (#[.int .i64 a0, .bool b1] : Array Value)[0]? = some (.int .i64 a0) from rfl] at yx_0; have yx_1 := Yx.cell 1; rw [show (#[.int .i64 a0, .bool b1] : Array Value)[1]? = some (.bool b1) from rfl] at yx_1; have yu_0 := Yu.cell 0; rw [show (#[.int .i64 0, .bool false] : Array Value)[0]? = some (.int .i64 0) from rfl] at yu_0; have yu_1 := Yu.cell 1; rw [show (#[.int .i64 0, .bool false] : Array Value)[1]? = some (.bool false) from rfl] at yu_1; have yv_0 := Yv.cell 0; rw [show (#[.int .i64 0, .bool false] : Array Value)[0]? = some (.int .i64 0) from rfl] at yv_0; have yv_1 := Yv.cell 1; rw [show (#[.int .i64 0, .bool false] : Array Value)[1]? = some (.bool false) from rfl] at yv_1)) | (go_at_call 17; ((with_reducible refine (C2 _).mono ?_); rintro e w6 ⟨rfl, bp6⟩; have B6 := B5.trans (bp6.mono B5.size); have X6 := Yx.below bp6)))
  go_ret
  exact ⟨rfl, B6⟩

set_option maxRecDepth 100000 in
set_option maxHeartbeats 16000000 in
theorem walk_ny (a0 : Int) (b1 : Bool) (A1 : Option Addr) (c1 : Nat) (E1 : List Value) (k1 : E1.length ≤ c1) (m1 : c1 ≤ 9223372036854775807) (l1 : Lists W W.heap.size A1 E1) (s1 : Bytes8 E1) (t1 : E1.length ≤ 140737488351232) (hok : okG E1 = false) (hmay : mayG a0 = true) : Calls Try.prog 5 #[.agg #[.int .i64 a0, .bool b1], .slice A1 E1.length c1] W fun e w' => e = .returned (.bool true) ∧ Below W.heap.size W w' := by
  have C := fun A c V hE hc hc2 => hGlyphs_no A c E1 V hE s1 hc hc2 (show E1.length ≤ 140737488355328 by omega) hok
  unfold zG at C
  have CR : ∀ V, Below W.heap.size W V → Calls Try.prog 16 #[.slice A1 E1.length c1] V fun e w' => e = .returned (.tuple #[.agg #[.int .i64 0, .bool false], .bool false]) ∧ Below V.heap.size V w' := by
    intro V hb
    refine (rGlyphs_any A1 c1 E1 V ((l1.below hb).more hb.size) s1 k1 m1 (by omega)).mono fun e w' h => ?_
    unfold GotRef at h
    rw [hok, if_neg (by simp)] at h
    exact h
  have C2 := fun V => rMayGlyphs a0 b1 V
  rw [hmay] at C2
  have q1 := neqG_same 0 false
  have q2 := neqgG 0 false
  have q3 := eqG_same a0 b1
  have q4 := eqgG a0 b1
  have hlen := putGs_len a0 b1
  have hln : (putGs a0 b1).length ≤ 32 := by rw [hlen]; cases b1 <;> decide
  have C3 : ∀ V, Calls Try.prog 18 #[.agg #[.int .i64 a0, .bool b1]] V (GaveR V (putGs a0 b1)) := fun V => rPutGlyphs_any a0 b1 V
  have C1 : ∀ V, Calls Try.prog 14 #[.agg #[.int .i64 a0, .bool b1]] V (GaveL V (putGs a0 b1).length (putGs a0 b1)) := fun V => (hPutGlyphs_yes a0 b1 V hmay).mono fun e w' h => h.l rfl
  have hpb : Bytes8 (putGs a0 b1) := putGs_bytes a0 b1
  have hbk := backG a0 b1 E1 hmay
  have C4 : ∀ A c V, Lists V V.heap.size A (putGs a0 b1 ++ E1) → (putGs a0 b1).length + E1.length ≤ c → c ≤ 9223372036854775807 → Calls Try.prog 15 #[.slice A ((putGs a0 b1).length + E1.length) c] V fun e w' => e = .returned (.tuple #[.agg #[.int .i64 a0, .bool b1], .int .i64 0]) ∧ Below V.heap.size V w' :=
    fun A c V hE hc hc2 => hGlyphs_at A c _ (putGs a0 b1 ++ E1) V (by rw [List.length_append]) hE (hpb.append s1) hc hc2 (by omega) hbk.1 _ hbk.2
  clear hbk hlen
  unfold GaveR at C3
  obtain ⟨ln, hpl⟩ : ∃ ln, (putGs a0 b1).length = ln := ⟨_, rfl⟩
  rw [hpl] at hln C1 C4
  simp only [hpl] at C3
  generalize putGs a0 b1 = ps at *
  have HPB := Lib.hid hpb
  have HPL := Lib.hid hpl
  clear hpb hpl
  have b0 : Below W.heap.size W (W.alloc (.cells #[.int .i64 a0, .bool b1] 40)) := (Below.refl _ _).alloc (Nat.le_refl _) _
  have X0 : Blk (W.alloc (.cells #[.int .i64 a0, .bool b1] 40)) W.heap.size 40 #[.int .i64 a0, .bool b1] := Blk.new _ _ _
  have HB := Lib.hid (And.intro b0 X0)
  have HS1 := Lib.hid s1
  have HL1 := Lib.hid l1
  obtain ⟨i0, hi, hz0, hz1, hz2⟩ := info_parts u8Info
  clear hmay hok  b0 X0 s1 l1
  go_enter Try.func5, Try.ntmps5
  go_wp2_with (first | (go_at_call 14; ((with_reducible refine (C1 _).mono ?_); rintro e w1 ⟨A7, c7, rfl, l7, hc7, hcap7, bp1⟩; have B1 := HB.out.1.trans (bp1.mono HB.out.1.size); have X1 := HB.out.2.below bp1)) | (at_builtin; refine wpList_append_src_wide _ rfl (.tmp 19) (.tmp 20) 26 rfl w1.heap.size 5 i0 (.int .u8 0) 1 1 Try.underlying26 hi hz0 hz1 hz2 rfl (by decide) (.slice (some ⟨w1.heap.size, 0, none⟩) 0 0) 0 [] rfl (own_new w1) _ A1 E1.length c1 E1 rfl ((HL1.out.below B1).alloc B1.size _) (by simp) HS1.out.one (by simp only [maxLen]; omega) (by omega) (by simp) ?_; intro v2 w2 own2 hg2; rw [Nat.zero_add, List.nil_append] at own2; have b12 : Below w1.heap.size w1 w2 := ((Below.refl _ _).alloc (Nat.le_refl _) _).grown hg2 (by simp) (fun b hb => by simp [Value.ownBlock] at hb; omega); have B2 := B1.trans (b12.mono B1.size); have X2 := X1.below b12; obtain ⟨A2, c2, rfl, l2, hc2⟩ := own_lists own2; have hcap2 := own_cap own2; have l7b := (l7.below b12).more b12.size) | (go_at_call 15; ((with_reducible refine (C A2 c2 _ l2 hc2 hcap2).mono ?_); rintro e w3 ⟨rfl, bp3⟩; have B3 := B2.trans (bp3.mono B2.size); have al3 : Below w3.heap.size w3 (w3.alloc (.cells #[.int .i64 0, .bool false] 40)) := (Below.refl _ _).alloc (Nat.le_refl _) _; have B3a := B3.trans (al3.mono B3.size); have b23 := bp3.trans (al3.mono bp3.size); have X3 := X2.below b23; have Z3 : Blk (w3.alloc (.cells #[.int .i64 0, .bool false] 40)) w3.heap.size 40 #[.int .i64 0, .bool false] := Blk.new _ _ _; have l7c := (l7b.below b23).more b23.size)) | (refine wpList_store_row rfl 40 (.tmp 7) (.tmp 23) (by with_reducible rfl) w3.heap.size #[.int .i64 0, .bool false] (by rfl) (by rfl) 40 #[.int .i64 0, .bool false] (Blk.new _ _ _) sizG rfl (by simp [Value.oneCell']) ?_; rw [World.setRow_alloc_new]) | (go_at_call 16; ((with_reducible refine (CR _ B3a).mono ?_); rintro e w4 ⟨rfl, bp4⟩; have B4 := B3a.trans (bp4.mono B3a.size); have al4 : Below w4.heap.size w4 (w4.alloc (.cells #[.int .i64 0, .bool false] 40)) := (Below.refl _ _).alloc (Nat.le_refl _) _; have B4a := B4.trans (al4.mono B4.size); have b34 := bp4.trans (al4.mono bp4.size); have X4 := X3.below b34; have Z34 := Z3.below b34; have Z4 : Blk (w4.alloc (.cells #[.int .i64 0, .bool false] 40)) w4.heap.size 40 #[.int .i64 0, .bool false] := Blk.new _ _ _; have l7d := (l7c.below b34).more b34.size)) | (refine wpList_store_row rfl 40 (.tmp 9) (.tmp 28) (by with_reducible rfl) w4.heap.size #[.int .i64 0, .bool false] (by rfl) (by rfl) 40 #[.int .i64 0, .bool false] (Blk.new _ _ _) sizG rfl (by simp [Value.oneCell']) ?_; rw [World.setRow_alloc_new]) | (go_at_call 9; ((with_reducible refine (lives5 _).mono ?_); rintro e w5 ⟨rfl, bp5⟩; have B5 := B4a.trans (bp5.mono B4a.size); have Yx := X4.below bp5; have Yu := Z34.below bp5; have Yv := Z4.below bp5; have yx_0 := Yx.cell 0; rw [show (#[.int .i64 a0, .bool b1] : Array Value)[0]? = some (.int .i64 a0) from rfl] at yx_0; have yx_1 := Yx.cell 1; rw [show (#[.int .i64 a0, .bool b1] : Array Value)[1]? = some (.bool b1) from rfl] at yx_1; have yu_0 := Yu.cell 0; rw [show (#[.int .i64 0, .bool false] : Array Value)[0]? = some (.int .i64 0) from rfl] at yu_0; have yu_1 := Yu.cell 1; rw [show (#[.int .i64 0, .bool false] : Array Value)[1]? = some (.bool false) from rfl] at yu_1; have yv_0 := Yv.cell 0; rw [show (#[.int .i64 0, .bool false] : Array Value)[0]? = some (.int .i64 0) from rfl] at yv_0; have yv_1 := Yv.cell 1; rw [show (#[.int .i64 0, .bool false] : Array Value)[1]? = some (.bool false) from rfl] at yv_1; have l7e := (l7d.below bp5).more bp5.size)) | (go_at_call 17; ((with_reducible refine (C2 _).mono ?_); rintro e w6 ⟨rfl, bp6⟩; have B6 := B5.trans (bp6.mono B5.size); have X6 := Yx.below bp6; have l7f := (l7e.below bp6).more bp6.size)) | (at_builtin; refine wpList_append_src_wide _ rfl (.tmp 62) (.tmp 63) 26 rfl w6.heap.size 5 i0 (.int .u8 0) 1 1 Try.underlying26 hi hz0 hz1 hz2 rfl (by decide) (.slice (some ⟨w6.heap.size, 0, none⟩) 0 0) 0 [] rfl (own_new w6) _ A7 ln c7 ps rfl (l7f.alloc (Nat.le_refl _) _) (by rw [HPL.out, Nat.mul_one]) HPB.out.one (by simp only [maxLen]; omega) (by omega) (by simp) ?_; intro v7 w7 own7 hg7; rw [Nat.zero_add, List.nil_append] at own7; have b67 : Below w6.heap.size w6 w7 := ((Below.refl _ _).alloc (Nat.le_refl _) _).grown hg7 (by simp) (fun b hb => by simp [Value.ownBlock] at hb; omega); have B7 := B6.trans (b67.mono B6.size)) | (at_builtin; refine wpList_append_src_wide _ rfl (.tmp 64) (.tmp 65) 26 rfl w6.heap.size 5 i0 (.int .u8 0) 1 1 Try.underlying26 hi hz0 hz1 hz2 rfl (by decide) v7 ln ps rfl own7 _ A1 E1.length c1 E1 rfl (HL1.out.below B7) (by simp) HS1.out.one (by simp only [maxLen]; omega) (by omega) b67.size ?_; intro v8 w8 own8 hg8; have b68 : Below w6.heap.size w6 w8 := b67.grown hg8 b67.size (fun b hb => own_low own7 b (by simp [blk, hb])); have B8 := B6.trans (b68.mono B6.size); obtain ⟨A9, c9, rfl, l9, hc9⟩ := own_lists own8; have hcap9 := own_cap own8; have l78 := (l7f.below b68).more b68.size; have X8 := X6.below b68) | (go_at_call 15; ((with_reducible refine (C4 A9 c9 _ l9 hc9 hcap9).mono ?_); rintro e w9 ⟨rfl, bp9⟩; have B9 := B8.trans (bp9.mono B8.size); have al9 : Below w9.heap.size w9 (w9.alloc (.cells #[.int .i64 a0, .bool b1] 40)) := (Below.refl _ _).alloc (Nat.le_refl _) _; have b89 := bp9.trans (al9.mono bp9.size); have l79 := (l78.below b89).more b89.size; have P6 : Blk (w9.alloc (.cells #[.int .i64 a0, .bool b1] 40)) W.heap.size 40 #[.int .i64 a0, .bool b1] := X8.below b89; have Q6 : Blk (w9.alloc (.cells #[.int .i64 a0, .bool b1] 40)) w9.heap.size 40 #[.int .i64 a0, .bool b1] := Blk.new _ _ _; have B10 := B9.trans (al9.mono B9.size))) | (refine wpList_store_row rfl 40 (.tmp 11) (.tmp 68) (by with_reducible rfl) w9.heap.size #[.int .i64 a0, .bool b1] (by rfl) (by rfl) 40 #[.int .i64 0, .bool false] (Blk.new _ _ _) sizG rfl (by simp [Value.oneCell']) ?_; rw [World.setRow_alloc_new]))
  have hI : Below (w9.alloc (.cells #[.int .i64 a0, .bool b1] 40)).heap.size (w9.alloc (.cells #[.int .i64 a0, .bool b1] 40)) (w9.alloc (.cells #[.int .i64 a0, .bool b1] 40)).drew := (Below.refl _ _).drew
  generalize (w9.alloc (.cells #[.int .i64 a0, .bool b1] 40)) = w10 at *
  clear q1 q2
  refine wp_region_chain (fun V => Below w10.heap.size w10 V) [(0, false), (1, false), (2, false), (3, false), (4, false), (5, false), (6, true), (7, true), (8, false), (9, false), (10, false), (11, false), (12, false), (13, false), (14, false), (15, false), (16, false), (17, false), (18, false), (19, false)] (by kernel_rfl) (by kernel_rfl) hI ?_
  repeat (first
    | (refine ChainL.skip (o := ?_) ?_ ?_ ?_; rotate_left; (focus (first | (simp only [List.getElem?_toArray, List.getElem?_cons_succ, List.getElem?_cons_zero]; with_reducible rfl) | (simp only [List.getElem?_toArray, List.getElem?_cons_zero]; with_reducible rfl))); (focus rfl); simp only [Act.put, List.setIfInBounds_toArray, List.set_cons_zero, List.set_cons_succ])
    | (refine ChainL.val (o := ?_) (v := ?_) ?_ ?_ ?_ ?_ ?_; rotate_left 2; (focus (first | (simp only [List.getElem?_toArray, List.getElem?_cons_succ, List.getElem?_cons_zero]; with_reducible rfl) | (simp only [List.getElem?_toArray, List.getElem?_cons_zero]; with_reducible rfl))); (focus (intro _ _ h; cases h)); (focus rfl); (focus (intro w' hJ; have q1 := conv_lists (c := c7) (l79.below hJ) HPL.out HPB.out; have Yp := P6.below hJ; have yp_0 := Yp.cell 0; rw [show (#[.int .i64 a0, .bool b1] : Array Value)[0]? = some (.int .i64 a0) from rfl] at yp_0; have yp_1 := Yp.cell 1; rw [show (#[.int .i64 a0, .bool b1] : Array Value)[1]? = some (.bool b1) from rfl] at yp_1; have Yq := Q6.below hJ; have yq_0 := Yq.cell 0; rw [show (#[.int .i64 a0, .bool b1] : Array Value)[0]? = some (.int .i64 a0) from rfl] at yq_0; have yq_1 := Yq.cell 1; rw [show (#[.int .i64 a0, .bool b1] : Array Value)[1]? = some (.bool b1) from rfl] at yq_1; go_simp <;> with_reducible rfl)); simp only [Act.put, List.setIfInBounds_toArray, List.set_cons_zero, List.set_cons_succ]))
  refine ChainL.call (o := ?_) (f := ?_) (args := ?_) ?_ ?_ ?_ ?_
  rotate_left 3
  (focus (simp only [List.getElem?_toArray, List.getElem?_cons_succ, List.getElem?_cons_zero]; with_reducible rfl))
  (focus rfl)
  (focus (go_simp; (constructor <;> with_reducible rfl)))
  refine (C3 _).mono ?_
  rintro e w11 ⟨A8, c8, rfl, l8, hc8, bw8⟩
  have b78 := hI.trans (bw8.mono hI.size)
  refine ⟨_, rfl, b78, ?_⟩
  simp only [Act.put, List.setIfInBounds_toArray, List.set_cons_zero, List.set_cons_succ]
  have q2 := conv_lists (c := c8) l8 HPL.out HPB.out
  refine ChainL.does (o := ?_) (v := ?_) (w1 := ?_) ?_ ?_ ?_ ?_ ?_
  rotate_left 3
  (focus (simp only [List.getElem?_toArray, List.getElem?_cons_succ, List.getElem?_cons_zero]; with_reducible rfl))
  (focus rfl)
  (focus (go_simp; (constructor <;> with_reducible rfl)))
  exact b78
  simp only [Act.put, List.setIfInBounds_toArray, List.set_cons_zero, List.set_cons_succ]
  repeat (first
    | (refine ChainL.skip (o := ?_) ?_ ?_ ?_; rotate_left; (focus (first | (simp only [List.getElem?_toArray, List.getElem?_cons_succ, List.getElem?_cons_zero]; with_reducible rfl) | (simp only [List.getElem?_toArray, List.getElem?_cons_zero]; with_reducible rfl))); (focus rfl); simp only [Act.put, List.setIfInBounds_toArray, List.set_cons_zero, List.set_cons_succ])
    | (refine ChainL.val (o := ?_) (v := ?_) ?_ ?_ ?_ ?_ ?_; rotate_left 2; (focus (first | (simp only [List.getElem?_toArray, List.getElem?_cons_succ, List.getElem?_cons_zero]; with_reducible rfl) | (simp only [List.getElem?_toArray, List.getElem?_cons_zero]; with_reducible rfl))); (focus (intro _ _ h; cases h)); (focus rfl); (focus (intro w' hJ; have Yp := P6.below hJ; have yp_0 := Yp.cell 0; rw [show (#[.int .i64 a0, .bool b1] : Array Value)[0]? = some (.int .i64 a0) from rfl] at yp_0; have yp_1 := Yp.cell 1; rw [show (#[.int .i64 a0, .bool b1] : Array Value)[1]? = some (.bool b1) from rfl] at yp_1; have Yq := Q6.below hJ; have yq_0 := Yq.cell 0; rw [show (#[.int .i64 a0, .bool b1] : Array Value)[0]? = some (.int .i64 a0) from rfl] at yq_0; have yq_1 := Yq.cell 1; rw [show (#[.int .i64 a0, .bool b1] : Array Value)[1]? = some (.bool b1) from rfl] at yq_1; go_simp <;> with_reducible rfl)); simp only [Act.put, List.setIfInBounds_toArray, List.set_cons_zero, List.set_cons_succ]))
  refine ChainL.nil ?_
  go_wp2
  go_ret
  exact ⟨rfl, B10.trans (b78.mono B10.size)⟩

set_option maxRecDepth 100000 in
set_option maxHeartbeats 16000000 in
theorem walk_yn (a0 : Int) (b1 : Bool) (A1 : Option Addr) (c1 : Nat) (E1 : List Value) (k1 : E1.length ≤ c1) (m1 : c1 ≤ 9223372036854775807) (l1 : Lists W W.heap.size A1 E1) (s1 : Bytes8 E1) (t1 : E1.length ≤ 140737488351232) (r0 : Int) (r1 : Bool) (hok : okG E1 = true) (hv : valG E1 = .agg #[.int .i64 r0, .bool r1]) (hmay : mayG a0 = false) : Calls Try.prog 5 #[.agg #[.int .i64 a0, .bool b1], .slice A1 E1.length c1] W fun e w' => e = .returned (.bool true) ∧ Below W.heap.size W w' := by
  have C := fun A c V hE hc hc2 => hGlyphs_at A c E1.length E1 V rfl hE s1 hc hc2 (show E1.length ≤ 140737488355328 by omega) hok #[.int .i64 r0, .bool r1] hv
  have CR : ∀ V, Below W.heap.size W V → Calls Try.prog 16 #[.slice A1 E1.length c1] V fun e w' => e = .returned (.tuple #[.agg #[.int .i64 r0, .bool r1], .bool true]) ∧ Below V.heap.size V w' := by
    intro V hb
    refine (rGlyphs_any A1 c1 E1 V ((l1.below hb).more hb.size) s1 k1 m1 (by omega)).mono fun e w' h => ?_
    unfold GotRef at h
    rw [hok, if_pos rfl, hv] at h
    exact h
  have C2 := fun V => rMayGlyphs a0 b1 V
  rw [hmay] at C2
  have q1 := neqG_same r0 r1
  have q2 := neqgG r0 r1
  have q3 := eqG_same a0 b1
  have q4 := eqgG a0 b1
  have C1 := fun V => hPutGlyphs_no a0 b1 V hmay
  have b0 : Below W.heap.size W (W.alloc (.cells #[.int .i64 a0, .bool b1] 40)) := (Below.refl _ _).alloc (Nat.le_refl _) _
  have X0 : Blk (W.alloc (.cells #[.int .i64 a0, .bool b1] 40)) W.heap.size 40 #[.int .i64 a0, .bool b1] := Blk.new _ _ _
  have HB := Lib.hid (And.intro b0 X0)
  have HS1 := Lib.hid s1
  have HL1 := Lib.hid l1
  obtain ⟨i0, hi, hz0, hz1, hz2⟩ := info_parts u8Info
  clear hmay hok hv b0 X0 s1 l1
  go_enter Try.func5, Try.ntmps5
  go_wp2_with (first | (go_at_call 14; ((with_reducible refine (C1 _).mono ?_); rintro e w1 ⟨rfl, bp1⟩; have B1 := HB.out.1.trans (bp1.mono HB.out.1.size); have X1 := HB.out.2.below bp1)) | (at_builtin; refine wpList_append_src_wide _ rfl (.tmp 19) (.tmp 20) 26 rfl w1.heap.size 5 i0 (.int .u8 0) 1 1 Try.underlying26 hi hz0 hz1 hz2 rfl (by decide) (.slice (some ⟨w1.heap.size, 0, none⟩) 0 0) 0 [] rfl (own_new w1) _ A1 E1.length c1 E1 rfl ((HL1.out.below B1).alloc B1.size _) (by simp) HS1.out.one (by simp only [maxLen]; omega) (by omega) (by simp) ?_; intro v2 w2 own2 hg2; rw [Nat.zero_add, List.nil_append] at own2; have b12 : Below w1.heap.size w1 w2 := ((Below.refl _ _).alloc (Nat.le_refl _) _).grown hg2 (by simp) (fun b hb => by simp [Value.ownBlock] at hb; omega); have B2 := B1.trans (b12.mono B1.size); have X2 := X1.below b12; obtain ⟨A2, c2, rfl, l2, hc2⟩ := own_lists own2; have hcap2 := own_cap own2) | (go_at_call 15; ((with_reducible refine (C A2 c2 _ l2 hc2 hcap2).mono ?_); rintro e w3 ⟨rfl, bp3⟩; have B3 := B2.trans (bp3.mono B2.size); have al3 : Below w3.heap.size w3 (w3.alloc (.cells #[.int .i64 r0, .bool r1] 40)) := (Below.refl _ _).alloc (Nat.le_refl _) _; have B3a := B3.trans (al3.mono B3.size); have b23 := bp3.trans (al3.mono bp3.size); have X3 := X2.below b23; have Z3 : Blk (w3.alloc (.cells #[.int .i64 r0, .bool r1] 40)) w3.heap.size 40 #[.int .i64 r0, .bool r1] := Blk.new _ _ _)) | (refine wpList_store_row rfl 40 (.tmp 7) (.tmp 23) (by with_reducible rfl) w3.heap.size #[.int .i64 r0, .bool r1] (by rfl) (by rfl) 40 #[.int .i64 0, .bool false] (Blk.new _ _ _) sizG rfl (by simp [Value.oneCell']) ?_; rw [World.setRow_alloc_new]) | (go_at_call 16; ((with_reducible refine (CR _ B3a).mono ?_); rintro e w4 ⟨rfl, bp4⟩; have B4 := B3a.trans (bp4.mono B3a.size); have al4 : Below w4.heap.size w4 (w4.alloc (.cells #[.int .i64 r0, .bool r1] 40)) := (Below.refl _ _).alloc (Nat.le_refl _) _; have B4a := B4.trans (al4.mono B4.size); have b34 := bp4.trans (al4.mono bp4.size); have X4 := X3.below b34; have Z34 := Z3.below b34; have Z4 : Blk (w4.alloc (.cells #[.int .i64 r0, .bool r1] 40)) w4.heap.size 40 #[.int .i64 r0, .bool r1] := Blk.new _ _ _)) | (refine wpList_store_row rfl 40 (.tmp 9) (.tmp 28) (by with_reducible rfl) w4.heap.size #[.int .i64 r0, .bool r1] (by rfl) (by rfl) 40 #[.int .i64 0, .bool false] (Blk.new _ _ _) sizG rfl (by simp [Value.oneCell']) ?_; rw [World.setRow_alloc_new]) | (go_at_call 9; ((with_reducible refine (lives5 _).mono ?_); rintro e w5 ⟨rfl, bp5⟩; have B5 := B4a.trans (bp5.mono B4a.size); have Yx := X4.below bp5; have Yu := Z34.below bp5; have Yv := Z4.below bp5; have yx_0 := Yx.cell 0; rw [show (#[.int .i64 a0, .bool b1] : Array Value)[0]? = some (.int .i64 a0) from rfl] at yx_0; have yx_1 := Yx.cell 1; rw [show (#[.int .i64 a0, .bool b1] : Array Value)[1]? = some (.bool b1) from rfl] at yx_1; have yu_0 := Yu.cell 0; rw [show (#[.int .i64 r0, .bool r1] : Array Value)[0]? = some (.int .i64 r0) from rfl] at yu_0; have yu_1 := Yu.cell 1; rw [show (#[.int .i64 r0, .bool r1] : Array Value)[1]? = some (.bool r1) from rfl] at yu_1; have yv_0 := Yv.cell 0; rw [show (#[.int .i64 r0, .bool r1] : Array Value)[0]? = some (.int .i64 r0) from rfl] at yv_0; have yv_1 := Yv.cell 1; rw [show (#[.int .i64 r0, .bool r1] : Array Value)[1]? = some (.bool r1) from rfl] at yv_1)) | (go_at_call 17; ((with_reducible refine (C2 _).mono ?_); rintro e w6 ⟨rfl, bp6⟩; have B6 := B5.trans (bp6.mono B5.size); have X6 := Yx.below bp6)))
  go_ret
  exact ⟨rfl, B6⟩

set_option maxRecDepth 100000 in
set_option maxHeartbeats 16000000 in
theorem walk_yy (a0 : Int) (b1 : Bool) (A1 : Option Addr) (c1 : Nat) (E1 : List Value) (k1 : E1.length ≤ c1) (m1 : c1 ≤ 9223372036854775807) (l1 : Lists W W.heap.size A1 E1) (s1 : Bytes8 E1) (t1 : E1.length ≤ 140737488351232) (r0 : Int) (r1 : Bool) (hok : okG E1 = true) (hv : valG E1 = .agg #[.int .i64 r0, .bool r1]) (hmay : mayG a0 = true) : Calls Try.prog 5 #[.agg #[.int .i64 a0, .bool b1], .slice A1 E1.length c1] W fun e w' => e = .returned (.bool true) ∧ Below W.heap.size W w' := by
  have C := fun A c V hE hc hc2 => hGlyphs_at A c E1.length E1 V rfl hE s1 hc hc2 (show E1.length ≤ 140737488355328 by omega) hok #[.int .i64 r0, .bool r1] hv
  have CR : ∀ V, Below W.heap.size W V → Calls Try.prog 16 #[.slice A1 E1.length c1] V fun e w' => e = .returned (.tuple #[.agg #[.int .i64 r0, .bool r1], .bool true]) ∧ Below V.heap.size V w' := by
    intro V hb
    refine (rGlyphs_any A1 c1 E1 V ((l1.below hb).more hb.size) s1 k1 m1 (by omega)).mono fun e w' h => ?_
    unfold GotRef at h
    rw [hok, if_pos rfl, hv] at h
    exact h
  have C2 := fun V => rMayGlyphs a0 b1 V
  rw [hmay] at C2
  have q1 := neqG_same r0 r1
  have q2 := neqgG r0 r1
  have q3 := eqG_same a0 b1
  have q4 := eqgG a0 b1
  have hlen := putGs_len a0 b1
  have hln : (putGs a0 b1).length ≤ 32 := by rw [hlen]; cases b1 <;> decide
  have C3 : ∀ V, Calls Try.prog 18 #[.agg #[.int .i64 a0, .bool b1]] V (GaveR V (putGs a0 b1)) := fun V => rPutGlyphs_any a0 b1 V
  have C1 : ∀ V, Calls Try.prog 14 #[.agg #[.int .i64 a0, .bool b1]] V (GaveL V (putGs a0 b1).length (putGs a0 b1)) := fun V => (hPutGlyphs_yes a0 b1 V hmay).mono fun e w' h => h.l rfl
  have hpb : Bytes8 (putGs a0 b1) := putGs_bytes a0 b1
  have hbk := backG a0 b1 E1 hmay
  have C4 : ∀ A c V, Lists V V.heap.size A (putGs a0 b1 ++ E1) → (putGs a0 b1).length + E1.length ≤ c → c ≤ 9223372036854775807 → Calls Try.prog 15 #[.slice A ((putGs a0 b1).length + E1.length) c] V fun e w' => e = .returned (.tuple #[.agg #[.int .i64 a0, .bool b1], .int .i64 0]) ∧ Below V.heap.size V w' :=
    fun A c V hE hc hc2 => hGlyphs_at A c _ (putGs a0 b1 ++ E1) V (by rw [List.length_append]) hE (hpb.append s1) hc hc2 (by omega) hbk.1 _ hbk.2
  clear hbk hlen
  unfold GaveR at C3
  obtain ⟨ln, hpl⟩ : ∃ ln, (putGs a0 b1).length = ln := ⟨_, rfl⟩
  rw [hpl] at hln C1 C4
  simp only [hpl] at C3
  generalize putGs a0 b1 = ps at *
  have HPB := Lib.hid hpb
  have HPL := Lib.hid hpl
  clear hpb hpl
  have b0 : Below W.heap.size W (W.alloc (.cells #[.int .i64 a0, .bool b1] 40)) := (Below.refl _ _).alloc (Nat.le_refl _) _
  have X0 : Blk (W.alloc (.cells #[.int .i64 a0, .bool b1] 40)) W.heap.size 40 #[.int .i64 a0, .bool b1] := Blk.new _ _ _
  have HB := Lib.hid (And.intro b0 X0)
  have HS1 := Lib.hid s1
  have HL1 := Lib.hid l1
  obtain ⟨i0, hi, hz0, hz1, hz2⟩ := info_parts u8Info
  clear hmay hok hv b0 X0 s1 l1
  go_enter Try.func5, Try.ntmps5
  go_wp2_with (first | (go_at_call 14; ((with_reducible refine (C1 _).mono ?_); rintro e w1 ⟨A7, c7, rfl, l7, hc7, hcap7, bp1⟩; have B1 := HB.out.1.trans (bp1.mono HB.out.1.size); have X1 := HB.out.2.below bp1)) | (at_builtin; refine wpList_append_src_wide _ rfl (.tmp 19) (.tmp 20) 26 rfl w1.heap.size 5 i0 (.int .u8 0) 1 1 Try.underlying26 hi hz0 hz1 hz2 rfl (by decide) (.slice (some ⟨w1.heap.size, 0, none⟩) 0 0) 0 [] rfl (own_new w1) _ A1 E1.length c1 E1 rfl ((HL1.out.below B1).alloc B1.size _) (by simp) HS1.out.one (by simp only [maxLen]; omega) (by omega) (by simp) ?_; intro v2 w2 own2 hg2; rw [Nat.zero_add, List.nil_append] at own2; have b12 : Below w1.heap.size w1 w2 := ((Below.refl _ _).alloc (Nat.le_refl _) _).grown hg2 (by simp) (fun b hb => by simp [Value.ownBlock] at hb; omega); have B2 := B1.trans (b12.mono B1.size); have X2 := X1.below b12; obtain ⟨A2, c2, rfl, l2, hc2⟩ := own_lists own2; have hcap2 := own_cap own2; have l7b := (l7.below b12).more b12.size) | (go_at_call 15; ((with_reducible refine (C A2 c2 _ l2 hc2 hcap2).mono ?_); rintro e w3 ⟨rfl, bp3⟩; have B3 := B2.trans (bp3.mono B2.size); have al3 : Below w3.heap.size w3 (w3.alloc (.cells #[.int .i64 r0, .bool r1] 40)) := (Below.refl _ _).alloc (Nat.le_refl _) _; have B3a := B3.trans (al3.mono B3.size); have b23 := bp3.trans (al3.mono bp3.size); have X3 := X2.below b23; have Z3 : Blk (w3.alloc (.cells #[.int .i64 r0, .bool r1] 40)) w3.heap.size 40 #[.int .i64 r0, .bool r1] := Blk.new _ _ _; have l7c := (l7b.below b23).more b23.size)) | (refine wpList_store_row rfl 40 (.tmp 7) (.tmp 23) (by with_reducible rfl) w3.heap.size #[.int .i64 r0, .bool r1] (by rfl) (by rfl) 40 #[.int .i64 0, .bool false] (Blk.new _ _ _) sizG rfl (by simp [Value.oneCell']) ?_; rw [World.setRow_alloc_new]) | (go_at_call 16; ((with_reducible refine (CR _ B3a).mono ?_); rintro e w4 ⟨rfl, bp4⟩; have B4 := B3a.trans (bp4.mono B3a.size); have al4 : Below w4.heap.size w4 (w4.alloc (.cells #[.int .i64 r0, .bool r1] 40)) := (Below.refl _ _).alloc (Nat.le_refl _) _; have B4a := B4.trans (al4.mono B4.size); have b34 := bp4.trans (al4.mono bp4.size); have X4 := X3.below b34; have Z34 := Z3.below b34; have Z4 : Blk (w4.alloc (.cells #[.int .i64 r0, .bool r1] 40)) w4.heap.size 40 #[.int .i64 r0, .bool r1] := Blk.new _ _ _; have l7d := (l7c.below b34).more b34.size)) | (refine wpList_store_row rfl 40 (.tmp 9) (.tmp 28) (by with_reducible rfl) w4.heap.size #[.int .i64 r0, .bool r1] (by rfl) (by rfl) 40 #[.int .i64 0, .bool false] (Blk.new _ _ _) sizG rfl (by simp [Value.oneCell']) ?_; rw [World.setRow_alloc_new]) | (go_at_call 9; ((with_reducible refine (lives5 _).mono ?_); rintro e w5 ⟨rfl, bp5⟩; have B5 := B4a.trans (bp5.mono B4a.size); have Yx := X4.below bp5; have Yu := Z34.below bp5; have Yv := Z4.below bp5; have yx_0 := Yx.cell 0; rw [show (#[.int .i64 a0, .bool b1] : Array Value)[0]? = some (.int .i64 a0) from rfl] at yx_0; have yx_1 := Yx.cell 1; rw [show (#[.int .i64 a0, .bool b1] : Array Value)[1]? = some (.bool b1) from rfl] at yx_1; have yu_0 := Yu.cell 0; rw [show (#[.int .i64 r0, .bool r1] : Array Value)[0]? = some (.int .i64 r0) from rfl] at yu_0; have yu_1 := Yu.cell 1; rw [show (#[.int .i64 r0, .bool r1] : Array Value)[1]? = some (.bool r1) from rfl] at yu_1; have yv_0 := Yv.cell 0; rw [show (#[.int .i64 r0, .bool r1] : Array Value)[0]? = some (.int .i64 r0) from rfl] at yv_0; have yv_1 := Yv.cell 1; rw [show (#[.int .i64 r0, .bool r1] : Array Value)[1]? = some (.bool r1) from rfl] at yv_1; have l7e := (l7d.below bp5).more bp5.size)) | (go_at_call 17; ((with_reducible refine (C2 _).mono ?_); rintro e w6 ⟨rfl, bp6⟩; have B6 := B5.trans (bp6.mono B5.size); have X6 := Yx.below bp6; have l7f := (l7e.below bp6).more bp6.size)) | (at_builtin; refine wpList_append_src_wide _ rfl (.tmp 62) (.tmp 63) 26 rfl w6.heap.size 5 i0 (.int .u8 0) 1 1 Try.underlying26 hi hz0 hz1 hz2 rfl (by decide) (.slice (some ⟨w6.heap.size, 0, none⟩) 0 0) 0 [] rfl (own_new w6) _ A7 ln c7 ps rfl (l7f.alloc (Nat.le_refl _) _) (by rw [HPL.out, Nat.mul_one]) HPB.out.one (by simp only [maxLen]; omega) (by omega) (by simp) ?_; intro v7 w7 own7 hg7; rw [Nat.zero_add, List.nil_append] at own7; have b67 : Below w6.heap.size w6 w7 := ((Below.refl _ _).alloc (Nat.le_refl _) _).grown hg7 (by simp) (fun b hb => by simp [Value.ownBlock] at hb; omega); have B7 := B6.trans (b67.mono B6.size)) | (at_builtin; refine wpList_append_src_wide _ rfl (.tmp 64) (.tmp 65) 26 rfl w6.heap.size 5 i0 (.int .u8 0) 1 1 Try.underlying26 hi hz0 hz1 hz2 rfl (by decide) v7 ln ps rfl own7 _ A1 E1.length c1 E1 rfl (HL1.out.below B7) (by simp) HS1.out.one (by simp only [maxLen]; omega) (by omega) b67.size ?_; intro v8 w8 own8 hg8; have b68 : Below w6.heap.size w6 w8 := b67.grown hg8 b67.size (fun b hb => own_low own7 b (by simp [blk, hb])); have B8 := B6.trans (b68.mono B6.size); obtain ⟨A9, c9, rfl, l9, hc9⟩ := own_lists own8; have hcap9 := own_cap own8; have l78 := (l7f.below b68).more b68.size; have X8 := X6.below b68) | (go_at_call 15; ((with_reducible refine (C4 A9 c9 _ l9 hc9 hcap9).mono ?_); rintro e w9 ⟨rfl, bp9⟩; have B9 := B8.trans (bp9.mono B8.size); have al9 : Below w9.heap.size w9 (w9.alloc (.cells #[.int .i64 a0, .bool b1] 40)) := (Below.refl _ _).alloc (Nat.le_refl _) _; have b89 := bp9.trans (al9.mono bp9.size); have l79 := (l78.below b89).more b89.size; have P6 : Blk (w9.alloc (.cells #[.int .i64 a0, .bool b1] 40)) W.heap.size 40 #[.int .i64 a0, .bool b1] := X8.below b89; have Q6 : Blk (w9.alloc (.cells #[.int .i64 a0, .bool b1] 40)) w9.heap.size 40 #[.int .i64 a0, .bool b1] := Blk.new _ _ _; have B10 := B9.trans (al9.mono B9.size))) | (refine wpList_store_row rfl 40 (.tmp 11) (.tmp 68) (by with_reducible rfl) w9.heap.size #[.int .i64 a0, .bool b1] (by rfl) (by rfl) 40 #[.int .i64 0, .bool false] (Blk.new _ _ _) sizG rfl (by simp [Value.oneCell']) ?_; rw [World.setRow_alloc_new]))
  have hI : Below (w9.alloc (.cells #[.int .i64 a0, .bool b1] 40)).heap.size (w9.alloc (.cells #[.int .i64 a0, .bool b1] 40)) (w9.alloc (.cells #[.int .i64 a0, .bool b1] 40)).drew := (Below.refl _ _).drew
  generalize (w9.alloc (.cells #[.int .i64 a0, .bool b1] 40)) = w10 at *
  clear q1 q2
  refine wp_region_chain (fun V => Below w10.heap.size w10 V) [(0, false), (1, false), (2, false), (3, false), (4, false), (5, false), (6, true), (7, true), (8, false), (9, false), (10, false), (11, false), (12, false), (13, false), (14, false), (15, false), (16, false), (17, false), (18, false), (19, false)] (by kernel_rfl) (by kernel_rfl) hI ?_
  repeat (first
    | (refine ChainL.skip (o := ?_) ?_ ?_ ?_; rotate_left; (focus (first | (simp only [List.getElem?_toArray, List.getElem?_cons_succ, List.getElem?_cons_zero]; with_reducible rfl) | (simp only [List.getElem?_toArray, List.getElem?_cons_zero]; with_reducible rfl))); (focus rfl); simp only [Act.put, List.setIfInBounds_toArray, List.set_cons_zero, List.set_cons_succ])
    | (refine ChainL.val (o := ?_) (v := ?_) ?_ ?_ ?_ ?_ ?_; rotate_left 2; (focus (first | (simp only [List.getElem?_toArray, List.getElem?_cons_succ, List.getElem?_cons_zero]; with_reducible rfl) | (simp only [List.getElem?_toArray, List.getElem?_cons_zero]; with_reducible rfl))); (focus (intro _ _ h; cases h)); (focus rfl); (focus (intro w' hJ; have q1 := conv_lists (c := c7) (l79.below hJ) HPL.out HPB.out; have Yp := P6.below hJ; have yp_0 := Yp.cell 0; rw [show (#[.int .i64 a0, .bool b1] : Array Value)[0]? = some (.int .i64 a0) from rfl] at yp_0; have yp_1 := Yp.cell 1; rw [show (#[.int .i64 a0, .bool b1] : Array Value)[1]? = some (.bool b1) from rfl] at yp_1; have Yq := Q6.below hJ; have yq_0 := Yq.cell 0; rw [show (#[.int .i64 a0, .bool b1] : Array Value)[0]? = some (.int .i64 a0) from rfl] at yq_0; have yq_1 := Yq.cell 1; rw [show (#[.int .i64 a0, .bool b1] : Array Value)[1]? = some (.bool b1) from rfl] at yq_1; go_simp <;> with_reducible rfl)); simp only [Act.put, List.setIfInBounds_toArray, List.set_cons_zero, List.set_cons_succ]))
  refine ChainL.call (o := ?_) (f := ?_) (args := ?_) ?_ ?_ ?_ ?_
  rotate_left 3
  (focus (simp only [List.getElem?_toArray, List.getElem?_cons_succ, List.getElem?_cons_zero]; with_reducible rfl))
  (focus rfl)
  (focus (go_simp; (constructor <;> with_reducible rfl)))
  refine (C3 _).mono ?_
  rintro e w11 ⟨A8, c8, rfl, l8, hc8, bw8⟩
  have b78 := hI.trans (bw8.mono hI.size)
  refine ⟨_, rfl, b78, ?_⟩
  simp only [Act.put, List.setIfInBounds_toArray, List.set_cons_zero, List.set_cons_succ]
  have q2 := conv_lists (c := c8) l8 HPL.out HPB.out
  refine ChainL.does (o := ?_) (v := ?_) (w1 := ?_) ?_ ?_ ?_ ?_ ?_
  rotate_left 3
  (focus (simp only [List.getElem?_toArray, List.getElem?_cons_succ, List.getElem?_cons_zero]; with_reducible rfl))
  (focus rfl)
  (focus (go_simp; (constructor <;> with_reducible rfl)))
  exact b78
  simp only [Act.put, List.setIfInBounds_toArray, List.set_cons_zero, List.set_cons_succ]
  repeat (first
    | (refine ChainL.skip (o := ?_) ?_ ?_ ?_; rotate_left; (focus (first | (simp only [List.getElem?_toArray, List.getElem?_cons_succ, List.getElem?_cons_zero]; with_reducible rfl) | (simp only [List.getElem?_toArray, List.getElem?_cons_zero]; with_reducible rfl))); (focus rfl); simp only [Act.put, List.setIfInBounds_toArray, List.set_cons_zero, List.set_cons_succ])
    | (refine ChainL.val (o := ?_) (v := ?_) ?_ ?_ ?_ ?_ ?_; rotate_left 2; (focus (first | (simp only [List.getElem?_toArray, List.getElem?_cons_succ, List.getElem?_cons_zero]; with_reducible rfl) | (simp only [List.getElem?_toArray, List.getElem?_cons_zero]; with_reducible rfl))); (focus (intro _ _ h; cases h)); (focus rfl); (focus (intro w' hJ; have Yp := P6.below hJ; have yp_0 := Yp.cell 0; rw [show (#[.int .i64 a0, .bool b1] : Array Value)[0]? = some (.int .i64 a0) from rfl] at yp_0; have yp_1 := Yp.cell 1; rw [show (#[.int .i64 a0, .bool b1] : Array Value)[1]? = some (.bool b1) from rfl] at yp_1; have Yq := Q6.below hJ; have yq_0 := Yq.cell 0; rw [show (#[.int .i64 a0, .bool b1] : Array Value)[0]? = some (.int .i64 a0) from rfl] at yq_0; have yq_1 := Yq.cell 1; rw [show (#[.int .i64 a0, .bool b1] : Array Value)[1]? = some (.bool b1) from rfl] at yq_1; go_simp <;> with_reducible rfl)); simp only [Act.put, List.setIfInBounds_toArray, List.set_cons_zero, List.set_cons_succ]))
  refine ChainL.nil ?_
  go_wp2
  go_ret
  exact ⟨rfl, B10.trans (b78.mono B10.size)⟩
theorem walk (a0 : Int) (b1 : Bool) (A1 : Option Addr) (c1 : Nat) (E1 : List Value) (k1 : E1.length ≤ c1) (m1 : c1 ≤ 9223372036854775807) (l1 : Lists W W.heap.size A1 E1) (s1 : Bytes8 E1) (t1 : E1.length ≤ 140737488351232) : Calls Try.prog 5 #[.agg #[.int .i64 a0, .bool b1], .slice A1 E1.length c1] W fun e w' => e = .returned (.bool true) ∧ Below W.heap.size W w' := by
  cases hok : okG E1 <;> cases hmay : mayG a0
  · exact walk_nn a0 b1 A1 c1 E1 k1 m1 l1 s1 t1 hok hmay
  · exact walk_ny a0 b1 A1 c1 E1 k1 m1 l1 s1 t1 hok hmay
  · exact walk_yn a0 b1 A1 c1 E1 k1 m1 l1 s1 t1 _ _ hok rfl hmay
  · exact walk_yy a0 b1 A1 c1 E1 k1 m1 l1 s1 t1 _ _ hok rfl hmay

set_option linter.unusedVariables false in
set_option maxRecDepth 100000 in
theorem lifted (os : Os) (started : os.Started) (H : Type) (enc : TypeId × Value → H) :
    ReturnsInHanded {} Try.checked os 5 .any (Rows.headsGlyphsSpec.pre6 enc Try.prog Try.f5 Rows.headsGlyphsRow.domain false) (Rows.headsGlyphsSpec.post enc Try.prog Try.f5 false true false false) := by
  refine returnsInHanded_of_change_sized (C := Try.checked) Try.own started (by kernel_rfl) Try.func5
    (ChangeSpec.witness6 (enc := enc) (C := Try.checked) false ⟨#[], #[.agg #[.int .i64 0, .bool false], .slice none 0 0], []⟩ 8 (by kernel_rfl) (by kernel_rfl) (by kernel_rfl) (by kernel_rfl)) ?_
  intro W base args ds gs before hval0 hW hcnd hsz0 _
  have hsz : (DataW.weightsEach Try.prog (Try.f5.params.toList ++ Rows.headsGlyphsSpec.plain.varTypes Try.prog) (ds ++ gs)).all (· ≤ reachBytes) = true := hsz0
  have hval : ∀ (j : Nat) t v, Try.f5.params[j]? = some t → args[j]? = some v → Value.okWide Try.prog W .any base t v := hval0
  have hW' := hW
  obtain ⟨p, q, hA0, hV, rfl, hfz, hnd⟩ := hW
  have hA : DataW.TrodAll enc Try.prog W 0 (fun _ => true) true Try.f5.params.toList args.toList ds p := hA0
  rw [Try.params5] at hA hval hsz
  obtain ⟨v0, vs0, d0, ds0, p0, q0, hargs, rfl, rfl, h0, r0⟩ := trodAll_cons hA
  obtain ⟨v1, vs1, d1, ds1, p1, q1, rfl, rfl, rfl, h1, r1⟩ := trodAll_cons r0
  obtain ⟨rfl, rfl, rfl⟩ := trodAll_nil r1
  obtain rfl : args = #[v0, v1] := by cases args; simp_all
  obtain ⟨rfl, rfl⟩ := trodVars_none hV
  obtain ⟨x0, x1, rfl⟩ := open_glyphs (hval 0 40 v0 rfl rfl) h0
  have hz1 : ∀ m ∈ d1.weights Try.prog 26, m ≤ reachBytes := fun m hm => of_decide_eq_true (List.all_eq_true.1 hsz m (DataW.weights_mem_each (j := 1) rfl rfl m hm))
  obtain ⟨A1, c1, E1, rfl, k1, m1, l1, s1, t1⟩ := open_bytes_less Try.underlying26 Try.underlying5 (by kernel_rfl) (by kernel_rfl) (hval 1 26 v1 rfl rfl) h1 hz1
  clear hA0 hval0
  simp only [List.append_nil] at hW'
  refine (walk (W := W) x0 x1 A1 c1 E1 k1 m1 l1 s1 t1).mono fun e W' ⟨he, hg⟩ => ?_
  subst he
  exact ⟨_, rfl, law_post Try.laidOut rfl Try.underlying4 (by kernel_rfl) rfl rfl rfl rfl hW' hg⟩

theorem over : Rows.headsGlyphsRow.holds Try.pinned (OpenSpec.ofChange Rows.headsGlyphsSpec) :=
  OpenClaim.holds_of_wide 5 Try.f5 rfl rfl rfl rfl rfl rfl rfl ⟨rfl, rfl, rfl, rfl, rfl⟩ rfl rfl rfl rfl rfl (by kernel_rfl) Try.func5 (by kernel_rfl)
    (of_decide_eq_true (by kernel_rfl)) (by unfold Func.isWrapper; first | (rw [if_pos (by decide +kernel)]; kernel_rfl) | (rw [if_neg (by decide +kernel)]; exact ⟨rfl, rfl⟩))
    (fun os started H enc _ => lifted os started H enc)

theorem proved : Rows.HeadsGlyphsSaid :=
  over

end Go.Proofs.Ytbomgaacahaofaa.headsGlyphs
