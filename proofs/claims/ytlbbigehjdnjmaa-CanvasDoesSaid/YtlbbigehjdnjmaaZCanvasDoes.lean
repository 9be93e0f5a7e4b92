/- CanvasDoes: masks and boxes, put onto a canvas in any order: after each call all bytes are as the document says, what is told is, and a fork stays as it was; for every width, height, colour and list of calls. -/
import Derived.Test.YtlbbigehjdnjmaaM4CanvasDoes

namespace Go.Proofs.Ytlbbigehjdnjmaa.canvasDoes
open Go Go.ChangeShapes Go.WideShapes Go.ChangeAt Go.RowKit
set_option linter.unusedVariables false
set_option linter.unusedSimpArgs false

variable {W : World}
set_option maxRecDepth 100000 in
theorem out_1 (a b c : Int) (As : Option Addr) (cs : Nat) (L : List CRec) (k0 : L.length ≤ cs) (m0 : cs ≤ 9223372036854775807) (l0 : Lists W W.heap.size As (L.flatMap crL)) (s0 : ∀ r ∈ L, CrOk W W.heap.size r) (hp : 10000 < wrap64 (a * b)) (hm : mayCn a b 0 = true) : Calls Try.prog 3 #[.int .i64 a, .int .i64 b, .int .i64 c, .slice As L.length cs] W fun e w' => e = .returned (.bool true) ∧ Below W.heap.size W w' := by
  have CL := fun W => lives26 W
  have CM0 := fun W => rmaycn_any a b 0 W
  rw [hm] at CM0
  have B := Below.refl W.heap.size W
  clear hm
  generalize L.length = n at *
  clear k0 l0 s0
  go_enter Try.func3, Try.ntmps3
  go_wp2_with (first | (go_at_call 8; ((with_reducible refine (CM0 _).mono ?_); rintro e w8 ⟨rfl, rfl⟩)) | (go_at_call 9; ((with_reducible refine (CL _).mono ?_); rintro e w2 ⟨rfl, b2⟩; have B := B.trans (b2.mono B.size))))
  go_ret
  exact ⟨rfl, B⟩
set_option maxRecDepth 100000 in
theorem out_2 (a b c : Int) (As : Option Addr) (cs : Nat) (L : List CRec) (k0 : L.length ≤ cs) (m0 : cs ≤ 9223372036854775807) (l0 : Lists W W.heap.size As (L.flatMap crL)) (s0 : ∀ r ∈ L, CrOk W W.heap.size r) (hp : ¬ (10000 < wrap64 (a * b))) (hm : mayCn a b c = false) : Calls Try.prog 3 #[.int .i64 a, .int .i64 b, .int .i64 c, .slice As L.length cs] W fun e w' => e = .returned (.bool true) ∧ Below W.heap.size W w' := by
  have CL := fun W => lives26 W
  have CM := fun W => rmaycn_any a b c W
  have CN := fun W => cnnew_no a b c W hm
  rw [hm] at CM
  have B := Below.refl W.heap.size W
  clear hm
  generalize L.length = n at *
  clear k0 l0 s0
  go_enter Try.func3, Try.ntmps3
  go_wp2_with (first | (go_at_call 10; ((with_reducible refine (CN _).mono ?_); rintro e w1 ⟨rfl, b1⟩; have B := B.trans (b1.mono B.size))) | (go_at_call 9; ((with_reducible refine (CL _).mono ?_); rintro e w2 ⟨rfl, b2⟩; have B := B.trans (b2.mono B.size))) | (go_at_call 8; ((with_reducible refine (CM _).mono ?_); rintro e w8 ⟨rfl, rfl⟩)))
  go_ret
  exact ⟨rfl, B⟩
set_option maxRecDepth 100000 in
theorem out_3 (a b c : Int) (As : Option Addr) (cs : Nat) (L : List CRec) (k0 : L.length ≤ cs) (m0 : cs ≤ 9223372036854775807) (l0 : Lists W W.heap.size As (L.flatMap crL)) (s0 : ∀ r ∈ L, CrOk W W.heap.size r) (hp : 10000 < wrap64 (a * b)) (hm0 : mayCn a b 0 = false) (hm : mayCn a b c = false) : Calls Try.prog 3 #[.int .i64 a, .int .i64 b, .int .i64 c, .slice As L.length cs] W fun e w' => e = .returned (.bool true) ∧ Below W.heap.size W w' := by
  have CL := fun W => lives26 W
  have CM0 := fun W => rmaycn_any a b 0 W
  have CM := fun W => rmaycn_any a b c W
  have CN := fun W => cnnew_no a b c W hm
  rw [hm] at CM
  rw [hm0] at CM0
  have B := Below.refl W.heap.size W
  clear hm hm0
  generalize L.length = n at *
  clear k0 l0 s0
  go_enter Try.func3, Try.ntmps3
  go_wp2_with (first | (go_at_call 8; ((with_reducible refine (CM0 _).mono ?_); rintro e w8 ⟨rfl, rfl⟩)) | (go_at_call 10; ((with_reducible refine (CN _).mono ?_); rintro e w1 ⟨rfl, b1⟩; have B := B.trans (b1.mono B.size))) | (go_at_call 9; ((with_reducible refine (CL _).mono ?_); rintro e w2 ⟨rfl, b2⟩; have B := B.trans (b2.mono B.size))) | (go_at_call 8; ((with_reducible refine (CM _).mono ?_); rintro e w8 ⟨rfl, rfl⟩)))
  go_ret
  exact ⟨rfl, B⟩
theorem may_zero {a b c : Int} (h : mayCn a b c = true) : mayCn a b 0 = true := by
  unfold mayCn at *
  simp only [Bool.and_eq_true] at h ⊢
  exact ⟨h.1, rfl⟩
set_option maxRecDepth 100000 in
set_option maxHeartbeats 8000000 in
theorem main (wd ht : Nat) (c : Int) (As : Option Addr) (cs : Nat) (L : List CRec) (k0 : L.length ≤ cs) (m0 : cs ≤ 9223372036854775807) (l0 : Lists W W.heap.size As (L.flatMap crL)) (s0 : ∀ r ∈ L, CrOk W W.heap.size r) (hp : ¬ (10000 < wrap64 ((wd : Int) * (ht : Int)))) (hm : mayCn wd ht c = true) : Calls Try.prog 3 #[.int .i64 (wd : Nat), .int .i64 (ht : Nat), .int .i64 c, .slice As L.length cs] W fun e w' => e = .returned (.bool true) ∧ Below W.heap.size W w' := by
  have CL := fun W => lives26 W
  have CM := fun W => rmaycn_any wd ht c W
  have CN := fun W => cnnew_ok wd ht c W hm
  have CR := fun W => rcnew_ok wd ht c W hm
  rw [hm] at CM
  have B := Below.refl W.heap.size W
  have HS := Lib.hid (And.intro l0 s0)
  obtain ⟨n, hn⟩ : ∃ n, n = L.length := ⟨_, rfl⟩
  rw [← hn] at k0 ⊢
  have HN := Lib.hid hn
  have HM := Lib.hid hm
  clear hm hn l0 s0
  go_enter Try.func3, Try.ntmps3
  go_wp2_with (first | (go_at_call 10; ((with_reducible refine (CN _).mono ?_); rintro e w1 ⟨q, g, rfl, X1, hq, hg, b1⟩; have B := B.trans (b1.mono B.size))) | (go_at_call 9; ((with_reducible refine (CL _).mono ?_); rintro e w2 ⟨rfl, b2⟩; have B := B.trans (b2.mono B.size); have X2 := X1.below b2)) | (go_at_call 8; ((with_reducible refine (CM _).mono ?_); rintro e w8 ⟨rfl, rfl⟩)) | (go_at_call 11; ((with_reducible refine (CR _).mono ?_); rintro e V ⟨qr, gr, rfl, Y3, hqr, hgr, b3⟩; have B := B.trans (b3.mono B.size); have X3 := X2.below b3)))
  have HB := Lib.hid B
  have hne : q ≠ qr ∧ q ≠ gr ∧ g ≠ qr ∧ g ≠ gr := by
    have h1 := X2.blk.lt
    have h2 := X2.row.lt
    omega
  have hlow : W.heap.size ≤ g ∧ W.heap.size ≤ gr := by
    have h1 := b1.size
    have h2 := b2.size
    omega
  have HX := Lib.hid X3
  have HY := Lib.hid Y3
  clear B X1 X2 X3 Y3 b1 b2 b3 hq hg hqr hgr hp
  go_loopw [12, 13, 14] (fun i _ _ wr => ∃ k : Nat, k ≤ n ∧ i = .int .i64 (k : Nat) ∧ ∃ E, CnV wr q g wd ht E ∧ RCn wr qr gr wd ht E ∧ Only V wr [g, gr]) (fun i _ _ _ => n - (intOf i).toNat)
  case atStart => exact ⟨0, Nat.zero_le _, rfl, _, HX.out, HY.out, Only.refl _ _⟩
  case round =>
    obtain ⟨k, hk, rfl, E, hX, hY, hO⟩ := hrel
    have HXk := Lib.hid hX
    have HYk := Lib.hid hY
    have HOk := Lib.hid hO
    clear hX hY hO
    by_cases hkn : k < n ∧ k < 40
    · obtain ⟨r, hr⟩ : ∃ r, L[k]? = some r := ⟨L[k]'(by rw [← HN.out]; exact hkn.1), List.getElem?_eq_getElem _⟩
      obtain ⟨b, o, rfl, hbl, hrg⟩ := lists_flat crLen (by decide) HS.out.1 hr
      have hcr := HS.out.2 r (List.mem_of_getElem? hr)
      have hbW : ∀ U, Below W.heap.size W U → U.rangeAt b (o + k * 13) (crL r) := fun U hU => range_below hrg hbl hU
      have hbg : b ∉ [g, gr] := by simp; omega
      have hrO : ∀ U, Only V U [g, gr] → U.rangeAt b (o + k * 13) (crL r) := fun U hU i v hv => (only_cell hU (p := ⟨b, o + k * 13 + i, none⟩) (Nat.lt_of_lt_of_le hbl HB.out.size) hbg).trans (hbW V HB.out i v hv)
      have HRO := Lib.hid hrO
      have hbV : ∀ U, Only V U [g, gr] → b < U.heap.size := fun U hU => Nat.lt_of_lt_of_le (Nat.lt_of_lt_of_le hbl HB.out.size) hU.size
      have HBV := Lib.hid hbV
      obtain ⟨h1, h2⟩ := hkn
      have c5 : wr.cell? ⟨b, o + k * 13 + 5, none⟩ = some (.slice r.am r.m.length r.mc) := HRO.out wr HOk.out 5 _ rfl
      have cl := HBV.out wr HOk.out
      have HCR := Lib.hid hcr
      clear hr hrg hcr hbW hrO hbV
      obtain ⟨ml, hml⟩ : ∃ ml, ml = r.m.length := ⟨_, rfl⟩
      rw [← hml] at c5
      have HML := Lib.hid hml
      by_cases hbig : 16384 < ml
      · clear hml
        go_wp2
        go_roundw
        case rel => exact ⟨k + 1, by omega, by go_num, E, HXk.out, HYk.out, HOk.out⟩
        case measure => simp [intOf]; omega
      · obtain ⟨nn, hnn⟩ : ∃ nn, nn = wd * ht := ⟨_, rfl⟩
        have CB1 := cnbytes_any q g wd ht nn E wr HXk.out hnn
        have hlE : E.length = nn := by rw [HXk.out.len, hnn]
        have h8E := HXk.out.b8
        have HNN := Lib.hid hnn
        clear hnn hml
        go_wp2_with (first | (go_at_call 12; ((with_reducible refine (CB1).mono ?_); rintro e w1 ⟨rfl, K1, b1⟩; have q1 := conv_lists (n := nn) (c := nn) (A := some ⟨wr.heap.size, 0, none⟩) (w := w1) (B := w1.heap.size) (E := E) (lists_of_blk K1) hlE h8E; have X1 := HXk.out.below b1)) | (go_at_call 13; ((with_reducible refine (cnfork_any q g wd ht E w1 X1).mono ?_); rintro e w2 ⟨pf, bf, rfl, F2, hpf, hbf, b2⟩)))
        have X2 := X1.below b2
        have Y2 := (HYk.out.below b1).below b2
        have HO2 := Lib.hid ((HOk.out.then_below2 b1).then_below2 b2)
        have lg := HXk.out.row.lt
        have lgr := HYk.out.row.lt
        have hz1 := b1.size
        have HLD := Lib.hid (fun (U : World) (hU : Only w2 U [g, gr]) => (run_loadAt_mid (P := Try.prog) U b (o + k * 13) 37 (crL r) _ (HRO.out U (HO2.out.trans hU (fun b hb => .inl hb))) Try.underlying37 rfl (by rw [crLen]; kernel_rfl) : (Instr.loadAt 37 (.pointer (some ⟨b, o + k * 13, none⟩))).run Try.prog U = .ok (.agg (crL r).toArray) U))
        have hqr : qr ∉ [g, gr] := by simp; exact ⟨fun e => hne.2.2.1 e.symm, Y2.ne⟩
        have HQR := Lib.hid (fun (U : World) (hU : Only w2 U [g, gr]) => (⟨by have := (only_cell hU (p := ⟨qr, 2, none⟩) Y2.blk.lt hqr).trans ((Y2.blk.cell 2).trans rfl); rw [← HNN.out] at this; exact this, Nat.lt_of_lt_of_le Y2.blk.lt hU.size⟩ : U.cell? ⟨qr, 2, none⟩ = some (.slice (some ⟨gr, 0, none⟩) nn nn) ∧ qr < U.heap.size))
        have CB4 := fun (U : World) (hU : Only w2 U [g, gr]) => cnbytes_any pf bf wd ht nn E U (F2.only hU (by simp; omega) (by simp; omega)) HNN.out
        have hLm : ∀ (U : World), Only w2 U [g, gr] → Lists U U.heap.size r.am r.m := fun U hU => (lists_only (HCR.out.1.below HB.out) HB.out.size (HO2.out.trans hU (fun b hb => .inl hb)) (fun a ha h0 => by have := HCR.out.1.lt a ha h0; simp; omega)).more (by have := HB.out.size; have := (HO2.out.trans hU (fun b hb => .inl hb)).size; omega)
        have CDO := do_any q g qr gr wd ht r.mc E r.kd r.a r.d r.am r.m r.x r.y r.c w2.drew (X2.below ((Below.refl _ _).drew)) (Y2.below ((Below.refl _ _).drew)) hne (hLm _ ((Only.refl _ _).drew)) HCR.out.2.1 HCR.out.2.2.1 (fun a ha h0 => by have := HCR.out.1.lt a ha h0; omega)
        have CDO : Calls Try.prog 14 #[.pointer (some ⟨q, 0, none⟩), .pointer (some ⟨qr, 0, none⟩), .agg (crL r).toArray] w2.drew fun e w' => e = .returned (.bool true) ∧ CnV w' q g wd ht (doE wd ht r.kd r.a r.m r.d r.x r.y r.c E) ∧ RCn w' qr gr wd ht (doE wd ht r.kd r.a r.m r.d r.x r.y r.c E) ∧ Only w2.drew w' [g, gr] := CDO
        generalize (doE wd ht r.kd r.a r.m r.d r.x r.y r.c E) = E3 at *
        have hI : Only w2 w2.drew [g, gr] := (Only.refl _ _).drew
        clear c5 cl hLm X1 X2 Y2 K1 b1 b2 hz1
        refine wp_region_mix (fun U => Only w2 U [g, gr]) (Mx.qs [0, 1, 2, 3, 4, 5, 6, 7, 8] (.one 9 (Mx.qs [10, 11, 12, 13, 16, 17, 18, 19] (.two 14 20 (.two 15 20 (.one 20 (Mx.qs [21, 22, 23, 24, 27] (.one 25 (.one 26 (Mx.qs [28, 29] .leaf))))) (.one 15 (Mx.qs [21, 22, 23, 24, 27] (.one 25 (.one 26 (Mx.qs [28, 29] .leaf)))))) (.one 14 (.one 15 (Mx.qs [21, 22, 23, 24, 27] (.one 25 (.one 26 (Mx.qs [28, 29] .leaf)))))))))) (by kernel_rfl) (by kernel_rfl) hI ?_
        simp only [Mx.qs]
        repeat (first
          | (refine MixL.skip (o := ?_) ?_ ?_ ?_; rotate_left; (focus (first | (simp only [List.getElem?_toArray, List.getElem?_cons_succ, List.getElem?_cons_zero]; with_reducible rfl) | (simp only [List.getElem?_toArray, List.getElem?_cons_zero]; with_reducible rfl))); (focus rfl); simp only [Act.put, List.setIfInBounds_toArray, List.set_cons_zero, List.set_cons_succ])
          | (refine MixL.val (o := ?_) (v := ?_) ?_ ?_ ?_ ?_ ?_; rotate_left 2; (focus (first | (simp only [List.getElem?_toArray, List.getElem?_cons_succ, List.getElem?_cons_zero]; with_reducible rfl) | (simp only [List.getElem?_toArray, List.getElem?_cons_zero]; with_reducible rfl))); (focus (intro _ _ h; cases h)); (focus rfl); (focus (intro w' hJ; have LD := HLD.out _ hJ; obtain ⟨c2, c3⟩ := HQR.out _ hJ; first | (have H := fun ρ o x => @exec_load _ ρ o _ _ x _ _ LD; refine H _ _ ?_ ?_ ?_; rotate_left; (focus rfl); (focus rfl)) | (go_simp <;> with_reducible rfl))); simp only [Act.put, List.setIfInBounds_toArray, List.set_cons_zero, List.set_cons_succ]))
        refine MixL.call (o := ?_) (f := ?_) (args := ?_) ?_ ?_ ?_ ?_
        rotate_left 3
        (focus (first | (simp only [List.getElem?_toArray, List.getElem?_cons_succ, List.getElem?_cons_zero]; with_reducible rfl) | (simp only [List.getElem?_toArray, List.getElem?_cons_zero]; with_reducible rfl)))
        (focus rfl)
        (focus (go_simp; (constructor <;> with_reducible rfl)))
        with_reducible refine (CDO).mono ?_
        rintro e w3 ⟨rfl, X3, Y3, o3⟩; have hI3 := hI.trans o3 (fun b hb => .inl hb); refine ⟨_, rfl, hI3, ?_⟩
        simp only [Act.put, List.setIfInBounds_toArray, List.set_cons_zero, List.set_cons_succ]
        repeat (first
          | (refine MixL.skip (o := ?_) ?_ ?_ ?_; rotate_left; (focus (first | (simp only [List.getElem?_toArray, List.getElem?_cons_succ, List.getElem?_cons_zero]; with_reducible rfl) | (simp only [List.getElem?_toArray, List.getElem?_cons_zero]; with_reducible rfl))); (focus rfl); simp only [Act.put, List.setIfInBounds_toArray, List.set_cons_zero, List.set_cons_succ])
          | (refine MixL.val (o := ?_) (v := ?_) ?_ ?_ ?_ ?_ ?_; rotate_left 2; (focus (first | (simp only [List.getElem?_toArray, List.getElem?_cons_succ, List.getElem?_cons_zero]; with_reducible rfl) | (simp only [List.getElem?_toArray, List.getElem?_cons_zero]; with_reducible rfl))); (focus (intro _ _ h; cases h)); (focus rfl); (focus (intro w' hJ; have LD := HLD.out _ hJ; obtain ⟨c2, c3⟩ := HQR.out _ hJ; first | (have H := fun ρ o x => @exec_load _ ρ o _ _ x _ _ LD; refine H _ _ ?_ ?_ ?_; rotate_left; (focus rfl); (focus rfl)) | (go_simp <;> with_reducible rfl))); simp only [Act.put, List.setIfInBounds_toArray, List.set_cons_zero, List.set_cons_succ]))
        have hl3 : E3.length = nn := by rw [X3.len, HNN.out]
        have h83 := X3.b8
        have CB3 := Lib.hid (cnbytes_any q g wd ht nn E3 w3 X3 HNN.out)
        refine MixL.both ?_ ?_
        · refine MixL.call (o := ?_) (f := ?_) (args := ?_) ?_ ?_ ?_ ?_
          rotate_left 3
          (focus (first | (simp only [List.getElem?_toArray, List.getElem?_cons_succ, List.getElem?_cons_zero]; with_reducible rfl) | (simp only [List.getElem?_toArray, List.getElem?_cons_zero]; with_reducible rfl)))
          (focus rfl)
          (focus (go_simp; (constructor <;> with_reducible rfl)))
          with_reducible refine (CB3.out).mono ?_
          rintro e w4 ⟨rfl, K4, b4⟩; have hI4 := hI3.trans (Only.of_below b4 [g, gr]) (fun b hb => .inl hb); refine ⟨_, rfl, hI4, ?_⟩
          simp only [Act.put, List.setIfInBounds_toArray, List.set_cons_zero, List.set_cons_succ]
          refine MixL.both ?_ ?_
          · have q2 := conv_lists (n := nn) (c := nn) (A := some ⟨w3.heap.size, 0, none⟩) (w := w4) (B := w4.heap.size) (E := E3) (lists_of_blk K4) hl3 h83
            refine MixL.does (o := ?_) (v := ?_) (w1 := ?_) ?_ ?_ ?_ ?_ ?_
            rotate_left 3
            (focus (first | (simp only [List.getElem?_toArray, List.getElem?_cons_succ, List.getElem?_cons_zero]; with_reducible rfl) | (simp only [List.getElem?_toArray, List.getElem?_cons_zero]; with_reducible rfl)))
            (focus rfl)
            (focus (go_simp; (constructor <;> with_reducible rfl)))
            (focus (exact hI4))
            simp only [Act.put, List.setIfInBounds_toArray, List.set_cons_zero, List.set_cons_succ]
            clear q2
            have q3 := conv_lists (n := nn) (c := nn) (A := some ⟨gr, 0, none⟩) (w := w4) (B := w4.heap.size) (E := E3) (lists_of_blk (Y3.row.below b4)) hl3 h83
            refine MixL.does (o := ?_) (v := ?_) (w1 := ?_) ?_ ?_ ?_ ?_ ?_
            rotate_left 3
            (focus (first | (simp only [List.getElem?_toArray, List.getElem?_cons_succ, List.getElem?_cons_zero]; with_reducible rfl) | (simp only [List.getElem?_toArray, List.getElem?_cons_zero]; with_reducible rfl)))
            (focus rfl)
            (focus (go_simp; (constructor <;> with_reducible rfl)))
            (focus (exact hI4))
            simp only [Act.put, List.setIfInBounds_toArray, List.set_cons_zero, List.set_cons_succ]
            clear q3
            repeat (first
              | (refine MixL.skip (o := ?_) ?_ ?_ ?_; rotate_left; (focus (first | (simp only [List.getElem?_toArray, List.getElem?_cons_succ, List.getElem?_cons_zero]; with_reducible rfl) | (simp only [List.getElem?_toArray, List.getElem?_cons_zero]; with_reducible rfl))); (focus rfl); simp only [Act.put, List.setIfInBounds_toArray, List.set_cons_zero, List.set_cons_succ])
              | (refine MixL.val (o := ?_) (v := ?_) ?_ ?_ ?_ ?_ ?_; rotate_left 2; (focus (first | (simp only [List.getElem?_toArray, List.getElem?_cons_succ, List.getElem?_cons_zero]; with_reducible rfl) | (simp only [List.getElem?_toArray, List.getElem?_cons_zero]; with_reducible rfl))); (focus (intro _ _ h; cases h)); (focus rfl); (focus (intro w' hJ; have LD := HLD.out _ hJ; obtain ⟨c2, c3⟩ := HQR.out _ hJ; first | (have H := fun ρ o x => @exec_load _ ρ o _ _ x _ _ LD; refine H _ _ ?_ ?_ ?_; rotate_left; (focus rfl); (focus rfl)) | (go_simp <;> with_reducible rfl))); simp only [Act.put, List.setIfInBounds_toArray, List.set_cons_zero, List.set_cons_succ]))
            refine MixL.call (o := ?_) (f := ?_) (args := ?_) ?_ ?_ ?_ ?_
            rotate_left 3
            (focus (first | (simp only [List.getElem?_toArray, List.getElem?_cons_succ, List.getElem?_cons_zero]; with_reducible rfl) | (simp only [List.getElem?_toArray, List.getElem?_cons_zero]; with_reducible rfl)))
            (focus rfl)
            (focus (go_simp; (constructor <;> with_reducible rfl)))
            with_reducible refine (CB4 w4 hI4).mono ?_
            rintro e w5 ⟨rfl, K5, b5⟩; have hI5 := hI4.trans (Only.of_below b5 [g, gr]) (fun b hb => .inl hb); refine ⟨_, rfl, hI5, ?_⟩
            simp only [Act.put, List.setIfInBounds_toArray, List.set_cons_zero, List.set_cons_succ]
            repeat (first
              | (refine MixL.skip (o := ?_) ?_ ?_ ?_; rotate_left; (focus (first | (simp only [List.getElem?_toArray, List.getElem?_cons_succ, List.getElem?_cons_zero]; with_reducible rfl) | (simp only [List.getElem?_toArray, List.getElem?_cons_zero]; with_reducible rfl))); (focus rfl); simp only [Act.put, List.setIfInBounds_toArray, List.set_cons_zero, List.set_cons_succ])
              | (refine MixL.val (o := ?_) (v := ?_) ?_ ?_ ?_ ?_ ?_; rotate_left 2; (focus (first | (simp only [List.getElem?_toArray, List.getElem?_cons_succ, List.getElem?_cons_zero]; with_reducible rfl) | (simp only [List.getElem?_toArray, List.getElem?_cons_zero]; with_reducible rfl))); (focus (intro _ _ h; cases h)); (focus rfl); (focus (intro w' hJ; have LD := HLD.out _ hJ; obtain ⟨c2, c3⟩ := HQR.out _ hJ; first | (have H := fun ρ o x => @exec_load _ ρ o _ _ x _ _ LD; refine H _ _ ?_ ?_ ?_; rotate_left; (focus rfl); (focus rfl)) | (go_simp <;> with_reducible rfl))); simp only [Act.put, List.setIfInBounds_toArray, List.set_cons_zero, List.set_cons_succ]))
            have q4 := conv_lists (n := nn) (c := nn) (A := some ⟨w4.heap.size, 0, none⟩) (w := w5) (B := w5.heap.size) (E := E) (lists_of_blk K5) hlE h8E
            refine MixL.does (o := ?_) (v := ?_) (w1 := ?_) ?_ ?_ ?_ ?_ ?_
            rotate_left 3
            (focus (first | (simp only [List.getElem?_toArray, List.getElem?_cons_succ, List.getElem?_cons_zero]; with_reducible rfl) | (simp only [List.getElem?_toArray, List.getElem?_cons_zero]; with_reducible rfl)))
            (focus rfl)
            (focus (go_simp; (constructor <;> with_reducible rfl)))
            (focus (exact hI5))
            simp only [Act.put, List.setIfInBounds_toArray, List.set_cons_zero, List.set_cons_succ]
            clear q4
            repeat (first
              | (refine MixL.skip (o := ?_) ?_ ?_ ?_; rotate_left; (focus (first | (simp only [List.getElem?_toArray, List.getElem?_cons_succ, List.getElem?_cons_zero]; with_reducible rfl) | (simp only [List.getElem?_toArray, List.getElem?_cons_zero]; with_reducible rfl))); (focus rfl); simp only [Act.put, List.setIfInBounds_toArray, List.set_cons_zero, List.set_cons_succ])
              | (refine MixL.val (o := ?_) (v := ?_) ?_ ?_ ?_ ?_ ?_; rotate_left 2; (focus (first | (simp only [List.getElem?_toArray, List.getElem?_cons_succ, List.getElem?_cons_zero]; with_reducible rfl) | (simp only [List.getElem?_toArray, List.getElem?_cons_zero]; with_reducible rfl))); (focus (intro _ _ h; cases h)); (focus rfl); (focus (intro w' hJ; have LD := HLD.out _ hJ; obtain ⟨c2, c3⟩ := HQR.out _ hJ; first | (have H := fun ρ o x => @exec_load _ ρ o _ _ x _ _ LD; refine H _ _ ?_ ?_ ?_; rotate_left; (focus rfl); (focus rfl)) | (go_simp <;> with_reducible rfl))); simp only [Act.put, List.setIfInBounds_toArray, List.set_cons_zero, List.set_cons_succ]))
            refine MixL.nil ?_
            have HXE := Lib.hid (X3.below (b4.trans (b5.mono b4.size)))
            have HYE := Lib.hid (Y3.below (b4.trans (b5.mono b4.size)))
            have HOE := Lib.hid ((HO2.out.then_below2 (show Below w2.heap.size w2 w2 from Below.refl _ _)).trans hI5 (fun b hb => .inl hb))
            clear X3 Y3 b4 b5 K4 K5 hI5 hI4 hI3
            go_wp2
            go_roundw
            case rel => exact ⟨k + 1, by omega, by go_num, E3, HXE.out, HYE.out, HOE.out⟩
            case measure => simp [intOf]; omega
          · have q3 := conv_lists (n := nn) (c := nn) (A := some ⟨gr, 0, none⟩) (w := w4) (B := w4.heap.size) (E := E3) (lists_of_blk (Y3.row.below b4)) hl3 h83
            refine MixL.does (o := ?_) (v := ?_) (w1 := ?_) ?_ ?_ ?_ ?_ ?_
            rotate_left 3
            (focus (first | (simp only [List.getElem?_toArray, List.getElem?_cons_succ, List.getElem?_cons_zero]; with_reducible rfl) | (simp only [List.getElem?_toArray, List.getElem?_cons_zero]; with_reducible rfl)))
            (focus rfl)
            (focus (go_simp; (constructor <;> with_reducible rfl)))
            (focus (exact hI4))
            simp only [Act.put, List.setIfInBounds_toArray, List.set_cons_zero, List.set_cons_succ]
            clear q3
            have q2 := conv_lists (n := nn) (c := nn) (A := some ⟨w3.heap.size, 0, none⟩) (w := w4) (B := w4.heap.size) (E := E3) (lists_of_blk K4) hl3 h83
            refine MixL.does (o := ?_) (v := ?_) (w1 := ?_) ?_ ?_ ?_ ?_ ?_
            rotate_left 3
            (focus (first | (simp only [List.getElem?_toArray, List.getElem?_cons_succ, List.getElem?_cons_zero]; with_reducible rfl) | (simp only [List.getElem?_toArray, List.getElem?_cons_zero]; with_reducible rfl)))
            (focus rfl)
            (focus (go_simp; (constructor <;> with_reducible rfl)))
            (focus (exact hI4))
            simp only [Act.put, List.setIfInBounds_toArray, List.set_cons_zero, List.set_cons_succ]
            clear q2
            repeat (first
              | (refine MixL.skip (o := ?_) ?_ ?_ ?_; rotate_left; (focus (first | (simp only [List.getElem?_toArray, List.getElem?_cons_succ, List.getElem?_cons_zero]; with_reducible rfl) | (simp only [List.getElem?_toArray, List.getElem?_cons_zero]; with_reducible rfl))); (focus rfl); simp only [Act.put, List.setIfInBounds_toArray, List.set_cons_zero, List.set_cons_succ])
              | (refine MixL.val (o := ?_) (v := ?_) ?_ ?_ ?_ ?_ ?_; rotate_left 2; (focus (first | (simp only [List.getElem?_toArray, List.getElem?_cons_succ, List.getElem?_cons_zero]; with_reducible rfl) | (simp only [List.getElem?_toArray, List.getElem?_cons_zero]; with_reducible rfl))); (focus (intro _ _ h; cases h)); (focus rfl); (focus (intro w' hJ; have LD := HLD.out _ hJ; obtain ⟨c2, c3⟩ := HQR.out _ hJ; first | (have H := fun ρ o x => @exec_load _ ρ o _ _ x _ _ LD; refine H _ _ ?_ ?_ ?_; rotate_left; (focus rfl); (focus rfl)) | (go_simp <;> with_reducible rfl))); simp only [Act.put, List.setIfInBounds_toArray, List.set_cons_zero, List.set_cons_succ]))
            refine MixL.call (o := ?_) (f := ?_) (args := ?_) ?_ ?_ ?_ ?_
            rotate_left 3
            (focus (first | (simp only [List.getElem?_toArray, List.getElem?_cons_succ, List.getElem?_cons_zero]; with_reducible rfl) | (simp only [List.getElem?_toArray, List.getElem?_cons_zero]; with_reducible rfl)))
            (focus rfl)
            (focus (go_simp; (constructor <;> with_reducible rfl)))
            with_reducible refine (CB4 w4 hI4).mono ?_
            rintro e w5 ⟨rfl, K5, b5⟩; have hI5 := hI4.trans (Only.of_below b5 [g, gr]) (fun b hb => .inl hb); refine ⟨_, rfl, hI5, ?_⟩
            simp only [Act.put, List.setIfInBounds_toArray, List.set_cons_zero, List.set_cons_succ]
            repeat (first
              | (refine MixL.skip (o := ?_) ?_ ?_ ?_; rotate_left; (focus (first | (simp only [List.getElem?_toArray, List.getElem?_cons_succ, List.getElem?_cons_zero]; with_reducible rfl) | (simp only [List.getElem?_toArray, List.getElem?_cons_zero]; with_reducible rfl))); (focus rfl); simp only [Act.put, List.setIfInBounds_toArray, List.set_cons_zero, List.set_cons_succ])
              | (refine MixL.val (o := ?_) (v := ?_) ?_ ?_ ?_ ?_ ?_; rotate_left 2; (focus (first | (simp only [List.getElem?_toArray, List.getElem?_cons_succ, List.getElem?_cons_zero]; with_reducible rfl) | (simp only [List.getElem?_toArray, List.getElem?_cons_zero]; with_reducible rfl))); (focus (intro _ _ h; cases h)); (focus rfl); (focus (intro w' hJ; have LD := HLD.out _ hJ; obtain ⟨c2, c3⟩ := HQR.out _ hJ; first | (have H := fun ρ o x => @exec_load _ ρ o _ _ x _ _ LD; refine H _ _ ?_ ?_ ?_; rotate_left; (focus rfl); (focus rfl)) | (go_simp <;> with_reducible rfl))); simp only [Act.put, List.setIfInBounds_toArray, List.set_cons_zero, List.set_cons_succ]))
            have q4 := conv_lists (n := nn) (c := nn) (A := some ⟨w4.heap.size, 0, none⟩) (w := w5) (B := w5.heap.size) (E := E) (lists_of_blk K5) hlE h8E
            refine MixL.does (o := ?_) (v := ?_) (w1 := ?_) ?_ ?_ ?_ ?_ ?_
            rotate_left 3
            (focus (first | (simp only [List.getElem?_toArray, List.getElem?_cons_succ, List.getElem?_cons_zero]; with_reducible rfl) | (simp only [List.getElem?_toArray, List.getElem?_cons_zero]; with_reducible rfl)))
            (focus rfl)
            (focus (go_simp; (constructor <;> with_reducible rfl)))
            (focus (exact hI5))
            simp only [Act.put, List.setIfInBounds_toArray, List.set_cons_zero, List.set_cons_succ]
            clear q4
            repeat (first
              | (refine MixL.skip (o := ?_) ?_ ?_ ?_; rotate_left; (focus (first | (simp only [List.getElem?_toArray, List.getElem?_cons_succ, List.getElem?_cons_zero]; with_reducible rfl) | (simp only [List.getElem?_toArray, List.getElem?_cons_zero]; with_reducible rfl))); (focus rfl); simp only [Act.put, List.setIfInBounds_toArray, List.set_cons_zero, List.set_cons_succ])
              | (refine MixL.val (o := ?_) (v := ?_) ?_ ?_ ?_ ?_ ?_; rotate_left 2; (focus (first | (simp only [List.getElem?_toArray, List.getElem?_cons_succ, List.getElem?_cons_zero]; with_reducible rfl) | (simp only [List.getElem?_toArray, List.getElem?_cons_zero]; with_reducible rfl))); (focus (intro _ _ h; cases h)); (focus rfl); (focus (intro w' hJ; have LD := HLD.out _ hJ; obtain ⟨c2, c3⟩ := HQR.out _ hJ; first | (have H := fun ρ o x => @exec_load _ ρ o _ _ x _ _ LD; refine H _ _ ?_ ?_ ?_; rotate_left; (focus rfl); (focus rfl)) | (go_simp <;> with_reducible rfl))); simp only [Act.put, List.setIfInBounds_toArray, List.set_cons_zero, List.set_cons_succ]))
            refine MixL.nil ?_
            have HXE := Lib.hid (X3.below (b4.trans (b5.mono b4.size)))
            have HYE := Lib.hid (Y3.below (b4.trans (b5.mono b4.size)))
            have HOE := Lib.hid ((HO2.out.then_below2 (show Below w2.heap.size w2 w2 from Below.refl _ _)).trans hI5 (fun b hb => .inl hb))
            clear X3 Y3 b4 b5 K4 K5 hI5 hI4 hI3
            go_wp2
            go_roundw
            case rel => exact ⟨k + 1, by omega, by go_num, E3, HXE.out, HYE.out, HOE.out⟩
            case measure => simp [intOf]; omega
        · have q3 := conv_lists (n := nn) (c := nn) (A := some ⟨gr, 0, none⟩) (w := w3) (B := w3.heap.size) (E := E3) (lists_of_blk (Y3.row)) hl3 h83
          refine MixL.does (o := ?_) (v := ?_) (w1 := ?_) ?_ ?_ ?_ ?_ ?_
          rotate_left 3
          (focus (first | (simp only [List.getElem?_toArray, List.getElem?_cons_succ, List.getElem?_cons_zero]; with_reducible rfl) | (simp only [List.getElem?_toArray, List.getElem?_cons_zero]; with_reducible rfl)))
          (focus rfl)
          (focus (go_simp; (constructor <;> with_reducible rfl)))
          (focus (exact hI3))
          simp only [Act.put, List.setIfInBounds_toArray, List.set_cons_zero, List.set_cons_succ]
          clear q3
          refine MixL.call (o := ?_) (f := ?_) (args := ?_) ?_ ?_ ?_ ?_
          rotate_left 3
          (focus (first | (simp only [List.getElem?_toArray, List.getElem?_cons_succ, List.getElem?_cons_zero]; with_reducible rfl) | (simp only [List.getElem?_toArray, List.getElem?_cons_zero]; with_reducible rfl)))
          (focus rfl)
          (focus (go_simp; (constructor <;> with_reducible rfl)))
          with_reducible refine (CB3.out).mono ?_
          rintro e w4 ⟨rfl, K4, b4⟩; have hI4 := hI3.trans (Only.of_below b4 [g, gr]) (fun b hb => .inl hb); refine ⟨_, rfl, hI4, ?_⟩
          simp only [Act.put, List.setIfInBounds_toArray, List.set_cons_zero, List.set_cons_succ]
          have q2 := conv_lists (n := nn) (c := nn) (A := some ⟨w3.heap.size, 0, none⟩) (w := w4) (B := w4.heap.size) (E := E3) (lists_of_blk K4) hl3 h83
          refine MixL.does (o := ?_) (v := ?_) (w1 := ?_) ?_ ?_ ?_ ?_ ?_
          rotate_left 3
          (focus (first | (simp only [List.getElem?_toArray, List.getElem?_cons_succ, List.getElem?_cons_zero]; with_reducible rfl) | (simp only [List.getElem?_toArray, List.getElem?_cons_zero]; with_reducible rfl)))
          (focus rfl)
          (focus (go_simp; (constructor <;> with_reducible rfl)))
          (focus (exact hI4))
          simp only [Act.put, List.setIfInBounds_toArray, List.set_cons_zero, List.set_cons_succ]
          clear q2
          repeat (first
            | (refine MixL.skip (o := ?_) ?_ ?_ ?_; rotate_left; (focus (first | (simp only [List.getElem?_toArray, List.getElem?_cons_succ, List.getElem?_cons_zero]; with_reducible rfl) | (simp only [List.getElem?_toArray, List.getElem?_cons_zero]; with_reducible rfl))); (focus rfl); simp only [Act.put, List.setIfInBounds_toArray, List.set_cons_zero, List.set_cons_succ])
            | (refine MixL.val (o := ?_) (v := ?_) ?_ ?_ ?_ ?_ ?_; rotate_left 2; (focus (first | (simp only [List.getElem?_toArray, List.getElem?_cons_succ, List.getElem?_cons_zero]; with_reducible rfl) | (simp only [List.getElem?_toArray, List.getElem?_cons_zero]; with_reducible rfl))); (focus (intro _ _ h; cases h)); (focus rfl); (focus (intro w' hJ; have LD := HLD.out _ hJ; obtain ⟨c2, c3⟩ := HQR.out _ hJ; first | (have H := fun ρ o x => @exec_load _ ρ o _ _ x _ _ LD; refine H _ _ ?_ ?_ ?_; rotate_left; (focus rfl); (focus rfl)) | (go_simp <;> with_reducible rfl))); simp only [Act.put, List.setIfInBounds_toArray, List.set_cons_zero, List.set_cons_succ]))
          refine MixL.call (o := ?_) (f := ?_) (args := ?_) ?_ ?_ ?_ ?_
          rotate_left 3
          (focus (first | (simp only [List.getElem?_toArray, List.getElem?_cons_succ, List.getElem?_cons_zero]; with_reducible rfl) | (simp only [List.getElem?_toArray, List.getElem?_cons_zero]; with_reducible rfl)))
          (focus rfl)
          (focus (go_simp; (constructor <;> with_reducible rfl)))
          with_reducible refine (CB4 w4 hI4).mono ?_
          rintro e w5 ⟨rfl, K5, b5⟩; have hI5 := hI4.trans (Only.of_below b5 [g, gr]) (fun b hb => .inl hb); refine ⟨_, rfl, hI5, ?_⟩
          simp only [Act.put, List.setIfInBounds_toArray, List.set_cons_zero, List.set_cons_succ]
          repeat (first
            | (refine MixL.skip (o := ?_) ?_ ?_ ?_; rotate_left; (focus (first | (simp only [List.getElem?_toArray, List.getElem?_cons_succ, List.getElem?_cons_zero]; with_reducible rfl) | (simp only [List.getElem?_toArray, List.getElem?_cons_zero]; with_reducible rfl))); (focus rfl); simp only [Act.put, List.setIfInBounds_toArray, List.set_cons_zero, List.set_cons_succ])
            | (refine MixL.val (o := ?_) (v := ?_) ?_ ?_ ?_ ?_ ?_; rotate_left 2; (focus (first | (simp only [List.getElem?_toArray, List.getElem?_cons_succ, List.getElem?_cons_zero]; with_reducible rfl) | (simp only [List.getElem?_toArray, List.getElem?_cons_zero]; with_reducible rfl))); (focus (intro _ _ h; cases h)); (focus rfl); (focus (intro w' hJ; have LD := HLD.out _ hJ; obtain ⟨c2, c3⟩ := HQR.out _ hJ; first | (have H := fun ρ o x => @exec_load _ ρ o _ _ x _ _ LD; refine H _ _ ?_ ?_ ?_; rotate_left; (focus rfl); (focus rfl)) | (go_simp <;> with_reducible rfl))); simp only [Act.put, List.setIfInBounds_toArray, List.set_cons_zero, List.set_cons_succ]))
          have q4 := conv_lists (n := nn) (c := nn) (A := some ⟨w4.heap.size, 0, none⟩) (w := w5) (B := w5.heap.size) (E := E) (lists_of_blk K5) hlE h8E
          refine MixL.does (o := ?_) (v := ?_) (w1 := ?_) ?_ ?_ ?_ ?_ ?_
          rotate_left 3
          (focus (first | (simp only [List.getElem?_toArray, List.getElem?_cons_succ, List.getElem?_cons_zero]; with_reducible rfl) | (simp only [List.getElem?_toArray, List.getElem?_cons_zero]; with_reducible rfl)))
          (focus rfl)
          (focus (go_simp; (constructor <;> with_reducible rfl)))
          (focus (exact hI5))
          simp only [Act.put, List.setIfInBounds_toArray, List.set_cons_zero, List.set_cons_succ]
          clear q4
          repeat (first
            | (refine MixL.skip (o := ?_) ?_ ?_ ?_; rotate_left; (focus (first | (simp only [List.getElem?_toArray, List.getElem?_cons_succ, List.getElem?_cons_zero]; with_reducible rfl) | (simp only [List.getElem?_toArray, List.getElem?_cons_zero]; with_reducible rfl))); (focus rfl); simp only [Act.put, List.setIfInBounds_toArray, List.set_cons_zero, List.set_cons_succ])
            | (refine MixL.val (o := ?_) (v := ?_) ?_ ?_ ?_ ?_ ?_; rotate_left 2; (focus (first | (simp only [List.getElem?_toArray, List.getElem?_cons_succ, List.getElem?_cons_zero]; with_reducible rfl) | (simp only [List.getElem?_toArray, List.getElem?_cons_zero]; with_reducible rfl))); (focus (intro _ _ h; cases h)); (focus rfl); (focus (intro w' hJ; have LD := HLD.out _ hJ; obtain ⟨c2, c3⟩ := HQR.out _ hJ; first | (have H := fun ρ o x => @exec_load _ ρ o _ _ x _ _ LD; refine H _ _ ?_ ?_ ?_; rotate_left; (focus rfl); (focus rfl)) | (go_simp <;> with_reducible rfl))); simp only [Act.put, List.setIfInBounds_toArray, List.set_cons_zero, List.set_cons_succ]))
          refine MixL.nil ?_
          have HXE := Lib.hid (X3.below (b4.trans (b5.mono b4.size)))
          have HYE := Lib.hid (Y3.below (b4.trans (b5.mono b4.size)))
          have HOE := Lib.hid ((HO2.out.then_below2 (show Below w2.heap.size w2 w2 from Below.refl _ _)).trans hI5 (fun b hb => .inl hb))
          clear X3 Y3 b4 b5 K4 K5 hI5 hI4 hI3
          go_wp2
          go_roundw
          case rel => exact ⟨k + 1, by omega, by go_num, E3, HXE.out, HYE.out, HOE.out⟩
          case measure => simp [intOf]; omega
    · have hd := HXk.out.dim
      have hA1 : atC wd ht E (wd : Int) 0 = 0 := by unfold atC; rw [if_neg (by omega)]
      have hA2 : atC wd ht E (-1) 0 = 0 := by unfold atC; rw [if_neg (by omega)]
      have CA := fun (x y : Int) U (hU : CnV U q g wd ht E) => cnat_any q g wd ht E x y U hU
      have CRA := fun (x y : Int) U (hU : RCn U qr gr wd ht E) => rcat_any qr gr wd ht E x y U hU
      have HB9 := Lib.hid (HB.out.trans (HOk.out.to_below HB.out.size (by intro b hb; simp at hb; omega)))
      have X9 := HXk.out
      have Y9 := HYk.out
      have B9 := Below.refl wr.heap.size wr
      clear hd
      by_cases hk1 : k < n
      · have hk2 : ¬ k < 40 := fun h => hkn ⟨hk1, h⟩
        go_wp2_with (first | (go_at_call 15; ((with_reducible refine (cnsize_any q g wd ht E wr X9).mono ?_); rintro e w8 ⟨rfl, b8⟩; have X9 := X9.below b8; have Y9 := Y9.below b8; have B9 := B9.trans (b8.mono B9.size))) | (go_at_call 16; ((with_reducible refine (CA _ _ _ (X9)).mono ?_); rintro e w8 ⟨rfl, b8⟩; have X9 := X9.below b8; have Y9 := Y9.below b8; have B9 := B9.trans (b8.mono B9.size))) | (go_at_call 17; ((with_reducible refine (CRA _ _ _ (Y9)).mono ?_); rintro e w8 ⟨rfl, b8⟩; have X9 := X9.below b8; have Y9 := Y9.below b8; have B9 := B9.trans (b8.mono B9.size))))
        go_ret
        exact ⟨by simp, HB9.out.trans (B9.mono HB9.out.size)⟩
      · go_wp2_with (first | (go_at_call 15; ((with_reducible refine (cnsize_any q g wd ht E wr X9).mono ?_); rintro e w8 ⟨rfl, b8⟩; have X9 := X9.below b8; have Y9 := Y9.below b8; have B9 := B9.trans (b8.mono B9.size))) | (go_at_call 16; ((with_reducible refine (CA _ _ _ (X9)).mono ?_); rintro e w8 ⟨rfl, b8⟩; have X9 := X9.below b8; have Y9 := Y9.below b8; have B9 := B9.trans (b8.mono B9.size))) | (go_at_call 17; ((with_reducible refine (CRA _ _ _ (Y9)).mono ?_); rintro e w8 ⟨rfl, b8⟩; have X9 := X9.below b8; have Y9 := Y9.below b8; have B9 := B9.trans (b8.mono B9.size))))
        go_ret
        exact ⟨by simp, HB9.out.trans (B9.mono HB9.out.size)⟩
theorem walk (a : Int) (_ : (Lit.int .i64 a).wf = true) (b : Int) (_ : (Lit.int .i64 b).wf = true) (c : Int) (_ : (Lit.int .i64 c).wf = true) (As : Option Addr) (cs : Nat) (L : List CRec) (k0 : L.length ≤ cs) (m0 : cs ≤ 9223372036854775807) (l0 : Lists W W.heap.size As (L.flatMap crL)) (s0 : ∀ r ∈ L, CrOk W W.heap.size r) : Calls Try.prog 3 #[.int .i64 a, .int .i64 b, .int .i64 c, .slice As L.length cs] W fun e w' => e = .returned (.bool true) ∧ Below W.heap.size W w' := by
  by_cases hp : 10000 < wrap64 (a * b)
  · cases hm0 : mayCn a b 0
    · have hm : mayCn a b c = false := by
        cases hm : mayCn a b c
        · rfl
        · rw [may_zero hm] at hm0; cases hm0
      exact out_3 a b c As cs L k0 m0 l0 s0 hp hm0 hm
    · exact out_1 a b c As cs L k0 m0 l0 s0 hp hm0
  · cases hm : mayCn a b c
    · exact out_2 a b c As cs L k0 m0 l0 s0 hp hm
    · have h := hm
      unfold mayCn at h
      simp only [Bool.and_eq_true] at h
      have h1 := inB_in h.1.1
      have h2 := inB_in h.1.2
      obtain ⟨wd, rfl⟩ : ∃ wd : Nat, a = wd := ⟨a.toNat, by omega⟩
      obtain ⟨ht, rfl⟩ : ∃ ht : Nat, b = ht := ⟨b.toNat, by omega⟩
      exact main wd ht c As cs L k0 m0 l0 s0 hp hm

set_option linter.unusedVariables false in
set_option maxRecDepth 100000 in
theorem lifted (os : Os) (started : os.Started) (H : Type) (enc : TypeId × Value → H) :
    ReturnsInHanded {} Try.checked os 3 .any (Rows.canvasDoesSpec.pre6 enc Try.prog Try.f3 Rows.canvasDoesRow.domain false) (Rows.canvasDoesSpec.post enc Try.prog Try.f3 false true false false) := by
  refine returnsInHanded_of_change (C := Try.checked) Try.own started (by kernel_rfl) Try.func3
    (ChangeSpec.witness6 (enc := enc) (C := Try.checked) false ⟨#[], #[.int .i64 0, .int .i64 0, .int .i64 0, .slice none 0 0], []⟩ 8 (by kernel_rfl) (by kernel_rfl) (by kernel_rfl) (by kernel_rfl)) ?_
  intro W base args ds gs before hval0 hW hcnd _
  have hval : ∀ (j : Nat) t v, Try.f3.params[j]? = some t → args[j]? = some v → Value.okWide Try.prog W .any base t v := hval0
  have hW' := hW
  obtain ⟨p, q, hA0, hV, rfl, hfz, hnd⟩ := hW
  have hA : DataW.TrodAll enc Try.prog W 0 (fun _ => true) true Try.f3.params.toList args.toList ds p := hA0
  rw [Try.params3] at hA hval
  obtain ⟨v0, vs0, d0, ds0, p0, q0, hargs, rfl, rfl, h0, r0⟩ := trodAll_cons hA
  obtain ⟨v1, vs1, d1, ds1, p1, q1, rfl, rfl, rfl, h1, r1⟩ := trodAll_cons r0
  obtain ⟨v2, vs2, d2, ds2, p2, q2, rfl, rfl, rfl, h2, r2⟩ := trodAll_cons r1
  obtain ⟨v3, vs3, d3, ds3, p3, q3, rfl, rfl, rfl, h3, r3⟩ := trodAll_cons r2
  obtain ⟨rfl, rfl, rfl⟩ := trodAll_nil r3
  obtain rfl : args = #[v0, v1, v2, v3] := by cases args; simp_all
  obtain ⟨rfl, rfl⟩ := trodVars_none hV
  obtain ⟨a0, rfl, rfl, rfl, w0⟩ := open_int Try.underlying3 (hval 0 3 v0 rfl rfl) h0
  obtain ⟨a1, rfl, rfl, rfl, w1⟩ := open_int Try.underlying3 (hval 1 3 v1 rfl rfl) h1
  obtain ⟨a2, rfl, rfl, rfl, w2⟩ := open_int Try.underlying3 (hval 2 3 v2 rfl rfl) h2
  obtain ⟨A3, c3, L3, rfl, k3, m3, l3, s3⟩ := open_calls (hval 3 22 v3 rfl rfl) h3
  clear hA0 hval0
  simp only [List.append_nil] at hW'
  refine (walk (W := W) a0 w0 a1 w1 a2 w2 A3 c3 L3 k3 m3 l3 s3).mono fun e W' ⟨he, hg⟩ => ?_
  subst he
  exact ⟨_, rfl, law_post Try.laidOut rfl Try.underlying4 (by kernel_rfl) rfl rfl rfl rfl hW' hg⟩

theorem over : Rows.canvasDoesRow.holds Try.pinned (OpenSpec.ofChange Rows.canvasDoesSpec) :=
  OpenClaim.holds_of_wide 3 Try.f3 rfl rfl rfl rfl rfl rfl rfl ⟨rfl, rfl, rfl, rfl, rfl⟩ rfl rfl rfl rfl rfl (by kernel_rfl) Try.func3 (by kernel_rfl)
    (of_decide_eq_true (by kernel_rfl)) (by unfold Func.isWrapper; first | (rw [if_pos (by decide +kernel)]; kernel_rfl) | (rw [if_neg (by decide +kernel)]; exact ⟨rfl, rfl⟩))
    (fun os started H enc _ => lifted os started H enc)

theorem proved : Rows.CanvasDoesSaid :=
  over

end Go.Proofs.Ytlbbigehjdnjmaa.canvasDoes
