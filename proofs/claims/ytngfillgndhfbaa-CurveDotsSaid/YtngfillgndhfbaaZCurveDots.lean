/- CurveDots: the places of any bow, as far as one goes on; the last one is its end; for every bow and every int. -/
import Derived.Test.YtngfillgndhfbaaM0CurveDots

namespace Go.Proofs.Ytngfillgndhfbaa.curveDots
open Go Go.Shelf Go.ChangeShapes Go.WideShapes Go.ChangeAt Go.RowKit
set_option linter.unusedVariables false
set_option linter.unusedSimpArgs false

attribute [local go_sem] Oper.semAt_some
set_option maxRecDepth 100000 in
set_option maxHeartbeats 4000000 in
theorem none_ (c : Bw) (s : Int) (w : World) (hm : mayW c = false) : Calls Try.prog 5 #[bwV c, .int .i64 s] w fun e w' => e = .returned (.bool true) ∧ Below w.heap.size w w' := by
  have CD := fun W => dots_any c W
  have CL := fun W => lives20 W
  have CRM := fun W => rcmay_any c W
  rw [hm] at CRM
  have hp : pcW c = ((0 : Nat) : Int) := by unfold pcW; rw [hm]; rfl
  have n1 := fun W g a b => eqlf1D (P := Try.prog) W 36 g a b Try.underlying36
  simp only [bwV] at *
  have KB := (Blk.new w 25 #[.int .i64 c.k, .int .i64 c.xa, .int .i64 c.ya, .int .i64 c.xb, .int .i64 c.yb, .int .i64 c.xc, .int .i64 c.yc, .int .i64 c.xd, .int .i64 c.yd]).below (below_a2 _ (.cells #[.int .i64 s] 3) (.cells #[.bool false] 4))
  have KS := Blk.new (w.alloc (.cells #[.int .i64 c.k, .int .i64 c.xa, .int .i64 c.ya, .int .i64 c.xb, .int .i64 c.yb, .int .i64 c.xc, .int .i64 c.yc, .int .i64 c.xd, .int .i64 c.yd] 25)) 3 #[.int .i64 s]
  have KT := Blk.new ((w.alloc (.cells #[.int .i64 c.k, .int .i64 c.xa, .int .i64 c.ya, .int .i64 c.xb, .int .i64 c.yb, .int .i64 c.xc, .int .i64 c.yc, .int .i64 c.xd, .int .i64 c.yd] 25)).alloc (.cells #[.int .i64 s] 3)) 4 #[.bool false]
  have B0 := below_a3 w (.cells #[.int .i64 c.k, .int .i64 c.xa, .int .i64 c.ya, .int .i64 c.xb, .int .i64 c.yb, .int .i64 c.xc, .int .i64 c.yc, .int .i64 c.xd, .int .i64 c.yd] 25) (.cells #[.int .i64 s] 3) (.cells #[.bool false] 4)
  simp only [World.size_alloc] at KS KT
  have KS := KS.below (below_a1 _ (.cells #[.bool false] 4))
  have HKB := Lib.hid KB
  have HKS := Lib.hid KS
  have HKT := Lib.hid KT
  have HB0 := Lib.hid B0
  clear KB KS KT B0
  refine (callsIn_wide (n := 3)).1 ?_
  refine callsIn_of_wp_marks Try.func5 rfl trivial ?_
  simp only [Try.ntmps5, List.size_toArray, List.length_cons, List.length_nil, Nat.reduceAdd, Nat.reduceSub, Array.replicate_succ, Array.replicate_zero, List.push_toArray, List.append_toArray, List.nil_append, List.cons_append]
  refine wpIn_wide.2 ?_
  have hK := HB0.out
  have HKV := HKB
  have HTV := HKT
  have HSV := HKS
  go_wp2_with (first | (go_at_call 19; ((with_reducible refine (CD _).mono ?_); rintro e w1 ⟨rfl, HX, b1⟩; have hK := hK.trans (b1.mono hK.size); have KV := HKV.out.below b1; have kc := KV.lt; have k0 := KV.cell 0; have k1 := KV.cell 1; have k2 := KV.cell 2; have k3 := KV.cell 3; have k4 := KV.cell 4; have k5 := KV.cell 5; have k6 := KV.cell 6; have k7 := KV.cell 7; have k8 := KV.cell 8; simp only [bwL, List.getElem?_toArray, List.getElem?_cons_succ, List.getElem?_cons_zero] at k0 k1 k2 k3 k4 k5 k6 k7 k8; have HKV := Lib.hid KV; have HTV := Lib.hid (HTV.out.below b1); have HSV := Lib.hid (HSV.out.below b1); simp only [World.size_alloc] at HX; have hxl := HX.lt; have HXV := Lib.hid HX; clear KV)) | (go_at_call 10; ((with_reducible refine (CL _).mono ?_); rintro e w1 ⟨rfl, b1⟩; have hK := hK.trans (b1.mono hK.size); have KV := HKV.out.below b1; have kc := KV.lt; have k0 := KV.cell 0; have k1 := KV.cell 1; have k2 := KV.cell 2; have k3 := KV.cell 3; have k4 := KV.cell 4; have k5 := KV.cell 5; have k6 := KV.cell 6; have k7 := KV.cell 7; have k8 := KV.cell 8; simp only [bwL, List.getElem?_toArray, List.getElem?_cons_succ, List.getElem?_cons_zero] at k0 k1 k2 k3 k4 k5 k6 k7 k8; have HKV := Lib.hid KV; have HTV := Lib.hid (HTV.out.below b1); have HSV := Lib.hid (HSV.out.below b1); have HXV := Lib.hid (HXV.out.below b1); clear KV)) | (go_at_call 12; ((with_reducible refine (CRM _).mono ?_); rintro e w1 ⟨rfl, b1⟩; have hK := hK.trans (b1.mono hK.size); have KV := HKV.out.below b1; have kc := KV.lt; have k0 := KV.cell 0; have k1 := KV.cell 1; have k2 := KV.cell 2; have k3 := KV.cell 3; have k4 := KV.cell 4; have k5 := KV.cell 5; have k6 := KV.cell 6; have k7 := KV.cell 7; have k8 := KV.cell 8; simp only [bwL, List.getElem?_toArray, List.getElem?_cons_succ, List.getElem?_cons_zero] at k0 k1 k2 k3 k4 k5 k6 k7 k8; have HKV := Lib.hid KV; have HTV := Lib.hid (HTV.out.below b1); have HSV := Lib.hid (HSV.out.below b1); have HXV := Lib.hid (HXV.out.below b1); clear KV)))
  have hTl := HTV.out.lt
  have hcl := HKV.out.lt
  clear k0 k1 k2 k3 k4 k5 k6 k7 k8 kc
  refine (wpIn_wide (n := 3)).1 ?_
  refine wpIn_rangeC (F := Fence.wide) (n := 3) rfl (by omega) (gf := 33) (lb := #[.pointer (some ⟨w.heap.size + 1 + 1 + 1, 0, none⟩)]) rfl trivial (enters_of Try.func33 (by kernel_rfl) rfl)
    (dots_stops _ w.heap.size 0 c _ HXV.out hcl hp) KpD.trans (kpD_b (by omega)) (Below.refl _ _) (fun _ => rfl) (fun pre x X Y row hs hg hr => hs)
    (fun pre V => Blk V (w.heap.size + 1 + 1) 4 #[.bool false] ∧ Below w.heap.size w V)
    (fun c pre V => False)
    (OwnFrom.and (fun pre X Y row hs hg hr => blk_grownD hs (by omega) hg hr) (ownFrom_below (by omega) (by have := hK.size; omega)))
    (fun c pre X Y row hs hg hr => hs)
    ⟨HTV.out, hK⟩
    (fun x => { tmps := #[.agg #[.int .i64 c.k, .int .i64 c.xa, .int .i64 c.ya, .int .i64 c.xb, .int .i64 c.yb, .int .i64 c.xc, .int .i64 c.yc, .int .i64 c.xd, .int .i64 c.yd], .int .i64 s, .pointer (some ⟨w.heap.size, 0, none⟩), .pointer (some ⟨w.heap.size + 1, 0, none⟩), .pointer (some ⟨w.heap.size + 1 + 1, 0, none⟩), .func (.func 33) #[] #[.pointer (some ⟨w.heap.size + 1 + 1 + 1, 0, none⟩)], undef, undef, undef, .agg #[.int .i64 c.k, .int .i64 c.xa, .int .i64 c.ya, .int .i64 c.xb, .int .i64 c.yb, .int .i64 c.xc, .int .i64 c.yc, .int .i64 c.xd, .int .i64 c.yd], .func (.func 33) #[] #[.pointer (some ⟨w.heap.size + 1 + 1 + 1, 0, none⟩)], .bool true, .bool false, .bool false, .func (.func 33) #[] #[.pointer (some ⟨w.heap.size + 1 + 1 + 1, 0, none⟩)], .bool false, .bool false, .agg #[.int .i64 c.k, .int .i64 c.xa, .int .i64 c.ya, .int .i64 c.xb, .int .i64 c.yb, .int .i64 c.xc, .int .i64 c.yc, .int .i64 c.xd, .int .i64 c.yd], .bool false, .bool true, .func (.func 33) #[] #[.pointer (some ⟨w.heap.size + 1 + 1 + 1, 0, none⟩)], .agg #[.int .i64 x.1, .int .i64 x.2], undef, undef, undef, undef, undef, undef, undef, undef, undef, undef, undef, undef, undef, undef, undef, undef, undef, undef, undef, undef, undef, undef, undef, undef, undef, undef, undef, undef, undef, undef, undef, undef, undef, undef], defers := [] })
    ?assign ?body ?done ?stop
  case assign =>
    intro l x W K hK
    gi_wp2
    exact hK
  case body =>
    rintro l pre x W hI ⟨h1, h2⟩
    exact absurd h1 (Nat.not_lt_zero _)
  case done =>
    rintro D2 xs V hD hxs ⟨R3, B3⟩ hK2
    have hDl := (Array.getElem?_eq_some_iff.1 hK2).1
    have r0 := R3.cell 0
    have f0 := R3.frozen 0
    have l0 := R3.lt
    have hK' := (KeepsOthers.setCell V ⟨w.heap.size + 1 + 1, 0, none⟩ (.bool true)).same D2 _ hK2 rfl
    have br2 := R3.set 0 (.bool true)
    have hc5 := cell_kept (br2.cell 0) (grownBy_putObj' _ D2 (.deferred none)) (fun r e => by cases e; exact ⟨_, hK', rfl⟩)
    have BX := B3.setCell (p := ⟨w.heap.size + 1 + 1, 0, none⟩) (by simp; omega) (.bool true)
    have hBF := BX.trans (belowK_b (w := w) (Nat.le_refl _) _ D2 _ (.deferred none) (by have := hK.size; omega) hK' rfl rfl)
    clear BX br2
    go_wp2
    refine ⟨by simp, .inl ⟨_, _, rfl, run_takeDeferred hK', ?_⟩⟩
    refine ⟨.bool true, ?_, rfl, hBF⟩
    simp [results, Try.f5, go_sem, hc5]
  case stop =>
    rintro D2 cc pre V hD _ hf hK2
    exact hf.elim
set_option maxRecDepth 100000 in
set_option maxHeartbeats 4000000 in
theorem good (c : Bw) (s : Int) (w : World) (hm : mayW c = true) : Calls Try.prog 5 #[bwV c, .int .i64 s] w fun e w' => e = .returned (.bool true) ∧ Below w.heap.size w w' := by
  have CD := fun W => dots_any c W
  have CL := fun W => lives20 W
  have CRM := fun W => rcmay_any c W
  have CRP := fun W => rpcs_any c hm W
  have HRA := Lib.hid (fun (i n : Int) i0 i1 n1 n2 W => rat_any c i n hm i0 i1 n1 n2 W)
  rw [hm] at CRM
  obtain ⟨N, hN⟩ : ∃ N : Nat, pcW c = (N : Int) := ⟨(pcW c).toNat, by have := pcs_in (need c); unfold pcW; rw [if_pos hm]; omega⟩
  have hN1 : 1 ≤ N ∧ N ≤ 256 := by have := pcs_in (need c); unfold pcW at hN; rw [if_pos hm] at hN; omega
  obtain ⟨hN1, hN2⟩ := hN1
  have HND := Lib.hid (atW_n c N (by omega))
  rw [hN] at CRP
  have n1 := fun W g a b => eqlf1D (P := Try.prog) W 36 g a b Try.underlying36
  simp only [bwV] at *
  have KB := (Blk.new w 25 #[.int .i64 c.k, .int .i64 c.xa, .int .i64 c.ya, .int .i64 c.xb, .int .i64 c.yb, .int .i64 c.xc, .int .i64 c.yc, .int .i64 c.xd, .int .i64 c.yd]).below (below_a2 _ (.cells #[.int .i64 s] 3) (.cells #[.bool false] 4))
  have KS := Blk.new (w.alloc (.cells #[.int .i64 c.k, .int .i64 c.xa, .int .i64 c.ya, .int .i64 c.xb, .int .i64 c.yb, .int .i64 c.xc, .int .i64 c.yc, .int .i64 c.xd, .int .i64 c.yd] 25)) 3 #[.int .i64 s]
  have KT := Blk.new ((w.alloc (.cells #[.int .i64 c.k, .int .i64 c.xa, .int .i64 c.ya, .int .i64 c.xb, .int .i64 c.yb, .int .i64 c.xc, .int .i64 c.yc, .int .i64 c.xd, .int .i64 c.yd] 25)).alloc (.cells #[.int .i64 s] 3)) 4 #[.bool false]
  have B0 := below_a3 w (.cells #[.int .i64 c.k, .int .i64 c.xa, .int .i64 c.ya, .int .i64 c.xb, .int .i64 c.yb, .int .i64 c.xc, .int .i64 c.yc, .int .i64 c.xd, .int .i64 c.yd] 25) (.cells #[.int .i64 s] 3) (.cells #[.bool false] 4)
  simp only [World.size_alloc] at KS KT
  have KS := KS.below (below_a1 _ (.cells #[.bool false] 4))
  have HKB := Lib.hid KB
  have HKS := Lib.hid KS
  have HKT := Lib.hid KT
  have HB0 := Lib.hid B0
  clear KB KS KT B0
  refine (callsIn_wide (n := 3)).1 ?_
  refine callsIn_of_wp_marks Try.func5 rfl trivial ?_
  simp only [Try.ntmps5, List.size_toArray, List.length_cons, List.length_nil, Nat.reduceAdd, Nat.reduceSub, Array.replicate_succ, Array.replicate_zero, List.push_toArray, List.append_toArray, List.nil_append, List.cons_append]
  refine wpIn_wide.2 ?_
  have hK := HB0.out
  have HKV := HKB
  have HTV := HKT
  have HSV := HKS
  go_wp2_with (first | (go_at_call 19; ((with_reducible refine (CD _).mono ?_); rintro e w1 ⟨rfl, HX, b1⟩; have hK := hK.trans (b1.mono hK.size); have KV := HKV.out.below b1; have kc := KV.lt; have k0 := KV.cell 0; have k1 := KV.cell 1; have k2 := KV.cell 2; have k3 := KV.cell 3; have k4 := KV.cell 4; have k5 := KV.cell 5; have k6 := KV.cell 6; have k7 := KV.cell 7; have k8 := KV.cell 8; simp only [bwL, List.getElem?_toArray, List.getElem?_cons_succ, List.getElem?_cons_zero] at k0 k1 k2 k3 k4 k5 k6 k7 k8; have HKV := Lib.hid KV; have HTV := Lib.hid (HTV.out.below b1); have HSV := Lib.hid (HSV.out.below b1); simp only [World.size_alloc] at HX; have hxl := HX.lt; have HXV := Lib.hid HX; clear KV)) | (go_at_call 10; ((with_reducible refine (CL _).mono ?_); rintro e w1 ⟨rfl, b1⟩; have hK := hK.trans (b1.mono hK.size); have KV := HKV.out.below b1; have kc := KV.lt; have k0 := KV.cell 0; have k1 := KV.cell 1; have k2 := KV.cell 2; have k3 := KV.cell 3; have k4 := KV.cell 4; have k5 := KV.cell 5; have k6 := KV.cell 6; have k7 := KV.cell 7; have k8 := KV.cell 8; simp only [bwL, List.getElem?_toArray, List.getElem?_cons_succ, List.getElem?_cons_zero] at k0 k1 k2 k3 k4 k5 k6 k7 k8; have HKV := Lib.hid KV; have HTV := Lib.hid (HTV.out.below b1); have HSV := Lib.hid (HSV.out.below b1); have HXV := Lib.hid (HXV.out.below b1); clear KV)) | (go_at_call 12; ((with_reducible refine (CRM _).mono ?_); rintro e w1 ⟨rfl, b1⟩; have hK := hK.trans (b1.mono hK.size); have KV := HKV.out.below b1; have kc := KV.lt; have k0 := KV.cell 0; have k1 := KV.cell 1; have k2 := KV.cell 2; have k3 := KV.cell 3; have k4 := KV.cell 4; have k5 := KV.cell 5; have k6 := KV.cell 6; have k7 := KV.cell 7; have k8 := KV.cell 8; simp only [bwL, List.getElem?_toArray, List.getElem?_cons_succ, List.getElem?_cons_zero] at k0 k1 k2 k3 k4 k5 k6 k7 k8; have HKV := Lib.hid KV; have HTV := Lib.hid (HTV.out.below b1); have HSV := Lib.hid (HSV.out.below b1); have HXV := Lib.hid (HXV.out.below b1); clear KV)) | (go_at_call 16; ((with_reducible refine (CRP _).mono ?_); rintro e w1 ⟨rfl, b1⟩; have hK := hK.trans (b1.mono hK.size); have KV := HKV.out.below b1; have kc := KV.lt; have k0 := KV.cell 0; have k1 := KV.cell 1; have k2 := KV.cell 2; have k3 := KV.cell 3; have k4 := KV.cell 4; have k5 := KV.cell 5; have k6 := KV.cell 6; have k7 := KV.cell 7; have k8 := KV.cell 8; simp only [bwL, List.getElem?_toArray, List.getElem?_cons_succ, List.getElem?_cons_zero] at k0 k1 k2 k3 k4 k5 k6 k7 k8; have HKV := Lib.hid KV; have HTV := Lib.hid (HTV.out.below b1); have HSV := Lib.hid (HSV.out.below b1); have HXV := Lib.hid (HXV.out.below b1); clear KV)))
  have b2 := below_a2 w1 (.cells #[.int .i64 (N : Int)] 3) (.cells #[.int .i64 0] 3)
  have KN := (Blk.new w1 3 #[.int .i64 (N : Int)]).below (below_a1 _ (.cells #[.int .i64 0] 3))
  have KI := Blk.new (w1.alloc (.cells #[.int .i64 (N : Int)] 3)) 3 #[.int .i64 0]
  rw [World.size_alloc] at KI
  have hcl := HKV.out.lt
  have htl := HTV.out.lt
  have hxl2 := HXV.out.lt
  have hK := hK.trans (b2.mono hK.size)
  have HKV := Lib.hid (HKV.out.below b2)
  have HTV := Lib.hid (HTV.out.below b2)
  have HSV := Lib.hid (HSV.out.below b2)
  have HXV := Lib.hid (HXV.out.below b2)
  have hs2 : ((w1.alloc (.cells #[.int .i64 (N : Int)] 3)).alloc (.cells #[.int .i64 0] 3)).heap.size = w1.heap.size + 1 + 1 := by simp
  obtain ⟨nb, hnb⟩ : ∃ nb, w1.heap.size = nb := ⟨_, rfl⟩
  rw [hnb] at KN KI hs2 hcl htl hxl2 ⊢
  clear k0 k1 k2 k3 k4 k5 k6 k7 k8 kc b1 b2 hxl CL CRM CRP CD hnb
  generalize (w1.alloc (.cells #[.int .i64 (N : Int)] 3)).alloc (.cells #[.int .i64 0] 3) = W0 at *
  have HKN := Lib.hid KN
  have HKI := Lib.hid KI
  clear KN KI
  refine (wpIn_wide (n := 3)).1 ?_
  refine wpIn_rangeCA (F := Fence.wide) (n := 3) rfl (by omega) (gf := 33) (lb := #[.pointer (some ⟨w.heap.size + 1 + 1 + 1, 0, none⟩)]) rfl trivial (enters_of Try.func33 (by kernel_rfl) rfl)
    (dots_stops _ (nb + 1) N c _ HXV.out (by omega) hN) KpD.trans (kpD_b (by omega)) (Below.refl _ _) (fun _ => rfl) (fun pre x X Y row hs hg hr => hs)
    (fun pre V => Blk V (nb + 1) 3 #[.int .i64 (pre.length : Int)] ∧ Below (nb + 1) W0 V)
    (fun c2 pre V => (c2 = .ret ∧ Blk V (w.heap.size + 1 + 1) 4 #[.bool true]) ∧ Below w.heap.size w V)
    (OwnFrom.and (fun pre X Y row hs hg hr => blk_grownD hs (by omega) hg hr) (ownFrom_below (by omega) (by omega)))
    (fun c2 => OwnFrom.and (fun pre X Y row hs hg hr => ⟨hs.1, blk_grownD hs.2 (by omega) hg hr⟩) (ownFrom_below (by omega) (by omega)))
    ⟨HKI.out, Below.refl _ _⟩
    (fun x a' V => ∃ q, nb + 1 < q ∧ a' = { tmps := #[.agg #[.int .i64 c.k, .int .i64 c.xa, .int .i64 c.ya, .int .i64 c.xb, .int .i64 c.yb, .int .i64 c.xc, .int .i64 c.yc, .int .i64 c.xd, .int .i64 c.yd], .int .i64 s, .pointer (some ⟨w.heap.size, 0, none⟩), .pointer (some ⟨w.heap.size + 1, 0, none⟩), .pointer (some ⟨w.heap.size + 1 + 1, 0, none⟩), .func (.func 33) #[] #[.pointer (some ⟨w.heap.size + 1 + 1 + 1, 0, none⟩)], .pointer (some ⟨nb, 0, none⟩), .pointer (some ⟨nb + 1, 0, none⟩), .pointer (some ⟨q, 0, none⟩), .agg #[.int .i64 c.k, .int .i64 c.xa, .int .i64 c.ya, .int .i64 c.xb, .int .i64 c.yb, .int .i64 c.xc, .int .i64 c.yc, .int .i64 c.xd, .int .i64 c.yd], .func (.func 33) #[] #[.pointer (some ⟨w.heap.size + 1 + 1 + 1, 0, none⟩)], .bool true, .bool false, .bool false, .func (.func 33) #[] #[.pointer (some ⟨w.heap.size + 1 + 1 + 1, 0, none⟩)], .bool false, .bool false, .agg #[.int .i64 c.k, .int .i64 c.xa, .int .i64 c.ya, .int .i64 c.xb, .int .i64 c.yb, .int .i64 c.xc, .int .i64 c.yc, .int .i64 c.xd, .int .i64 c.yd], .bool true, .bool false, undef, undef, .agg #[.int .i64 c.k, .int .i64 c.xa, .int .i64 c.ya, .int .i64 c.xb, .int .i64 c.yb, .int .i64 c.xc, .int .i64 c.yc, .int .i64 c.xd, .int .i64 c.yd], .int .i64 (N : Int), .func (.func 33) #[] #[.pointer (some ⟨w.heap.size + 1 + 1 + 1, 0, none⟩)], .agg #[.int .i64 x.1, .int .i64 x.2], undef, undef, undef, undef, undef, undef, undef, undef, undef, undef, undef, undef, undef, undef, undef, undef, undef, undef, undef, undef, undef, undef, undef, undef, undef, undef, undef, undef, undef, undef], defers := [] } ∧ Blk V q 23 #[.int .i64 x.1, .int .i64 x.2])
    (fun x a' pre X Y row hs hg hr => by obtain ⟨q, hq, e, hb⟩ := hs; exact ⟨q, hq, e, blk_keptD hb hg (fun r e => (hr r e).2)⟩)
    ?assign ?body ?done ?stop
  case assign =>
    rintro l pre x W K ⟨iN, iB⟩ hC hK
    have hs := iB.size
    have ba := below_a1 W (.cells #[.int .i64 x.1, .int .i64 x.2] 23)
    have HK := hK _ _ ba ⟨ba.mono (by omega), fun b o hb ho hc => (ba.block b (Array.getElem?_eq_some_iff.1 ho).1).trans ho⟩ ⟨iN.below ba, iB.trans (ba.mono (by omega))⟩ hC ⟨W.heap.size, by omega, rfl, Blk.new W 23 #[.int .i64 x.1, .int .i64 x.2]⟩
    clear hK hC
    gi_wp2
    exact HK
  case body =>
    rintro l pre x a' W ⟨iN, iB⟩ ⟨h1, h2⟩ ⟨q, hq, rfl, KD⟩
    obtain ⟨k, hk⟩ : ∃ k, pre.length = k := ⟨_, rfl⟩
    rw [hk] at iN h1 h2
    have h3 := HND.out
    have CA := HRA.out ((k : Int) + 1) N (by omega) (by omega) (by omega) (by omega)
    rw [← h2] at CA
    have hlast : (k : Int) + 1 = N → x.1 = c.xd ∧ x.2 = c.yd := fun e => by rw [h2, e]; exact h3
    have HLA := Lib.hid hlast
    obtain ⟨rx, ry⟩ := x
    dsimp only at CA HLA KD ⊢
    have hsz := iB.size
    have hqW := KD.lt
    have KB1 := Blk.other (q := ⟨nb + 1, 0, none⟩) (show Blk W w.heap.size 25 #[.int .i64 c.k, .int .i64 c.xa, .int .i64 c.ya, .int .i64 c.xb, .int .i64 c.yb, .int .i64 c.xc, .int .i64 c.yc, .int .i64 c.xd, .int .i64 c.yd] from (iB.block _ (by omega)).trans HKV.out) (by simp; omega) (.int .i64 ((k : Int) + 1))
    have KT1 := Blk.other (q := ⟨nb + 1, 0, none⟩) (show Blk W (w.heap.size + 1 + 1) 4 #[.bool false] from (iB.block _ (by omega)).trans HTV.out) (by simp; omega) (.int .i64 ((k : Int) + 1))
    have KS1 := Blk.other (q := ⟨nb + 1, 0, none⟩) (show Blk W (w.heap.size + 1) 3 #[.int .i64 s] from (iB.block _ (by omega)).trans HSV.out) (by simp; omega) (.int .i64 ((k : Int) + 1))
    have KN1 := Blk.other (q := ⟨nb + 1, 0, none⟩) (show Blk W nb 3 #[.int .i64 (N : Int)] from (iB.block _ (by omega)).trans HKN.out) (by simp) (.int .i64 ((k : Int) + 1))
    have KD1 := Blk.other (q := ⟨nb + 1, 0, none⟩) KD (by simp; omega) (.int .i64 ((k : Int) + 1))
    have KI1 := iN.set 0 (.int .i64 ((k : Int) + 1))
    have hKO := KeepsOthers.setCell W ⟨nb + 1, 0, none⟩ (.int .i64 ((k : Int) + 1))
    have hKP : KpD (nb + 1) W (W.setCell ⟨nb + 1, 0, none⟩ (.int .i64 ((k : Int) + 1))) := ⟨(Below.refl _ _).setCell (p := ⟨nb + 1, 0, none⟩) (Nat.le_refl _) _, fun b o hb ho hc => (Below.heap_setCell _ _ _ _ (by simpa using hb)).trans ho⟩
    have cN : W.cell? ⟨nb + 1, 0, none⟩ = some (.int .i64 (k : Int)) := iN.cell 0
    have fN : W.frozen? ⟨nb + 1, 0, none⟩ = false := iN.frozen 0
    have lN : nb + 1 < W.heap.size := iN.lt
    obtain ⟨W1, hW1⟩ : ∃ W1, W1 = W.setCell ⟨nb + 1, 0, none⟩ (.int .i64 ((k : Int) + 1)) := ⟨_, rfl⟩
    rw [← hW1] at KB1 KT1 KS1 KN1 KD1 hKO hKP
    have KI1 : Blk W1 (nb + 1) 3 #[.int .i64 ((k : Int) + 1)] := by rw [hW1]; exact KI1
    have HW1 := Lib.hid hW1
    have HKO := Lib.hid hKO
    have HKP := Lib.hid hKP
    have e1 : IntKind.i64.wrap ((k : Int) + 1) = (k : Int) + 1 := IntWalk.i64_in _ (by omega)
    have z1 : decide ((k : Int) + 1 > (N : Int)) = false := by simp; omega
    have E1 := fun V => neD_run rx ry rx ry V
    rw [show (!(rx == rx && ry == ry)) = false by simp] at E1
    have G1 := fun x y V => neD_guard rx ry rx ry x y V
    have E2 := fun V => neD_run rx ry c.xd c.yd V
    have G2 := fun x y V => neD_guard rx ry c.xd c.yd x y V
    have HLD := Lib.hid (fun (V : World) (hV : Below W1.heap.size W1 V) => And.intro (load_blk (P := Try.prog) (ty := 25) (KB1.below hV) Try.underlying25 rfl bwInfo) (And.intro (load_blk (P := Try.prog) (ty := 23) (KD1.below hV) Try.underlying23 rfl dtInfo) (And.intro ((KI1.below hV).cell 0) (And.intro ((KN1.below hV).cell 0) (And.intro ((KB1.below hV).cell 7) (And.intro ((KB1.below hV).cell 8) (And.intro (KB1.below hV).lt (And.intro (E1 V) (And.intro (fun x y => G1 x y V) (And.intro (fun x y => G2 x y V) (And.intro ((KS1.below hV).cell 0) (And.intro ((KT1.below hV).cell 0) (And.intro ((KT1.below hV).frozen 0) (KT1.below hV).lt)))))))))))))
    have HT1 := Lib.hid KT1
    have HS1 := Lib.hid KS1
    have HI1 := Lib.hid KI1
    clear h2 h3 hlast KB1 KT1 KS1 KN1 KD1 KI1 hKO hKP hW1 E1 G1 G2 KD
    have HLEN := Lib.hid (show (((pre ++ [(rx, ry)]).length : Nat) : Int) = (k : Int) + 1 by rw [List.length_append, hk]; rfl)
    have HHK := Lib.hid hk
    have HIB := Lib.hid iB
    have hG : Below W1.heap.size W1 W1.drew := (Below.refl _ _).drew
    have HTG := Lib.hid (show ∀ V, Below W1.heap.size W1 V → KeepsOthers W V ∧ KpD (nb + 1) W V ∧ Blk V (nb + 1) 3 #[.int .i64 ((k : Int) + 1)] ∧ Below (nb + 1) W0 V ∧ Blk V (w.heap.size + 1 + 1) 4 #[.bool false] ∧ Below w.heap.size w V from fun V hV =>
      ⟨HKO.out.trans ⟨hV.size, fun k o h _ => (hV.block k (Array.getElem?_eq_some_iff.1 h).1).trans h⟩, HKP.out.trans ⟨hV.mono (by have := HI1.out.lt; omega), fun b o hb ho hc => (hV.block b (Array.getElem?_eq_some_iff.1 ho).1).trans ho⟩, HI1.out.below hV, HIB.out.trans (HKP.out.1.trans (hV.mono (by have := HI1.out.lt; omega))), HT1.out.below hV, hK.trans ((HIB.out.trans (HKP.out.1.trans (hV.mono (by have := HI1.out.lt; omega)))).mono (by omega))⟩)
    clear iN iB hk
    by_cases hst : (k : Int) + 1 = s
    · have zs : ((k : Int) + 1 == s) = true := by simpa using hst
      clear hst
      by_cases hl : (k : Int) + 1 = (N : Int)
      · have ze : ((k : Int) + 1 == (N : Int)) = true := by simpa using hl
        obtain ⟨er, es⟩ := HLA.out hl
        subst er es
        clear hl
        gi_wp2
        rw [← HW1.out]
        refine wpIn_region_chain (fun V => Below W1.heap.size W1 V) [(0, false), (1, false), (2, false), (3, false), (4, false), (5, false), (6, false), (7, false), (8, true), (9, false), (10, false), (11, false), (12, false), (13, false), (14, false), (15, false), (16, false), (17, false), (18, false), (19, false), (20, false), (21, false)] (by kernel_rfl) (by kernel_rfl) (by kernel_rfl) ?_ hG ?_
        (focus (rintro ⟨_, _, h⟩; exact h))
        repeat (first
          | (refine ChainL.skip (o := ?_) ?_ ?_ ?_; rotate_left; (focus (first | (simp only [List.getElem?_toArray, List.getElem?_cons_succ, List.getElem?_cons_zero]; with_reducible rfl) | (simp only [List.getElem?_toArray, List.getElem?_cons_zero]; with_reducible rfl))); (focus rfl); simp only [Act.put, List.setIfInBounds_toArray, List.set_cons_zero, List.set_cons_succ])
          | (refine ChainL.val (o := ?_) (v := ?_) ?_ ?_ ?_ ?_ ?_; rotate_left 2; (focus (first | (simp only [List.getElem?_toArray, List.getElem?_cons_succ, List.getElem?_cons_zero]; with_reducible rfl) | (simp only [List.getElem?_toArray, List.getElem?_cons_zero]; with_reducible rfl))); (focus (intro _ _ h; cases h)); (focus rfl); (focus (intro w' hJ; obtain ⟨LB, LD, f1, f2, f3, f4, fl, E1, G1, G2, f5, f6, f7, f8⟩ := HLD.out _ hJ; first | (have H := fun ρ o x => @exec_load _ ρ o _ _ x _ _ LB; refine H _ _ ?_ ?_ ?_; rotate_left; (focus rfl); (focus rfl)) | (have H := fun ρ o x => @exec_load _ ρ o _ _ x _ _ LD; refine H _ _ ?_ ?_ ?_; rotate_left; (focus rfl); (focus rfl)) | (go_simp <;> with_reducible rfl))); simp only [Act.put, List.setIfInBounds_toArray, List.set_cons_zero, List.set_cons_succ]))
        refine ChainL.call (o := ?_) (f := ?_) (args := ?_) ?_ ?_ ?_ ?_
        rotate_left 3
        (focus (first | (simp only [List.getElem?_toArray, List.getElem?_cons_succ, List.getElem?_cons_zero]; with_reducible rfl) | (simp only [List.getElem?_toArray, List.getElem?_cons_zero]; with_reducible rfl)))
        (focus rfl)
        (focus (go_simp; (constructor <;> with_reducible rfl)))
        with_reducible refine (CA _).mono ?_
        rintro e wc1 ⟨rfl, bc1⟩
        have hG1 := hG.trans (bc1.mono hG.size)
        refine ⟨_, rfl, hG1, ?_⟩
        simp only [Act.put, List.setIfInBounds_toArray, List.set_cons_zero, List.set_cons_succ]
        repeat (first
          | (refine ChainL.skip (o := ?_) ?_ ?_ ?_; rotate_left; (focus (first | (simp only [List.getElem?_toArray, List.getElem?_cons_succ, List.getElem?_cons_zero]; with_reducible rfl) | (simp only [List.getElem?_toArray, List.getElem?_cons_zero]; with_reducible rfl))); (focus rfl); simp only [Act.put, List.setIfInBounds_toArray, List.set_cons_zero, List.set_cons_succ])
          | (refine ChainL.val (o := ?_) (v := ?_) ?_ ?_ ?_ ?_ ?_; rotate_left 2; (focus (first | (simp only [List.getElem?_toArray, List.getElem?_cons_succ, List.getElem?_cons_zero]; with_reducible rfl) | (simp only [List.getElem?_toArray, List.getElem?_cons_zero]; with_reducible rfl))); (focus (intro _ _ h; cases h)); (focus rfl); (focus (intro w' hJ; obtain ⟨LB, LD, f1, f2, f3, f4, fl, E1, G1, G2, f5, f6, f7, f8⟩ := HLD.out _ hJ; first | (have H := fun ρ o x => @exec_load _ ρ o _ _ x _ _ LB; refine H _ _ ?_ ?_ ?_; rotate_left; (focus rfl); (focus rfl)) | (have H := fun ρ o x => @exec_load _ ρ o _ _ x _ _ LD; refine H _ _ ?_ ?_ ?_; rotate_left; (focus rfl); (focus rfl)) | (go_simp <;> with_reducible rfl))); simp only [Act.put, List.setIfInBounds_toArray, List.set_cons_zero, List.set_cons_succ]))
        refine ChainL.nil ?_
        obtain ⟨x1, x2, x3, x4, x5, x6⟩ := HTG.out _ hG1
        obtain ⟨LB, LD, f1, f2, f3, f4, fl, E1, G1, G2, f5, f6, f7, f8⟩ := HLD.out _ hG1
        have T5 := x5.set 0 (.bool true)
        have HX1 := Lib.hid (x1.trans (KeepsOthers.setCell _ ⟨w.heap.size + 1 + 1, 0, none⟩ (.bool true)))
        have HX6 := Lib.hid (x6.setCell (p := ⟨w.heap.size + 1 + 1, 0, none⟩) (by simp; omega) (.bool true))
        have HT5 := Lib.hid T5
        clear x1 x2 x3 x4 x5 x6 T5
        gi_wp2
        exact ⟨HX1.out, ⟨rfl, HT5.out⟩, HX6.out⟩
      · have ze : ((k : Int) + 1 == (N : Int)) = false := by simpa using hl
        clear hl
        gi_wp2
        rw [← HW1.out]
        refine wpIn_region_chain (fun V => Below W1.heap.size W1 V) [(0, false), (1, false), (2, false), (3, false), (4, false), (5, false), (6, false), (7, false), (8, true), (9, false), (10, false), (11, false), (12, false), (13, false), (14, false), (15, false), (16, false), (17, false), (18, false), (19, false), (20, false), (21, false)] (by kernel_rfl) (by kernel_rfl) (by kernel_rfl) ?_ hG ?_
        (focus (rintro ⟨_, _, h⟩; exact h))
        repeat (first
          | (refine ChainL.skip (o := ?_) ?_ ?_ ?_; rotate_left; (focus (first | (simp only [List.getElem?_toArray, List.getElem?_cons_succ, List.getElem?_cons_zero]; with_reducible rfl) | (simp only [List.getElem?_toArray, List.getElem?_cons_zero]; with_reducible rfl))); (focus rfl); simp only [Act.put, List.setIfInBounds_toArray, List.set_cons_zero, List.set_cons_succ])
          | (refine ChainL.val (o := ?_) (v := ?_) ?_ ?_ ?_ ?_ ?_; rotate_left 2; (focus (first | (simp only [List.getElem?_toArray, List.getElem?_cons_succ, List.getElem?_cons_zero]; with_reducible rfl) | (simp only [List.getElem?_toArray, List.getElem?_cons_zero]; with_reducible rfl))); (focus (intro _ _ h; cases h)); (focus rfl); (focus (intro w' hJ; obtain ⟨LB, LD, f1, f2, f3, f4, fl, E1, G1, G2, f5, f6, f7, f8⟩ := HLD.out _ hJ; first | (have H := fun ρ o x => @exec_load _ ρ o _ _ x _ _ LB; refine H _ _ ?_ ?_ ?_; rotate_left; (focus rfl); (focus rfl)) | (have H := fun ρ o x => @exec_load _ ρ o _ _ x _ _ LD; refine H _ _ ?_ ?_ ?_; rotate_left; (focus rfl); (focus rfl)) | (go_simp <;> with_reducible rfl))); simp only [Act.put, List.setIfInBounds_toArray, List.set_cons_zero, List.set_cons_succ]))
        refine ChainL.call (o := ?_) (f := ?_) (args := ?_) ?_ ?_ ?_ ?_
        rotate_left 3
        (focus (first | (simp only [List.getElem?_toArray, List.getElem?_cons_succ, List.getElem?_cons_zero]; with_reducible rfl) | (simp only [List.getElem?_toArray, List.getElem?_cons_zero]; with_reducible rfl)))
        (focus rfl)
        (focus (go_simp; (constructor <;> with_reducible rfl)))
        with_reducible refine (CA _).mono ?_
        rintro e wc1 ⟨rfl, bc1⟩
        have hG1 := hG.trans (bc1.mono hG.size)
        refine ⟨_, rfl, hG1, ?_⟩
        simp only [Act.put, List.setIfInBounds_toArray, List.set_cons_zero, List.set_cons_succ]
        repeat (first
          | (refine ChainL.skip (o := ?_) ?_ ?_ ?_; rotate_left; (focus (first | (simp only [List.getElem?_toArray, List.getElem?_cons_succ, List.getElem?_cons_zero]; with_reducible rfl) | (simp only [List.getElem?_toArray, List.getElem?_cons_zero]; with_reducible rfl))); (focus rfl); simp only [Act.put, List.setIfInBounds_toArray, List.set_cons_zero, List.set_cons_succ])
          | (refine ChainL.val (o := ?_) (v := ?_) ?_ ?_ ?_ ?_ ?_; rotate_left 2; (focus (first | (simp only [List.getElem?_toArray, List.getElem?_cons_succ, List.getElem?_cons_zero]; with_reducible rfl) | (simp only [List.getElem?_toArray, List.getElem?_cons_zero]; with_reducible rfl))); (focus (intro _ _ h; cases h)); (focus rfl); (focus (intro w' hJ; obtain ⟨LB, LD, f1, f2, f3, f4, fl, E1, G1, G2, f5, f6, f7, f8⟩ := HLD.out _ hJ; first | (have H := fun ρ o x => @exec_load _ ρ o _ _ x _ _ LB; refine H _ _ ?_ ?_ ?_; rotate_left; (focus rfl); (focus rfl)) | (have H := fun ρ o x => @exec_load _ ρ o _ _ x _ _ LD; refine H _ _ ?_ ?_ ?_; rotate_left; (focus rfl); (focus rfl)) | (go_simp <;> with_reducible rfl))); simp only [Act.put, List.setIfInBounds_toArray, List.set_cons_zero, List.set_cons_succ]))
        refine ChainL.nil ?_
        obtain ⟨x1, x2, x3, x4, x5, x6⟩ := HTG.out _ hG1
        obtain ⟨LB, LD, f1, f2, f3, f4, fl, E1, G1, G2, f5, f6, f7, f8⟩ := HLD.out _ hG1
        have T5 := x5.set 0 (.bool true)
        have HX1 := Lib.hid (x1.trans (KeepsOthers.setCell _ ⟨w.heap.size + 1 + 1, 0, none⟩ (.bool true)))
        have HX6 := Lib.hid (x6.setCell (p := ⟨w.heap.size + 1 + 1, 0, none⟩) (by simp; omega) (.bool true))
        have HT5 := Lib.hid T5
        clear x1 x2 x3 x4 x5 x6 T5
        gi_wp2
        exact ⟨HX1.out, ⟨rfl, HT5.out⟩, HX6.out⟩
    · have zs : ((k : Int) + 1 == s) = false := by simpa using hst
      clear hst
      by_cases hl : (k : Int) + 1 = (N : Int)
      · have ze : ((k : Int) + 1 == (N : Int)) = true := by simpa using hl
        obtain ⟨er, es⟩ := HLA.out hl
        subst er es
        clear hl
        gi_wp2
        rw [← HW1.out]
        refine wpIn_region_chain (fun V => Below W1.heap.size W1 V) [(0, false), (1, false), (2, false), (3, false), (4, false), (5, false), (6, false), (7, false), (8, true), (9, false), (10, false), (11, false), (12, false), (13, false), (14, false), (15, false), (16, false), (17, false), (18, false), (19, false), (20, false), (21, false)] (by kernel_rfl) (by kernel_rfl) (by kernel_rfl) ?_ hG ?_
        (focus (rintro ⟨_, _, h⟩; exact h))
        repeat (first
          | (refine ChainL.skip (o := ?_) ?_ ?_ ?_; rotate_left; (focus (first | (simp only [List.getElem?_toArray, List.getElem?_cons_succ, List.getElem?_cons_zero]; with_reducible rfl) | (simp only [List.getElem?_toArray, List.getElem?_cons_zero]; with_reducible rfl))); (focus rfl); simp only [Act.put, List.setIfInBounds_toArray, List.set_cons_zero, List.set_cons_succ])
          | (refine ChainL.val (o := ?_) (v := ?_) ?_ ?_ ?_ ?_ ?_; rotate_left 2; (focus (first | (simp only [List.getElem?_toArray, List.getElem?_cons_succ, List.getElem?_cons_zero]; with_reducible rfl) | (simp only [List.getElem?_toArray, List.getElem?_cons_zero]; with_reducible rfl))); (focus (intro _ _ h; cases h)); (focus rfl); (focus (intro w' hJ; obtain ⟨LB, LD, f1, f2, f3, f4, fl, E1, G1, G2, f5, f6, f7, f8⟩ := HLD.out _ hJ; first | (have H := fun ρ o x => @exec_load _ ρ o _ _ x _ _ LB; refine H _ _ ?_ ?_ ?_; rotate_left; (focus rfl); (focus rfl)) | (have H := fun ρ o x => @exec_load _ ρ o _ _ x _ _ LD; refine H _ _ ?_ ?_ ?_; rotate_left; (focus rfl); (focus rfl)) | (go_simp <;> with_reducible rfl))); simp only [Act.put, List.setIfInBounds_toArray, List.set_cons_zero, List.set_cons_succ]))
        refine ChainL.call (o := ?_) (f := ?_) (args := ?_) ?_ ?_ ?_ ?_
        rotate_left 3
        (focus (first | (simp only [List.getElem?_toArray, List.getElem?_cons_succ, List.getElem?_cons_zero]; with_reducible rfl) | (simp only [List.getElem?_toArray, List.getElem?_cons_zero]; with_reducible rfl)))
        (focus rfl)
        (focus (go_simp; (constructor <;> with_reducible rfl)))
        with_reducible refine (CA _).mono ?_
        rintro e wc1 ⟨rfl, bc1⟩
        have hG1 := hG.trans (bc1.mono hG.size)
        refine ⟨_, rfl, hG1, ?_⟩
        simp only [Act.put, List.setIfInBounds_toArray, List.set_cons_zero, List.set_cons_succ]
        repeat (first
          | (refine ChainL.skip (o := ?_) ?_ ?_ ?_; rotate_left; (focus (first | (simp only [List.getElem?_toArray, List.getElem?_cons_succ, List.getElem?_cons_zero]; with_reducible rfl) | (simp only [List.getElem?_toArray, List.getElem?_cons_zero]; with_reducible rfl))); (focus rfl); simp only [Act.put, List.setIfInBounds_toArray, List.set_cons_zero, List.set_cons_succ])
          | (refine ChainL.val (o := ?_) (v := ?_) ?_ ?_ ?_ ?_ ?_; rotate_left 2; (focus (first | (simp only [List.getElem?_toArray, List.getElem?_cons_succ, List.getElem?_cons_zero]; with_reducible rfl) | (simp only [List.getElem?_toArray, List.getElem?_cons_zero]; with_reducible rfl))); (focus (intro _ _ h; cases h)); (focus rfl); (focus (intro w' hJ; obtain ⟨LB, LD, f1, f2, f3, f4, fl, E1, G1, G2, f5, f6, f7, f8⟩ := HLD.out _ hJ; first | (have H := fun ρ o x => @exec_load _ ρ o _ _ x _ _ LB; refine H _ _ ?_ ?_ ?_; rotate_left; (focus rfl); (focus rfl)) | (have H := fun ρ o x => @exec_load _ ρ o _ _ x _ _ LD; refine H _ _ ?_ ?_ ?_; rotate_left; (focus rfl); (focus rfl)) | (go_simp <;> with_reducible rfl))); simp only [Act.put, List.setIfInBounds_toArray, List.set_cons_zero, List.set_cons_succ]))
        refine ChainL.nil ?_
        obtain ⟨x1, x2, x3, x4, x5, x6⟩ := HTG.out _ hG1
        obtain ⟨LB, LD, f1, f2, f3, f4, fl, E1, G1, G2, f5, f6, f7, f8⟩ := HLD.out _ hG1
        have HX := Lib.hid (And.intro x1 (And.intro x2 (And.intro x3 x4)))
        clear x1 x2 x3 x4 x5 x6
        gi_wp2
        exact ⟨HX.out.1, HX.out.2.1, by rw [HLEN.out]; exact HX.out.2.2.1, HX.out.2.2.2⟩
      · have ze : ((k : Int) + 1 == (N : Int)) = false := by simpa using hl
        clear hl
        gi_wp2
        rw [← HW1.out]
        refine wpIn_region_chain (fun V => Below W1.heap.size W1 V) [(0, false), (1, false), (2, false), (3, false), (4, false), (5, false), (6, false), (7, false), (8, true), (9, false), (10, false), (11, false), (12, false), (13, false), (14, false), (15, false), (16, false), (17, false), (18, false), (19, false), (20, false), (21, false)] (by kernel_rfl) (by kernel_rfl) (by kernel_rfl) ?_ hG ?_
        (focus (rintro ⟨_, _, h⟩; exact h))
        repeat (first
          | (refine ChainL.skip (o := ?_) ?_ ?_ ?_; rotate_left; (focus (first | (simp only [List.getElem?_toArray, List.getElem?_cons_succ, List.getElem?_cons_zero]; with_reducible rfl) | (simp only [List.getElem?_toArray, List.getElem?_cons_zero]; with_reducible rfl))); (focus rfl); simp only [Act.put, List.setIfInBounds_toArray, List.set_cons_zero, List.set_cons_succ])
          | (refine ChainL.val (o := ?_) (v := ?_) ?_ ?_ ?_ ?_ ?_; rotate_left 2; (focus (first | (simp only [List.getElem?_toArray, List.getElem?_cons_succ, List.getElem?_cons_zero]; with_reducible rfl) | (simp only [List.getElem?_toArray, List.getElem?_cons_zero]; with_reducible rfl))); (focus (intro _ _ h; cases h)); (focus rfl); (focus (intro w' hJ; obtain ⟨LB, LD, f1, f2, f3, f4, fl, E1, G1, G2, f5, f6, f7, f8⟩ := HLD.out _ hJ; first | (have H := fun ρ o x => @exec_load _ ρ o _ _ x _ _ LB; refine H _ _ ?_ ?_ ?_; rotate_left; (focus rfl); (focus rfl)) | (have H := fun ρ o x => @exec_load _ ρ o _ _ x _ _ LD; refine H _ _ ?_ ?_ ?_; rotate_left; (focus rfl); (focus rfl)) | (go_simp <;> with_reducible rfl))); simp only [Act.put, List.setIfInBounds_toArray, List.set_cons_zero, List.set_cons_succ]))
        refine ChainL.call (o := ?_) (f := ?_) (args := ?_) ?_ ?_ ?_ ?_
        rotate_left 3
        (focus (first | (simp only [List.getElem?_toArray, List.getElem?_cons_succ, List.getElem?_cons_zero]; with_reducible rfl) | (simp only [List.getElem?_toArray, List.getElem?_cons_zero]; with_reducible rfl)))
        (focus rfl)
        (focus (go_simp; (constructor <;> with_reducible rfl)))
        with_reducible refine (CA _).mono ?_
        rintro e wc1 ⟨rfl, bc1⟩
        have hG1 := hG.trans (bc1.mono hG.size)
        refine ⟨_, rfl, hG1, ?_⟩
        simp only [Act.put, List.setIfInBounds_toArray, List.set_cons_zero, List.set_cons_succ]
        repeat (first
          | (refine ChainL.skip (o := ?_) ?_ ?_ ?_; rotate_left; (focus (first | (simp only [List.getElem?_toArray, List.getElem?_cons_succ, List.getElem?_cons_zero]; with_reducible rfl) | (simp only [List.getElem?_toArray, List.getElem?_cons_zero]; with_reducible rfl))); (focus rfl); simp only [Act.put, List.setIfInBounds_toArray, List.set_cons_zero, List.set_cons_succ])
          | (refine ChainL.val (o := ?_) (v := ?_) ?_ ?_ ?_ ?_ ?_; rotate_left 2; (focus (first | (simp only [List.getElem?_toArray, List.getElem?_cons_succ, List.getElem?_cons_zero]; with_reducible rfl) | (simp only [List.getElem?_toArray, List.getElem?_cons_zero]; with_reducible rfl))); (focus (intro _ _ h; cases h)); (focus rfl); (focus (intro w' hJ; obtain ⟨LB, LD, f1, f2, f3, f4, fl, E1, G1, G2, f5, f6, f7, f8⟩ := HLD.out _ hJ; first | (have H := fun ρ o x => @exec_load _ ρ o _ _ x _ _ LB; refine H _ _ ?_ ?_ ?_; rotate_left; (focus rfl); (focus rfl)) | (have H := fun ρ o x => @exec_load _ ρ o _ _ x _ _ LD; refine H _ _ ?_ ?_ ?_; rotate_left; (focus rfl); (focus rfl)) | (go_simp <;> with_reducible rfl))); simp only [Act.put, List.setIfInBounds_toArray, List.set_cons_zero, List.set_cons_succ]))
        refine ChainL.nil ?_
        obtain ⟨x1, x2, x3, x4, x5, x6⟩ := HTG.out _ hG1
        obtain ⟨LB, LD, f1, f2, f3, f4, fl, E1, G1, G2, f5, f6, f7, f8⟩ := HLD.out _ hG1
        have HX := Lib.hid (And.intro x1 (And.intro x2 (And.intro x3 x4)))
        clear x1 x2 x3 x4 x5 x6
        gi_wp2
        exact ⟨HX.out.1, HX.out.2.1, by rw [HLEN.out]; exact HX.out.2.2.1, HX.out.2.2.2⟩
  case done =>
    rintro D2 xs V hD hxs ⟨R3, B3⟩ hK2
    rw [hxs] at R3
    have hDl := (Array.getElem?_eq_some_iff.1 hK2).1
    have hs3 := B3.size
    have r0 := R3.cell 0
    have rl := R3.lt
    have TV : Blk V (w.heap.size + 1 + 1) 4 #[.bool false] := (B3.block _ (by omega)).trans HTV.out
    have NV : Blk V nb 3 #[.int .i64 (N : Int)] := (B3.block _ (by omega)).trans HKN.out
    have t0 := TV.cell 0
    have u0 := TV.frozen 0
    have v0 := TV.lt
    have n0 := NV.cell 0
    simp only [List.getElem?_toArray, List.getElem?_cons_zero] at r0 t0 n0
    have ze : ((N : Int) == (N : Int)) = true := by simp
    have hK' := (KeepsOthers.setCell V ⟨w.heap.size + 1 + 1, 0, none⟩ (.bool true)).same D2 _ hK2 rfl
    have br2 := TV.set 0 (.bool true)
    have hc5 := cell_kept (br2.cell 0) (grownBy_putObj' _ D2 (.deferred none)) (fun r e => by cases e; exact ⟨_, hK', rfl⟩)
    have BX := (hK.trans (B3.mono (by omega))).setCell (p := ⟨w.heap.size + 1 + 1, 0, none⟩) (by simp; omega) (.bool true)
    have hBF := BX.trans (belowK_b (w := w) (Nat.le_refl _) _ D2 _ (.deferred none) (by omega) hK' rfl rfl)
    clear BX br2 TV NV R3 B3
    go_wp2
    refine ⟨by simp, .inl ⟨_, _, rfl, run_takeDeferred hK', ?_⟩⟩
    refine ⟨.bool true, ?_, rfl, hBF⟩
    simp [results, Try.f5, go_sem, hc5]
  case stop =>
    rintro D2 cc pre V hD _ ⟨⟨rfl, R3⟩, B3⟩ hK2
    have r0 := R3.cell 0
    have rl := R3.lt
    have hc5 := cell_kept (R3.cell 0) (grownBy_putObj' _ D2 (.deferred none)) (fun r e => by cases e; exact ⟨_, hK2, rfl⟩)
    have hBF := B3.trans (belowK_b (w := w) (Nat.le_refl _) _ D2 _ (.deferred none) (by omega) hK2 rfl rfl)
    clear R3 B3
    gi_wp2
    refine ⟨by simp, .inl ⟨_, _, rfl, run_takeDeferred hK2, ?_⟩⟩
    refine ⟨.bool true, ?_, rfl, hBF⟩
    simp [results, Try.f5, go_sem, hc5]
theorem walk (c : Bw) (s : Int) (_ : (Lit.int .i64 s).wf = true) (w : World) : Calls Try.prog 5 #[bwV c, .int .i64 s] w fun e w' => e = .returned (.bool true) ∧ Below w.heap.size w w' := by
  cases hm : mayW c
  · exact none_ c s w hm
  · exact good c s w hm

set_option linter.unusedVariables false in
set_option maxRecDepth 100000 in
theorem lifted (os : Os) (started : os.Started) (H : Type) (enc : TypeId × Value → H) :
    ReturnsInHanded {} Try.checked os 5 .any (Rows.curveDotsSpec.pre6 enc Try.prog Try.f5 Rows.curveDotsRow.domain false) (Rows.curveDotsSpec.post enc Try.prog Try.f5 false true false false) := by
  refine returnsInHanded_of_change (C := Try.checked) Try.own started (by kernel_rfl) Try.func5
    (ChangeSpec.witness6 (enc := enc) (C := Try.checked) false ⟨#[], #[.agg #[.int .i64 0, .int .i64 0, .int .i64 0, .int .i64 0, .int .i64 0, .int .i64 0, .int .i64 0, .int .i64 0, .int .i64 0], .int .i64 0], []⟩ 8 (by kernel_rfl) (by kernel_rfl) (by kernel_rfl) (by kernel_rfl)) ?_
  intro W base args ds gs before hval0 hW hcnd _
  have hval : ∀ (j : Nat) t v, Try.f5.params[j]? = some t → args[j]? = some v → Value.okWide Try.prog W .any base t v := hval0
  have hW' := hW
  obtain ⟨p, q, hA0, hV, rfl, hfz, hnd⟩ := hW
  have hA : DataW.TrodAll enc Try.prog W 0 (fun _ => true) true Try.f5.params.toList args.toList ds p := hA0
  rw [Try.params5] at hA hval
  obtain ⟨v0, vs0, d0, ds0, p0, q0, hargs, rfl, rfl, h0, r0⟩ := trodAll_cons hA
  obtain ⟨v1, vs1, d1, ds1, p1, q1, rfl, rfl, rfl, h1, r1⟩ := trodAll_cons r0
  obtain ⟨rfl, rfl, rfl⟩ := trodAll_nil r1
  obtain rfl : args = #[v0, v1] := by cases args; simp_all
  obtain ⟨rfl, rfl⟩ := trodVars_none hV
  obtain ⟨c0, rfl⟩ := open_bow (hval 0 25 v0 rfl rfl) h0
  obtain ⟨a1, rfl, rfl, rfl, w1⟩ := open_int Try.underlying3 (hval 1 3 v1 rfl rfl) h1
  clear hA0 hval0
  simp only [List.append_nil] at hW'
  refine (walk c0 a1 w1 W).mono fun e W' ⟨he, hg⟩ => ?_
  subst he
  exact ⟨_, rfl, law_post Try.laidOut rfl Try.underlying4 (by kernel_rfl) rfl rfl rfl rfl hW' hg⟩

theorem over : Rows.curveDotsRow.holds Try.pinned (OpenSpec.ofChange Rows.curveDotsSpec) :=
  OpenClaim.holds_of_wide 5 Try.f5 rfl rfl rfl rfl rfl rfl rfl ⟨rfl, rfl, rfl, rfl, rfl⟩ rfl rfl rfl rfl rfl (by kernel_rfl) Try.func5 (by kernel_rfl)
    (of_decide_eq_true (by kernel_rfl)) (by unfold Func.isWrapper; first | (rw [if_pos (by decide +kernel)]; kernel_rfl) | (rw [if_neg (by decide +kernel)]; exact ⟨rfl, rfl⟩))
    (fun os started H enc _ => lifted os started H enc)

theorem proved : Rows.CurveDotsSaid :=
  over

end Go.Proofs.Ytngfillgndhfbaa.curveDots
