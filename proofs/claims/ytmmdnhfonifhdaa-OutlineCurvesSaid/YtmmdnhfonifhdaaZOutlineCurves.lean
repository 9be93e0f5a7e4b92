/- OutlineCurves: the curves of any outline, as far as one goes on: each contour goes round; no condition but what the row prints. -/
import Derived.Test.YtmmdnhfonifhdaaM11OutlineCurves

namespace Go.Proofs.Ytmmdnhfonifhdaa.outlineCurves
open Go.ChangeShapes Go.WideShapes Go.ChangeAt Go.RowKit Go.Shelf
variable {W : World}

attribute [local go_sem] Oper.semAt_some
theorem _root_.Go.Proofs.Ytmmdnhfonifhdaa.Blk.al {w : World} {p : Nat} {T : TypeId} {cs : Array Value} (h : Blk w p T cs) (o : Obj) : Blk (w.alloc o) p T cs := h.below ((Below.refl _ _).alloc (Nat.le_refl _) o)
theorem blk_drew {w : World} {p : Nat} {T : TypeId} {cs : Array Value} (h : Blk w p T cs) : Blk w.drew p T cs := h
theorem blk_grown {X Y : World} {row : Option Nat} {B p : Nat} {T : TypeId} {cs : Array Value} (h : Blk X p T cs) (hp : p < B) (hg : X.grownBy Y row) (hr : ∀ r, row = some r → B ≤ r ∧ ∃ o : Obj, X.heap[r]? = some o ∧ o.isCells = false) : Blk Y p T cs :=
  (hg.block p h.lt (fun e => by have := (hr p e.symm).1; omega)).trans h
theorem blk_kept {X Y : World} {row : Option Nat} {p : Nat} {T : TypeId} {cs : Array Value} (h : Blk X p T cs) (hg : X.grownBy Y row) (hr : ∀ r, row = some r → ∃ o : Obj, X.heap[r]? = some o ∧ o.isCells = false) : Blk Y p T cs :=
  (hg.block p h.lt (fun e => by obtain ⟨o, ho, hc⟩ := hr p e.symm; rw [show X.heap[p]? = _ from h] at ho; cases ho; cases hc)).trans h
theorem curvesPost {w : World} {Ls : List (List Pt)} {e : Ending} {w' : World} (h : CurvesPost w Ls e w') : ∃ (k : Nat) (A : Option Addr) (c : Nat), e = .returned (.func (.func 35) #[] #[.pointer (some ⟨k, 0, none⟩)]) ∧ w'.cell? ⟨k, 0, none⟩ = some (.slice A (esC Ls).length c) ∧ k < w'.heap.size ∧ OutAt w' w'.heap.size A (esC Ls) ∧ Below w.heap.size w w' := by
  obtain ⟨k, A, c, Es, h1, h2, h3, h4, rfl, h6⟩ := h
  exact ⟨k, A, c, h1, h2, h3, h4, h6⟩

set_option maxRecDepth 100000 in
set_option maxHeartbeats 4000000 in
theorem walk (A : Option Addr) (c : Nat) (Ls : List (List Pt)) (st : Int) (h : OutAt W W.heap.size A Ls) (hm : ∀ L ∈ Ls, L.length ≤ 17592186044416) (hn : Ls.length ≤ 9223372036854775807) (w : World) (hW : w = W) :
    Calls Try.prog 5 #[.slice A Ls.length c, .int .i64 st] w fun e w' => e = .returned (.bool true) ∧ Below w.heap.size w w' := by
  subst hW
  cases hb : bigB Ls
  · have hs := (sm_of hb).sm
    have CL := fun w1 (b1 : Below w.heap.size w w1) => large_any w.heap.size A c Ls w1 b1.size (h.below b1) hm hn false hb
    have CK := fun w1 (b1 : Below w.heap.size w w1) => rcheck_any w.heap.size A c Ls w1 b1.size (h.below b1) hs
    have CC := fun w1 (b1 : Below w.heap.size w w1) => (lcopied_any w.heap.size A c Ls w1 b1.size (h.below b1) hs).mono fun _ _ k => gave (n := Ls.length) rfl k
    have CX := fun (w1 : World) A c (o : OutAt w1 w1.heap.size A Ls) => (curves_any w1.heap.size A c Ls w1 (Nat.le_refl _) o hs).mono fun _ _ k => curvesPost k
    have CR := fun w1 (b1 : Below w.heap.size w w1) => rcurves_any w.heap.size A c Ls w1 b1.size (h.below b1) hs
    have hnil := func_nil
    rw [chk_same] at CK
    have B00 : Below w.heap.size w ((w.alloc (.cells #[.int .i64 st] 3)).alloc (.cells #[.bool false] 4)) := ((Below.refl _ _).alloc (Nat.le_refl _) _).alloc (by simp) _
    have B0 := B00
    clear h hm hn hb
    by_cases hc : chkE Ls = 0
    · have CR := fun w1 b1 => CR w1 b1 (chk_zero hc).2.2 (rcurves_pre hc).1 (rcurves_pre hc).2
      rw [show (Ls.map rexE).flatMap cvsOf = allC Ls by rw [allC, if_pos hc]] at CR
      rw [hc] at CK
      clear hc hs
      refine (callsIn_wide (n := 3)).1 ?_
      refine callsIn_of_wp_marks Try.func5 rfl trivial ?_
      simp only [Try.ntmps5, List.size_toArray, List.length_cons, List.length_nil, Nat.reduceAdd, Nat.reduceSub, Array.replicate_succ, Array.replicate_zero, List.push_toArray, List.append_toArray, List.nil_append, List.cons_append]
      refine wpIn_wide.2 ?_
      go_wp2_with (first | (go_at_call 7; ((with_reducible refine (CL _ B0).mono ?_); rintro e w1 ⟨rfl, b1⟩; have B1 := B0.trans (b1.mono B0.size))) | (go_at_call 11; ((with_reducible refine (CC _ B1).mono ?_); rintro e w2 ⟨A2, c2, rfl, o2, b2⟩; have B2 := B1.trans (b2.mono B1.size); have D2 := b1.trans (b2.mono b1.size))) | (go_at_call 19; ((with_reducible refine (CX _ _ _ o2).mono ?_); rintro e w3 ⟨k3, A3, c3, rfl, h3, k3l, o3, b3⟩; have B3 := B2.trans (b3.mono B2.size); have D3 := D2.trans (b3.mono D2.size))) | (go_at_call 8; ((with_reducible refine (lives10 _).mono ?_); rintro e w4 ⟨rfl, b4⟩; have B4 := B3.trans (b4.mono B3.size); have D4 := D3.trans (b4.mono D3.size); have B5 := B4.alloc B4.size (.cells #[.slice none 0 0] 40); have D5 := D4.alloc D4.size (.cells #[.slice none 0 0] 40); have Z5 := b4.alloc b4.size (.cells #[.slice none 0 0] 40))) | (go_at_call 9; ((with_reducible refine (CK _ B5).mono ?_); rintro e w6 ⟨rfl, b6⟩; have B6 := B5.trans (b6.mono B5.size); have D6 := D5.trans (b6.mono D5.size); have Z6 := Z5.trans (b6.mono Z5.size))) | (go_at_call 20; ((with_reducible refine (CR _ B6).mono ?_); rintro e w7 ⟨v7, rfl, own7, b7⟩; have B7 := B6.trans (b7.mono B6.size); have D7 := D6.trans (b7.mono D6.size); have Z7 := Z6.trans (b7.mono Z6.size); obtain ⟨A7, c7, rfl, l7, hc7⟩ := own_lists own7; have kw := ((Blk.new w4 40 #[.slice none 0 0]).below b6).below b7; have kc := kw.cell 0; have kf := kw.frozen 0; have kl := kw.lt; simp only [List.getElem?_toArray, List.getElem?_cons_zero] at kc)))
      have hs4 := b4.size
      have hs6 := b6.size
      have hs1 := D4.size
      have hs7 := b7.size
      simp only [World.size_alloc] at hs1 hs6
      have n4 : w4.heap.size < w7.heap.size := by omega
      have own8 := own_only own7 (Only.set (Only.refl w7 [w4.heap.size]) (p := ⟨w4.heap.size, 0, none⟩) (by simp) (.slice A7 (allC Ls).length c7)) (fun b hb e => by have := own_low2 own7 b hb; simp at e; omega)
      obtain ⟨A8, c8, e8, l8, _⟩ := own_lists own8
      cases e8
      have X0 : Below w.heap.size w (w7.setCell ⟨w4.heap.size, 0, none⟩ (.slice A7 (allC Ls).length c7)) := B7.setCell (p := ⟨w4.heap.size, 0, none⟩) (by have := B4.size; simp; omega) _
      have Xz : Below w3.heap.size w3 (w7.setCell ⟨w4.heap.size, 0, none⟩ (.slice A7 (allC Ls).length c7)) := Z7.setCell (p := ⟨w4.heap.size, 0, none⟩) hs4 _
      have bR := ((Blk.new (w.alloc (.cells #[.int .i64 st] 3)) 4 #[.bool false]).below D7).other (q := ⟨w4.heap.size, 0, none⟩) (by simp; omega) (.slice A7 (allC Ls).length c7)
      have bS := (((Blk.new w 3 #[.int .i64 st]).al (.cells #[.bool false] 4)).below D7).other (q := ⟨w4.heap.size, 0, none⟩) (by simp; omega) (.slice A7 (allC Ls).length c7)
      have kw := kw.set 0 (.slice A7 (allC Ls).length c7)
      simp only [List.setIfInBounds_toArray, List.set_cons_zero, World.size_alloc] at kw bR bS
      have hXs : (w7.setCell ⟨w4.heap.size, 0, none⟩ (.slice A7 (allC Ls).length c7)).heap.size = w7.heap.size := by simp
      rw [hXs] at l8
      have bS := (bS.al (.cells #[.int .i64 0] 3)).al (.cells #[.int .i64 0, .int .i64 0, .int .i64 0] 43) |>.al (.cells #[.int .i64 0, .int .i64 0, .int .i64 0] 43)
      have bR := (bR.al (.cells #[.int .i64 0] 3)).al (.cells #[.int .i64 0, .int .i64 0, .int .i64 0] 43) |>.al (.cells #[.int .i64 0, .int .i64 0, .int .i64 0] 43)
      have kw := (kw.al (.cells #[.int .i64 0] 3)).al (.cells #[.int .i64 0, .int .i64 0, .int .i64 0] 43) |>.al (.cells #[.int .i64 0, .int .i64 0, .int .i64 0] 43)
      have bN := ((Blk.new (w7.setCell ⟨w4.heap.size, 0, none⟩ (.slice A7 (allC Ls).length c7)) 3 #[.int .i64 0]).al (.cells #[.int .i64 0, .int .i64 0, .int .i64 0] 43)).al (.cells #[.int .i64 0, .int .i64 0, .int .i64 0] 43)
      have bF := (Blk.new ((w7.setCell ⟨w4.heap.size, 0, none⟩ (.slice A7 (allC Ls).length c7)).alloc (.cells #[.int .i64 0] 3)) 43 #[.int .i64 0, .int .i64 0, .int .i64 0]).al (.cells #[.int .i64 0, .int .i64 0, .int .i64 0] 43)
      have bL := Blk.new (((w7.setCell ⟨w4.heap.size, 0, none⟩ (.slice A7 (allC Ls).length c7)).alloc (.cells #[.int .i64 0] 3)).alloc (.cells #[.int .i64 0, .int .i64 0, .int .i64 0] 43)) 43 #[.int .i64 0, .int .i64 0, .int .i64 0]
      have l8 := ((l8.alloc (by omega) (.cells #[.int .i64 0] 3)).alloc (by first | (simp; done) | (simp; omega)) (.cells #[.int .i64 0, .int .i64 0, .int .i64 0] 43)).alloc (by first | (simp; done) | (simp; omega)) (.cells #[.int .i64 0, .int .i64 0, .int .i64 0] 43)
      have X0 := ((X0.alloc (by have := B4.size; omega) (.cells #[.int .i64 0] 3)).alloc (by have := B4.size; simp; omega) (.cells #[.int .i64 0, .int .i64 0, .int .i64 0] 43)).alloc (by have := B4.size; simp; omega) (.cells #[.int .i64 0, .int .i64 0, .int .i64 0] 43)
      have Xz := ((Xz.alloc (by omega) (.cells #[.int .i64 0] 3)).alloc (by first | (simp; done) | (simp; omega)) (.cells #[.int .i64 0, .int .i64 0, .int .i64 0] 43)).alloc (by first | (simp; done) | (simp; omega)) (.cells #[.int .i64 0, .int .i64 0, .int .i64 0] 43)
      have hz := Xz.size
      have hW0 : ((((w7.setCell ⟨w4.heap.size, 0, none⟩ (.slice A7 (allC Ls).length c7)).alloc (.cells #[.int .i64 0] 3)).alloc (.cells #[.int .i64 0, .int .i64 0, .int .i64 0] 43)).alloc (.cells #[.int .i64 0, .int .i64 0, .int .i64 0] 43)).heap.size = w7.heap.size + 1 + 1 + 1 := by simp [World.size_alloc]
      simp only [World.size_alloc, hXs] at bN bF bL
      obtain ⟨W0, hWW⟩ : ∃ W0, W0 = ((((w7.setCell ⟨w4.heap.size, 0, none⟩ (.slice A7 (allC Ls).length c7)).alloc (.cells #[.int .i64 0] 3)).alloc (.cells #[.int .i64 0, .int .i64 0, .int .i64 0] 43)).alloc (.cells #[.int .i64 0, .int .i64 0, .int .i64 0] 43)) := ⟨_, rfl⟩
      rw [← hWW] at bS bR kw bN bF bL l8 X0 Xz hz hW0 ⊢
      have o3 := o3.below Xz
      have h3 := (Xz.cell (p := ⟨k3, 0, none⟩) k3l).trans h3
      have k3l : k3 < W0.heap.size := by omega
      obtain ⟨nb, hnb⟩ : ∃ nb, nb = w7.heap.size := ⟨_, rfl⟩
      obtain ⟨wb, hwb⟩ : ∃ wb, wb = w4.heap.size := ⟨_, rfl⟩
      rw [← hnb] at bN bF bL l8 hW0 n4 ⊢
      rw [← hwb] at kw hs4 n4 hs1 ⊢
      obtain ⟨z, hzz⟩ : ∃ z, z = w3.heap.size := ⟨_, rfl⟩
      rw [← hzz] at hz hs4 o3
      clear hnb hwb hzz hWW Xz hXs hs6 B1 B2 B3 B4 B5 B6 D2 D3 D4 D5 D6 Z5 Z6 b1 b2 b3 b4 b6 B00 B0 CL CK CC CX CR hnil 
      have hE := es_short Ls
      have HEA := es_all Ls
      obtain ⟨tt, htt, hcl⟩ := all_goes Ls
      have hAs := all_short Ls
      refine (wpIn_wide (n := 3)).1 ?_
      refine wpIn_rangeFunc_ownH (F := Fence.wide) (n := 3) rfl (by omega) (gf := 35) (lb := #[.pointer (some ⟨k3, 0, none⟩)]) rfl trivial (enters_of Try.func35 (by kernel_rfl) rfl)
        (curves_stops k3 z A3 c3 2000000 (esC Ls) W0 h3 k3l o3 hz hE.1 hE.2.1 hE.2.2) belowK_t (belowK_b hz) (Below.refl _ _) (fun _ => rfl)
        (fun pre W => (∃ s, goCvs none pre = some s ∧ pre <+: allC Ls ∧ Blk W (nb + 1) 43 #[.int .i64 (keepF s).1, .int .i64 (keepF s).2.1, .int .i64 (keepF s).2.2] ∧ Blk W (nb + 1 + 1) 43 #[.int .i64 (keepL s).1, .int .i64 (keepL s).2.1, .int .i64 (keepL s).2.2] ∧ Blk W nb 3 #[.int .i64 pre.length]) ∧ Below nb W0 W)
        (fun c pre W => (c = .ret ∧ (pre <+: allC Ls → Blk W (w.heap.size + 1) 4 #[.bool true])) ∧ Below w.heap.size w W)
        (OwnFrom.and (fun pre X Y row hs hg hr => by
          obtain ⟨s, h1, h2, h3, h4, h5⟩ := hs
          exact ⟨s, h1, h2, blk_grown h3 (by omega) hg hr, blk_grown h4 (by omega) hg hr, blk_grown h5 (by omega) hg hr⟩) (ownFrom_below (by omega) (by omega)))
        (fun c => OwnFrom.and (fun pre X Y row hs hg hr => ⟨hs.1, fun hp => blk_grown (hs.2 hp) (by omega) hg hr⟩) (ownFrom_below (Nat.le_refl _) (by omega)))
        ⟨⟨none, rfl, List.nil_prefix, bF, bL, bN⟩, Below.refl _ _⟩
        (fun x a' W => ∃ Bx, nb + 1 + 1 < Bx ∧ Blk W Bx 45 (cvL x).toArray ∧ a' = { tmps := #[.slice A Ls.length c, .int .i64 st, undef, .pointer (some ⟨w.heap.size, 0, none⟩), .pointer (some ⟨w.heap.size + 1, 0, none⟩), .func (.func 35) #[] #[.pointer (some ⟨k3, 0, none⟩)], .pointer (some ⟨wb, 0, none⟩), .pointer (some ⟨nb, 0, none⟩), .pointer (some ⟨nb + 1, 0, none⟩), .pointer (some ⟨nb + 1 + 1, 0, none⟩), .pointer (some ⟨Bx, 0, none⟩), .slice A Ls.length c, .bool false, undef, .slice A Ls.length c, .slice A2 Ls.length c2, .func (.func 35) #[] #[.pointer (some ⟨k3, 0, none⟩)], .bool true, .bool false, .bool false, .func (.func 35) #[] #[.pointer (some ⟨k3, 0, none⟩)], .bool false, .bool false, .slice A Ls.length c, .int .i64 0, .bool true, .slice A Ls.length c, .slice A7 (allC Ls).length c7, .agg #[.int .i64 0, .int .i64 0, .int .i64 0], .agg #[.int .i64 0, .int .i64 0, .int .i64 0], .func (.func 35) #[] #[.pointer (some ⟨k3, 0, none⟩)], cvV x, undef, undef, undef, undef, undef, undef, undef, undef, undef, undef, undef, undef, undef, undef, undef, undef, undef, undef, undef, undef, undef, undef, undef, undef, undef, undef, undef, undef, undef, undef, undef, undef, undef, undef, undef, undef, undef, undef, undef, undef, undef, undef, undef, undef, undef, undef, undef, undef, undef], defers := [] })
        (fun x a' _ X Y row hs hg hr => by obtain ⟨Bx, h1, h2, h3⟩ := hs; exact ⟨Bx, h1, blk_kept h2 hg (fun r e => (hr r e).2), h3⟩)
        ?assign ?body ?done ?stop
      case assign =>
        rintro l pre x W K ⟨⟨s, i1, i2, i3, i4, i5⟩, i6⟩ hK
        have hWs := i6.size
        have hW4 := i4.lt
        have bX := Blk.new W 45 (cvL x).toArray
        have HK := hK _ (W.alloc (.cells (cvL x).toArray 45)) ((KeepsOthers.alloc _ _).from _) ((Below.refl _ W).alloc (by omega) _) ⟨⟨s, i1, i2, i3.al _, i4.al _, i5.al _⟩, i6.alloc (by omega) _⟩ ⟨W.heap.size, hW4, bX, rfl⟩
        clear hK i1 i2 i3 i4 i5 i6
        gi_wp2_with (refine wpListIn_store_row rfl 45 (.tmp 10) (.tmp 31) (by with_reducible rfl) W.heap.size (cvL x).toArray (by rfl) (by rfl) 45 #[.int .i64 0, .int .i64 0, .int .i64 0, .int .i64 0, .int .i64 0, .int .i64 0, .int .i64 0, .int .i64 0, .int .i64 0, .int .i64 0, .int .i64 0, .int .i64 0, .int .i64 0] (Blk.new _ _ _) cvSize rfl (by simp [cvL, ptCells, Value.oneCell']) ?_; rw [World.setRow_alloc_new])
        exact HK
      case body =>
        rintro l pre x a' W hl ⟨r, hr⟩ ⟨⟨s, i1, i2, i3, i4, i5⟩, i6⟩ ⟨Bx, hBx, bX, rfl⟩ hlt
        have c5 := i5.cell 0
        simp only [List.getElem?_toArray, List.getElem?_cons_zero] at c5
        have cw := (i6.cell (p := ⟨wb, 0, none⟩) (by omega)).trans (kw.cell 0)
        simp only [List.getElem?_toArray, List.getElem?_cons_zero] at cw
        have lw := l8.below i6
        have fr : W.frozen? ⟨w.heap.size + 1, 0, none⟩ = false := (Blk.frozen (show Blk W (w.heap.size + 1) 4 #[.bool false] from (i6.block _ (by omega)).trans bR) 0)
        have br : Blk W (w.heap.size + 1) 4 #[.bool false] := (i6.block _ (by omega)).trans bR
        have cr := br.cell 0
        have bs : Blk W w.heap.size 3 #[.int .i64 st] := (i6.block _ (by omega)).trans bS
        have BW : Below w.heap.size w W := X0.trans (i6.mono (by omega))
        simp only [List.getElem?_toArray, List.getElem?_cons_zero] at cr
        have HW0 := Lib.hid hW0
        clear hW0
        by_cases hlen : pre.length < (allC Ls).length
        · obtain ⟨y, hy, hpy⟩ := prefix_next i2 hlen
          obtain ⟨b, o, rfl, hbl, hR⟩ := cv_at lw hy
          have hx0 : W.rangeAt Bx 0 (cvL x) := fun j v hv => by rw [Nat.zero_add, bX.cell j, List.getElem?_toArray]; exact hv
          have q1 := run_loadAt_mid (P := Try.prog) W.drew b (o + pre.length * 13) 45 (cvL y) _ hR Try.underlying45 rfl cvSize
          have q2 := run_loadAt_mid (P := Try.prog) W.drew Bx 0 45 (cvL x) _ hx0 Try.underlying45 rfl cvSize
          obtain ⟨cy, hcy⟩ : ∃ cy, cy = (cvL y).toArray := ⟨_, rfl⟩
          obtain ⟨cx, hcx⟩ : ∃ cx, cx = (cvL x).toArray := ⟨_, rfl⟩
          obtain ⟨k, hk⟩ : ∃ k, k = pre.length := ⟨_, rfl⟩
          obtain ⟨q, hq⟩ : ∃ q, q = (allC Ls).length := ⟨_, rfl⟩
          have d2 : decide (q ≤ k) = false := by simp; omega
          have d1 : k < q := by omega
          rw [← hcy, ← hk] at q1
          rw [← hcx] at q2
          rw [← hk] at c5
          rw [← hq] at cw
          rw [← hq]
          have HQ := Lib.hid hq
          have HK := Lib.hid hk
          clear hk hq
          by_cases hxy : y = x
          · have hne : ∀ w, (binOp .neq 45 (.agg cy) (.agg cx)).run Try.prog w = .ok (.bool false) w := by
              subst hcy hcx hxy
              exact neCv_run y y false (by simp)
            have hng : ∀ w, (eqGuard .neq 45 (.tmp 40) (.tmp 41) (.agg cy) (.agg cx)).run Try.prog w = .ok () w := fun w => run_eqGuard_agg w .neq 45 _ _ cy cx (by kernel_rfl)
            clear hcy hcx
            gi_wp2
            refine wpIn_region_chain (fun W' => W'.cell? ⟨nb, 0, none⟩ = some (.int .i64 k) ∧ W'.cell? ⟨wb, 0, none⟩ = some (.slice (some ⟨b, o, none⟩) q c7) ∧ (Instr.loadAt 45 (.pointer (some ⟨b, o + k * 13, none⟩))).run Try.prog W' = .ok (.agg cy) W' ∧ (Instr.loadAt 45 (.pointer (some ⟨Bx, 0, none⟩))).run Try.prog W' = .ok (.agg cx) W') [(0, false), (1, false), (2, false), (3, false), (4, false), (5, false), (6, false), (7, false), (8, false), (9, false), (10, false), (11, false)] (by kernel_rfl) (by kernel_rfl) (by kernel_rfl) ?_ (⟨c5, cw, q1, q2⟩) ?_
            (focus (rintro ⟨_, _, h⟩; exact h))
            repeat (first
              | (refine ChainL.skip (o := ?_) ?_ ?_ ?_; rotate_left; (focus (first | (simp only [List.getElem?_toArray, List.getElem?_cons_succ, List.getElem?_cons_zero]; with_reducible rfl) | (simp only [List.getElem?_toArray, List.getElem?_cons_zero]; with_reducible rfl))); (focus rfl); simp only [Act.put, List.setIfInBounds_toArray, List.set_cons_zero, List.set_cons_succ])
              | (refine ChainL.val (o := ?_) (v := ?_) ?_ ?_ ?_ ?_ ?_; rotate_left 2; (focus (first | (simp only [List.getElem?_toArray, List.getElem?_cons_succ, List.getElem?_cons_zero]; with_reducible rfl) | (simp only [List.getElem?_toArray, List.getElem?_cons_zero]; with_reducible rfl))); (focus (intro _ _ h; cases h)); (focus rfl); (focus (intro w' hI; obtain ⟨hA, hB, hC, hD⟩ := hI; first | (have H := fun ρ o x => @exec_load _ ρ o _ _ x _ _ hC; refine H _ _ ?_ ?_ ?_; rotate_left; (focus rfl); (focus rfl)) | (have H := fun ρ o x => @exec_load _ ρ o _ _ x _ _ hD; refine H _ _ ?_ ?_ ?_; rotate_left; (focus rfl); (focus rfl)) | (go_simp <;> with_reducible rfl))); simp only [Act.put, List.setIfInBounds_toArray, List.set_cons_zero, List.set_cons_succ]))
            refine ChainL.nil ?_
            clear q1 q2 hne hng
            obtain rfl := hxy
            obtain ⟨s', t', hs', ht', htt'⟩ := go_step htt hpy
            obtain rfl : s = s' := by rw [i1] at hs'; exact Option.some.inj hs'
            have ways := go_ways i1 ht'
            obtain ⟨kd, ⟨ax, ay, ak⟩, B2, B3, ⟨dx, dy, dk⟩⟩ := y
            have x1 := bX.cell 1
            have x2 := bX.cell 2
            have x3 := bX.cell 3
            have x10 := bX.cell 10
            have x11 := bX.cell 11
            have x12 := bX.cell 12
            simp only [cvL, ptCells, List.getElem?_toArray, List.getElem?_cons_zero, List.getElem?_cons_succ] at x1 x2 x3 x10 x11 x12
            simp only at ways
            rcases hF : keepF s with ⟨fx, fy, fk⟩
            rcases hL : keepL s with ⟨lx, ly, lk⟩
            rw [hF] at i3 ways
            rw [hL] at i4 ways
            simp only at i3 i4
            have f0 := i3.cell 0
            have f1 := i3.cell 1
            have f2 := i3.cell 2
            have g0 := i4.cell 0
            have g1 := i4.cell 1
            have g2 := i4.cell 2
            have cs := bs.cell 0
            simp only [List.getElem?_toArray, List.getElem?_cons_zero, List.getElem?_cons_succ] at f0 f1 f2 g0 g1 g2 cs
            have u0 := i3.frozen 0
            have u1 := i3.frozen 1
            have u2 := i3.frozen 2
            have v0 := i4.frozen 0
            have v1 := i4.frozen 1
            have v2 := i4.frozen 2
            have w0 := i5.frozen 0
            have n1 : ¬ Bx = nb + 1 := by omega
            have n2 : ¬ Bx = nb + 1 + 1 := by omega
            have n3 : ¬ Bx = nb := by omega
            have n5 : ¬ w.heap.size = nb := by omega
            have n6 : ¬ w.heap.size = nb + 1 := by omega
            have n7 : ¬ w.heap.size = nb + 1 + 1 := by omega
            have n8 : ¬ w.heap.size + 1 = nb := by omega
            have n9 : ¬ w.heap.size = nb + 1 := by omega
            have n10 : ¬ w.heap.size + 1 = nb + 1 + 1 := by omega
            have e1 : IntKind.i64.wrap ((k : Int) + 1) = (k : Int) + 1 := IntWalk.i64_in _ (by have := HK.out; omega)
            rcases ways with ⟨z0, zF, zL⟩ | ⟨z0, zA, zF, zL⟩ | ⟨z0, zA, zB, zF, zL⟩
            · obtain rfl : k = 0 := by rw [HK.out]; exact z0
              by_cases hst : st = 1
              · subst hst
                gi_wp2
                have hk1 : KeepsFrom W0.heap.size W ((((((((W.setCell ⟨nb + 1, 0, none⟩ (.int .i64 ax)).setCell ⟨nb + 1, 1, none⟩ (.int .i64 ay)).setCell ⟨nb + 1, 2, none⟩ (.int .i64 ak)).setCell ⟨nb + 1 + 1, 0, none⟩ (.int .i64 dx)).setCell ⟨nb + 1 + 1, 1, none⟩ (.int .i64 dy)).setCell ⟨nb + 1 + 1, 2, none⟩ (.int .i64 dk)).setCell ⟨nb, 0, none⟩ (.int .i64 (1))).setCell ⟨w.heap.size + 1, 0, none⟩ (.bool true)).drew := (((((((((KeepsOthers.setCell W ⟨nb + 1, 0, none⟩ (.int .i64 ax)).trans (KeepsOthers.setCell (W.setCell ⟨nb + 1, 0, none⟩ (.int .i64 ax)) ⟨nb + 1, 1, none⟩ (.int .i64 ay))).trans (KeepsOthers.setCell ((W.setCell ⟨nb + 1, 0, none⟩ (.int .i64 ax)).setCell ⟨nb + 1, 1, none⟩ (.int .i64 ay)) ⟨nb + 1, 2, none⟩ (.int .i64 ak))).trans (KeepsOthers.setCell (((W.setCell ⟨nb + 1, 0, none⟩ (.int .i64 ax)).setCell ⟨nb + 1, 1, none⟩ (.int .i64 ay)).setCell ⟨nb + 1, 2, none⟩ (.int .i64 ak)) ⟨nb + 1 + 1, 0, none⟩ (.int .i64 dx))).trans (KeepsOthers.setCell ((((W.setCell ⟨nb + 1, 0, none⟩ (.int .i64 ax)).setCell ⟨nb + 1, 1, none⟩ (.int .i64 ay)).setCell ⟨nb + 1, 2, none⟩ (.int .i64 ak)).setCell ⟨nb + 1 + 1, 0, none⟩ (.int .i64 dx)) ⟨nb + 1 + 1, 1, none⟩ (.int .i64 dy))).trans (KeepsOthers.setCell (((((W.setCell ⟨nb + 1, 0, none⟩ (.int .i64 ax)).setCell ⟨nb + 1, 1, none⟩ (.int .i64 ay)).setCell ⟨nb + 1, 2, none⟩ (.int .i64 ak)).setCell ⟨nb + 1 + 1, 0, none⟩ (.int .i64 dx)).setCell ⟨nb + 1 + 1, 1, none⟩ (.int .i64 dy)) ⟨nb + 1 + 1, 2, none⟩ (.int .i64 dk))).trans (KeepsOthers.setCell ((((((W.setCell ⟨nb + 1, 0, none⟩ (.int .i64 ax)).setCell ⟨nb + 1, 1, none⟩ (.int .i64 ay)).setCell ⟨nb + 1, 2, none⟩ (.int .i64 ak)).setCell ⟨nb + 1 + 1, 0, none⟩ (.int .i64 dx)).setCell ⟨nb + 1 + 1, 1, none⟩ (.int .i64 dy)).setCell ⟨nb + 1 + 1, 2, none⟩ (.int .i64 dk)) ⟨nb, 0, none⟩ (.int .i64 (1)))).trans (KeepsOthers.setCell (((((((W.setCell ⟨nb + 1, 0, none⟩ (.int .i64 ax)).setCell ⟨nb + 1, 1, none⟩ (.int .i64 ay)).setCell ⟨nb + 1, 2, none⟩ (.int .i64 ak)).setCell ⟨nb + 1 + 1, 0, none⟩ (.int .i64 dx)).setCell ⟨nb + 1 + 1, 1, none⟩ (.int .i64 dy)).setCell ⟨nb + 1 + 1, 2, none⟩ (.int .i64 dk)).setCell ⟨nb, 0, none⟩ (.int .i64 (1))) ⟨w.heap.size + 1, 0, none⟩ (.bool true))).trans (KeepsOthers.drew ((((((((W.setCell ⟨nb + 1, 0, none⟩ (.int .i64 ax)).setCell ⟨nb + 1, 1, none⟩ (.int .i64 ay)).setCell ⟨nb + 1, 2, none⟩ (.int .i64 ak)).setCell ⟨nb + 1 + 1, 0, none⟩ (.int .i64 dx)).setCell ⟨nb + 1 + 1, 1, none⟩ (.int .i64 dy)).setCell ⟨nb + 1 + 1, 2, none⟩ (.int .i64 dk)).setCell ⟨nb, 0, none⟩ (.int .i64 (1))).setCell ⟨w.heap.size + 1, 0, none⟩ (.bool true)))).from _
                have hk2 : Blk ((((((((W.setCell ⟨nb + 1, 0, none⟩ (.int .i64 ax)).setCell ⟨nb + 1, 1, none⟩ (.int .i64 ay)).setCell ⟨nb + 1, 2, none⟩ (.int .i64 ak)).setCell ⟨nb + 1 + 1, 0, none⟩ (.int .i64 dx)).setCell ⟨nb + 1 + 1, 1, none⟩ (.int .i64 dy)).setCell ⟨nb + 1 + 1, 2, none⟩ (.int .i64 dk)).setCell ⟨nb, 0, none⟩ (.int .i64 (1))).setCell ⟨w.heap.size + 1, 0, none⟩ (.bool true)) (w.heap.size + 1) 4 #[.bool true] := ((((((((br).other (q := ⟨nb + 1, 0, none⟩) (by first | (simp; done) | (simp; omega)) (.int .i64 ax)).other (q := ⟨nb + 1, 1, none⟩) (by first | (simp; done) | (simp; omega)) (.int .i64 ay)).other (q := ⟨nb + 1, 2, none⟩) (by first | (simp; done) | (simp; omega)) (.int .i64 ak)).other (q := ⟨nb + 1 + 1, 0, none⟩) (by first | (simp; done) | (simp; omega)) (.int .i64 dx)).other (q := ⟨nb + 1 + 1, 1, none⟩) (by first | (simp; done) | (simp; omega)) (.int .i64 dy)).other (q := ⟨nb + 1 + 1, 2, none⟩) (by first | (simp; done) | (simp; omega)) (.int .i64 dk)).other (q := ⟨nb, 0, none⟩) (by first | (simp; done) | (simp; omega)) (.int .i64 (1))).set 0 (.bool true)
                have hk3 : Below w.heap.size w ((((((((W.setCell ⟨nb + 1, 0, none⟩ (.int .i64 ax)).setCell ⟨nb + 1, 1, none⟩ (.int .i64 ay)).setCell ⟨nb + 1, 2, none⟩ (.int .i64 ak)).setCell ⟨nb + 1 + 1, 0, none⟩ (.int .i64 dx)).setCell ⟨nb + 1 + 1, 1, none⟩ (.int .i64 dy)).setCell ⟨nb + 1 + 1, 2, none⟩ (.int .i64 dk)).setCell ⟨nb, 0, none⟩ (.int .i64 (1))).setCell ⟨w.heap.size + 1, 0, none⟩ (.bool true)).drew := (((((((((BW).setCell (p := ⟨nb + 1, 0, none⟩) (by first | (simp; done) | (simp; omega)) (.int .i64 ax)).setCell (p := ⟨nb + 1, 1, none⟩) (by first | (simp; done) | (simp; omega)) (.int .i64 ay)).setCell (p := ⟨nb + 1, 2, none⟩) (by first | (simp; done) | (simp; omega)) (.int .i64 ak)).setCell (p := ⟨nb + 1 + 1, 0, none⟩) (by first | (simp; done) | (simp; omega)) (.int .i64 dx)).setCell (p := ⟨nb + 1 + 1, 1, none⟩) (by first | (simp; done) | (simp; omega)) (.int .i64 dy)).setCell (p := ⟨nb + 1 + 1, 2, none⟩) (by first | (simp; done) | (simp; omega)) (.int .i64 dk)).setCell (p := ⟨nb, 0, none⟩) (by first | (simp; done) | (simp; omega)) (.int .i64 (1))).setCell (p := ⟨w.heap.size + 1, 0, none⟩) (by first | (simp; done) | (simp; omega)) (.bool true)).drew
                exact ⟨hk1, ⟨rfl, fun _ => blk_drew hk2⟩, hk3⟩
              · have ds : ((0 : Int) + 1 == st) = false := by simp; omega
                have ds2 : ((1 : Int) == st) = false := by simp; omega
                have ds3 : ¬ (1 : Int) = st := by omega
                gi_wp2
                have hk1 : KeepsFrom W0.heap.size W (((((((W.setCell ⟨nb + 1, 0, none⟩ (.int .i64 ax)).setCell ⟨nb + 1, 1, none⟩ (.int .i64 ay)).setCell ⟨nb + 1, 2, none⟩ (.int .i64 ak)).setCell ⟨nb + 1 + 1, 0, none⟩ (.int .i64 dx)).setCell ⟨nb + 1 + 1, 1, none⟩ (.int .i64 dy)).setCell ⟨nb + 1 + 1, 2, none⟩ (.int .i64 dk)).setCell ⟨nb, 0, none⟩ (.int .i64 (1))).drew := ((((((((KeepsOthers.setCell W ⟨nb + 1, 0, none⟩ (.int .i64 ax)).trans (KeepsOthers.setCell (W.setCell ⟨nb + 1, 0, none⟩ (.int .i64 ax)) ⟨nb + 1, 1, none⟩ (.int .i64 ay))).trans (KeepsOthers.setCell ((W.setCell ⟨nb + 1, 0, none⟩ (.int .i64 ax)).setCell ⟨nb + 1, 1, none⟩ (.int .i64 ay)) ⟨nb + 1, 2, none⟩ (.int .i64 ak))).trans (KeepsOthers.setCell (((W.setCell ⟨nb + 1, 0, none⟩ (.int .i64 ax)).setCell ⟨nb + 1, 1, none⟩ (.int .i64 ay)).setCell ⟨nb + 1, 2, none⟩ (.int .i64 ak)) ⟨nb + 1 + 1, 0, none⟩ (.int .i64 dx))).trans (KeepsOthers.setCell ((((W.setCell ⟨nb + 1, 0, none⟩ (.int .i64 ax)).setCell ⟨nb + 1, 1, none⟩ (.int .i64 ay)).setCell ⟨nb + 1, 2, none⟩ (.int .i64 ak)).setCell ⟨nb + 1 + 1, 0, none⟩ (.int .i64 dx)) ⟨nb + 1 + 1, 1, none⟩ (.int .i64 dy))).trans (KeepsOthers.setCell (((((W.setCell ⟨nb + 1, 0, none⟩ (.int .i64 ax)).setCell ⟨nb + 1, 1, none⟩ (.int .i64 ay)).setCell ⟨nb + 1, 2, none⟩ (.int .i64 ak)).setCell ⟨nb + 1 + 1, 0, none⟩ (.int .i64 dx)).setCell ⟨nb + 1 + 1, 1, none⟩ (.int .i64 dy)) ⟨nb + 1 + 1, 2, none⟩ (.int .i64 dk))).trans (KeepsOthers.setCell ((((((W.setCell ⟨nb + 1, 0, none⟩ (.int .i64 ax)).setCell ⟨nb + 1, 1, none⟩ (.int .i64 ay)).setCell ⟨nb + 1, 2, none⟩ (.int .i64 ak)).setCell ⟨nb + 1 + 1, 0, none⟩ (.int .i64 dx)).setCell ⟨nb + 1 + 1, 1, none⟩ (.int .i64 dy)).setCell ⟨nb + 1 + 1, 2, none⟩ (.int .i64 dk)) ⟨nb, 0, none⟩ (.int .i64 (1)))).trans (KeepsOthers.drew (((((((W.setCell ⟨nb + 1, 0, none⟩ (.int .i64 ax)).setCell ⟨nb + 1, 1, none⟩ (.int .i64 ay)).setCell ⟨nb + 1, 2, none⟩ (.int .i64 ak)).setCell ⟨nb + 1 + 1, 0, none⟩ (.int .i64 dx)).setCell ⟨nb + 1 + 1, 1, none⟩ (.int .i64 dy)).setCell ⟨nb + 1 + 1, 2, none⟩ (.int .i64 dk)).setCell ⟨nb, 0, none⟩ (.int .i64 (1))))).from _
                have hk2 : Blk (((((((W.setCell ⟨nb + 1, 0, none⟩ (.int .i64 ax)).setCell ⟨nb + 1, 1, none⟩ (.int .i64 ay)).setCell ⟨nb + 1, 2, none⟩ (.int .i64 ak)).setCell ⟨nb + 1 + 1, 0, none⟩ (.int .i64 dx)).setCell ⟨nb + 1 + 1, 1, none⟩ (.int .i64 dy)).setCell ⟨nb + 1 + 1, 2, none⟩ (.int .i64 dk)).setCell ⟨nb, 0, none⟩ (.int .i64 (1))) (nb + 1) 43 #[.int .i64 ax, .int .i64 ay, .int .i64 ak] := (((((((i3).set 0 (.int .i64 ax)).set 1 (.int .i64 ay)).set 2 (.int .i64 ak)).other (q := ⟨nb + 1 + 1, 0, none⟩) (by first | (simp; done) | (simp; omega)) (.int .i64 dx)).other (q := ⟨nb + 1 + 1, 1, none⟩) (by first | (simp; done) | (simp; omega)) (.int .i64 dy)).other (q := ⟨nb + 1 + 1, 2, none⟩) (by first | (simp; done) | (simp; omega)) (.int .i64 dk)).other (q := ⟨nb, 0, none⟩) (by first | (simp; done) | (simp; omega)) (.int .i64 (1))
                have hk3 : Blk (((((((W.setCell ⟨nb + 1, 0, none⟩ (.int .i64 ax)).setCell ⟨nb + 1, 1, none⟩ (.int .i64 ay)).setCell ⟨nb + 1, 2, none⟩ (.int .i64 ak)).setCell ⟨nb + 1 + 1, 0, none⟩ (.int .i64 dx)).setCell ⟨nb + 1 + 1, 1, none⟩ (.int .i64 dy)).setCell ⟨nb + 1 + 1, 2, none⟩ (.int .i64 dk)).setCell ⟨nb, 0, none⟩ (.int .i64 (1))) (nb + 1 + 1) 43 #[.int .i64 dx, .int .i64 dy, .int .i64 dk] := (((((((i4).other (q := ⟨nb + 1, 0, none⟩) (by first | (simp; done) | (simp; omega)) (.int .i64 ax)).other (q := ⟨nb + 1, 1, none⟩) (by first | (simp; done) | (simp; omega)) (.int .i64 ay)).other (q := ⟨nb + 1, 2, none⟩) (by first | (simp; done) | (simp; omega)) (.int .i64 ak)).set 0 (.int .i64 dx)).set 1 (.int .i64 dy)).set 2 (.int .i64 dk)).other (q := ⟨nb, 0, none⟩) (by first | (simp; done) | (simp; omega)) (.int .i64 (1))
                have hk4 : Blk (((((((W.setCell ⟨nb + 1, 0, none⟩ (.int .i64 ax)).setCell ⟨nb + 1, 1, none⟩ (.int .i64 ay)).setCell ⟨nb + 1, 2, none⟩ (.int .i64 ak)).setCell ⟨nb + 1 + 1, 0, none⟩ (.int .i64 dx)).setCell ⟨nb + 1 + 1, 1, none⟩ (.int .i64 dy)).setCell ⟨nb + 1 + 1, 2, none⟩ (.int .i64 dk)).setCell ⟨nb, 0, none⟩ (.int .i64 (1))) nb 3 #[.int .i64 (1)] := (((((((i5).other (q := ⟨nb + 1, 0, none⟩) (by first | (simp; done) | (simp; omega)) (.int .i64 ax)).other (q := ⟨nb + 1, 1, none⟩) (by first | (simp; done) | (simp; omega)) (.int .i64 ay)).other (q := ⟨nb + 1, 2, none⟩) (by first | (simp; done) | (simp; omega)) (.int .i64 ak)).other (q := ⟨nb + 1 + 1, 0, none⟩) (by first | (simp; done) | (simp; omega)) (.int .i64 dx)).other (q := ⟨nb + 1 + 1, 1, none⟩) (by first | (simp; done) | (simp; omega)) (.int .i64 dy)).other (q := ⟨nb + 1 + 1, 2, none⟩) (by first | (simp; done) | (simp; omega)) (.int .i64 dk)).set 0 (.int .i64 (1))
                have hk5 : Below z W (((((((W.setCell ⟨nb + 1, 0, none⟩ (.int .i64 ax)).setCell ⟨nb + 1, 1, none⟩ (.int .i64 ay)).setCell ⟨nb + 1, 2, none⟩ (.int .i64 ak)).setCell ⟨nb + 1 + 1, 0, none⟩ (.int .i64 dx)).setCell ⟨nb + 1 + 1, 1, none⟩ (.int .i64 dy)).setCell ⟨nb + 1 + 1, 2, none⟩ (.int .i64 dk)).setCell ⟨nb, 0, none⟩ (.int .i64 (1))).drew := ((((((((Below.refl _ _).setCell (p := ⟨nb + 1, 0, none⟩) (by first | (simp; done) | (simp; omega)) (.int .i64 ax)).setCell (p := ⟨nb + 1, 1, none⟩) (by first | (simp; done) | (simp; omega)) (.int .i64 ay)).setCell (p := ⟨nb + 1, 2, none⟩) (by first | (simp; done) | (simp; omega)) (.int .i64 ak)).setCell (p := ⟨nb + 1 + 1, 0, none⟩) (by first | (simp; done) | (simp; omega)) (.int .i64 dx)).setCell (p := ⟨nb + 1 + 1, 1, none⟩) (by first | (simp; done) | (simp; omega)) (.int .i64 dy)).setCell (p := ⟨nb + 1 + 1, 2, none⟩) (by first | (simp; done) | (simp; omega)) (.int .i64 dk)).setCell (p := ⟨nb, 0, none⟩) (by first | (simp; done) | (simp; omega)) (.int .i64 (1))).drew
                have hk6 : Below nb W0 (((((((W.setCell ⟨nb + 1, 0, none⟩ (.int .i64 ax)).setCell ⟨nb + 1, 1, none⟩ (.int .i64 ay)).setCell ⟨nb + 1, 2, none⟩ (.int .i64 ak)).setCell ⟨nb + 1 + 1, 0, none⟩ (.int .i64 dx)).setCell ⟨nb + 1 + 1, 1, none⟩ (.int .i64 dy)).setCell ⟨nb + 1 + 1, 2, none⟩ (.int .i64 dk)).setCell ⟨nb, 0, none⟩ (.int .i64 (1))).drew := ((((((((i6).setCell (p := ⟨nb + 1, 0, none⟩) (by first | (simp; done) | (simp; omega)) (.int .i64 ax)).setCell (p := ⟨nb + 1, 1, none⟩) (by first | (simp; done) | (simp; omega)) (.int .i64 ay)).setCell (p := ⟨nb + 1, 2, none⟩) (by first | (simp; done) | (simp; omega)) (.int .i64 ak)).setCell (p := ⟨nb + 1 + 1, 0, none⟩) (by first | (simp; done) | (simp; omega)) (.int .i64 dx)).setCell (p := ⟨nb + 1 + 1, 1, none⟩) (by first | (simp; done) | (simp; omega)) (.int .i64 dy)).setCell (p := ⟨nb + 1 + 1, 2, none⟩) (by first | (simp; done) | (simp; omega)) (.int .i64 dk)).setCell (p := ⟨nb, 0, none⟩) (by first | (simp; done) | (simp; omega)) (.int .i64 (1))).drew
                have hkn : ((pre ++ [(kd, (ax, ay, ak), B2, B3, dx, dy, dk)]).length : Int) = 1 := by rw [List.length_append, List.length_singleton, ← HK.out]; rfl
                have hI6 : Blk (((((((W.setCell ⟨nb + 1, 0, none⟩ (.int .i64 ax)).setCell ⟨nb + 1, 1, none⟩ (.int .i64 ay)).setCell ⟨nb + 1, 2, none⟩ (.int .i64 ak)).setCell ⟨nb + 1 + 1, 0, none⟩ (.int .i64 dx)).setCell ⟨nb + 1 + 1, 1, none⟩ (.int .i64 dy)).setCell ⟨nb + 1 + 1, 2, none⟩ (.int .i64 dk)).setCell ⟨nb, 0, none⟩ (.int .i64 (1))) (nb + 1) 43 #[.int .i64 (keepF t').1, .int .i64 (keepF t').2.1, .int .i64 (keepF t').2.2] := by rw [zF]; exact hk2
                have hI7 : Blk (((((((W.setCell ⟨nb + 1, 0, none⟩ (.int .i64 ax)).setCell ⟨nb + 1, 1, none⟩ (.int .i64 ay)).setCell ⟨nb + 1, 2, none⟩ (.int .i64 ak)).setCell ⟨nb + 1 + 1, 0, none⟩ (.int .i64 dx)).setCell ⟨nb + 1 + 1, 1, none⟩ (.int .i64 dy)).setCell ⟨nb + 1 + 1, 2, none⟩ (.int .i64 dk)).setCell ⟨nb, 0, none⟩ (.int .i64 (1))) (nb + 1 + 1) 43 #[.int .i64 (keepL t').1, .int .i64 (keepL t').2.1, .int .i64 (keepL t').2.2] := by rw [zL]; exact hk3
                have hI8 : Blk (((((((W.setCell ⟨nb + 1, 0, none⟩ (.int .i64 ax)).setCell ⟨nb + 1, 1, none⟩ (.int .i64 ay)).setCell ⟨nb + 1, 2, none⟩ (.int .i64 ak)).setCell ⟨nb + 1 + 1, 0, none⟩ (.int .i64 dx)).setCell ⟨nb + 1 + 1, 1, none⟩ (.int .i64 dy)).setCell ⟨nb + 1 + 1, 2, none⟩ (.int .i64 dk)).setCell ⟨nb, 0, none⟩ (.int .i64 (1))) nb 3 #[.int .i64 (pre ++ [(kd, (ax, ay, ak), B2, B3, dx, dy, dk)]).length] := by rw [hkn]; exact hk4
                exact ⟨hk1, hk5, ⟨t', htt', hpy, blk_drew hI6, blk_drew hI7, blk_drew hI8⟩, hk6⟩
            · have y2 : 0 < k := by rw [HK.out]; exact z0
              have y0 : ((k : Int) == 0) = false := by simp; omega
              have y1 : ¬ k = 0 := by omega
              obtain ⟨rfl, rfl, rfl⟩ : ax = lx ∧ ay = ly ∧ ak = lk := by simpa using zA
              have pe := neP_run ax ay ak ax ay ak true (by simp [eq3])
              have pg := neP_guard ax ay ak ax ay ak
              by_cases hst : (k : Int) + 1 = st
              · subst hst
                gi_wp2
                have hk1 : KeepsFrom W0.heap.size W (((((W.setCell ⟨nb + 1 + 1, 0, none⟩ (.int .i64 dx)).setCell ⟨nb + 1 + 1, 1, none⟩ (.int .i64 dy)).setCell ⟨nb + 1 + 1, 2, none⟩ (.int .i64 dk)).setCell ⟨nb, 0, none⟩ (.int .i64 ((k : Int) + 1))).setCell ⟨w.heap.size + 1, 0, none⟩ (.bool true)).drew := ((((((KeepsOthers.setCell W ⟨nb + 1 + 1, 0, none⟩ (.int .i64 dx)).trans (KeepsOthers.setCell (W.setCell ⟨nb + 1 + 1, 0, none⟩ (.int .i64 dx)) ⟨nb + 1 + 1, 1, none⟩ (.int .i64 dy))).trans (KeepsOthers.setCell ((W.setCell ⟨nb + 1 + 1, 0, none⟩ (.int .i64 dx)).setCell ⟨nb + 1 + 1, 1, none⟩ (.int .i64 dy)) ⟨nb + 1 + 1, 2, none⟩ (.int .i64 dk))).trans (KeepsOthers.setCell (((W.setCell ⟨nb + 1 + 1, 0, none⟩ (.int .i64 dx)).setCell ⟨nb + 1 + 1, 1, none⟩ (.int .i64 dy)).setCell ⟨nb + 1 + 1, 2, none⟩ (.int .i64 dk)) ⟨nb, 0, none⟩ (.int .i64 ((k : Int) + 1)))).trans (KeepsOthers.setCell ((((W.setCell ⟨nb + 1 + 1, 0, none⟩ (.int .i64 dx)).setCell ⟨nb + 1 + 1, 1, none⟩ (.int .i64 dy)).setCell ⟨nb + 1 + 1, 2, none⟩ (.int .i64 dk)).setCell ⟨nb, 0, none⟩ (.int .i64 ((k : Int) + 1))) ⟨w.heap.size + 1, 0, none⟩ (.bool true))).trans (KeepsOthers.drew (((((W.setCell ⟨nb + 1 + 1, 0, none⟩ (.int .i64 dx)).setCell ⟨nb + 1 + 1, 1, none⟩ (.int .i64 dy)).setCell ⟨nb + 1 + 1, 2, none⟩ (.int .i64 dk)).setCell ⟨nb, 0, none⟩ (.int .i64 ((k : Int) + 1))).setCell ⟨w.heap.size + 1, 0, none⟩ (.bool true)))).from _
                have hk2 : Blk (((((W.setCell ⟨nb + 1 + 1, 0, none⟩ (.int .i64 dx)).setCell ⟨nb + 1 + 1, 1, none⟩ (.int .i64 dy)).setCell ⟨nb + 1 + 1, 2, none⟩ (.int .i64 dk)).setCell ⟨nb, 0, none⟩ (.int .i64 ((k : Int) + 1))).setCell ⟨w.heap.size + 1, 0, none⟩ (.bool true)) (w.heap.size + 1) 4 #[.bool true] := (((((br).other (q := ⟨nb + 1 + 1, 0, none⟩) (by first | (simp; done) | (simp; omega)) (.int .i64 dx)).other (q := ⟨nb + 1 + 1, 1, none⟩) (by first | (simp; done) | (simp; omega)) (.int .i64 dy)).other (q := ⟨nb + 1 + 1, 2, none⟩) (by first | (simp; done) | (simp; omega)) (.int .i64 dk)).other (q := ⟨nb, 0, none⟩) (by first | (simp; done) | (simp; omega)) (.int .i64 ((k : Int) + 1))).set 0 (.bool true)
                have hk3 : Below w.heap.size w (((((W.setCell ⟨nb + 1 + 1, 0, none⟩ (.int .i64 dx)).setCell ⟨nb + 1 + 1, 1, none⟩ (.int .i64 dy)).setCell ⟨nb + 1 + 1, 2, none⟩ (.int .i64 dk)).setCell ⟨nb, 0, none⟩ (.int .i64 ((k : Int) + 1))).setCell ⟨w.heap.size + 1, 0, none⟩ (.bool true)).drew := ((((((BW).setCell (p := ⟨nb + 1 + 1, 0, none⟩) (by first | (simp; done) | (simp; omega)) (.int .i64 dx)).setCell (p := ⟨nb + 1 + 1, 1, none⟩) (by first | (simp; done) | (simp; omega)) (.int .i64 dy)).setCell (p := ⟨nb + 1 + 1, 2, none⟩) (by first | (simp; done) | (simp; omega)) (.int .i64 dk)).setCell (p := ⟨nb, 0, none⟩) (by first | (simp; done) | (simp; omega)) (.int .i64 ((k : Int) + 1))).setCell (p := ⟨w.heap.size + 1, 0, none⟩) (by first | (simp; done) | (simp; omega)) (.bool true)).drew
                exact ⟨hk1, ⟨rfl, fun _ => blk_drew hk2⟩, hk3⟩
              · have ds : ((k : Int) + 1 == st) = false := by simpa using hst
                gi_wp2
                have hk1 : KeepsFrom W0.heap.size W ((((W.setCell ⟨nb + 1 + 1, 0, none⟩ (.int .i64 dx)).setCell ⟨nb + 1 + 1, 1, none⟩ (.int .i64 dy)).setCell ⟨nb + 1 + 1, 2, none⟩ (.int .i64 dk)).setCell ⟨nb, 0, none⟩ (.int .i64 ((k : Int) + 1))).drew := (((((KeepsOthers.setCell W ⟨nb + 1 + 1, 0, none⟩ (.int .i64 dx)).trans (KeepsOthers.setCell (W.setCell ⟨nb + 1 + 1, 0, none⟩ (.int .i64 dx)) ⟨nb + 1 + 1, 1, none⟩ (.int .i64 dy))).trans (KeepsOthers.setCell ((W.setCell ⟨nb + 1 + 1, 0, none⟩ (.int .i64 dx)).setCell ⟨nb + 1 + 1, 1, none⟩ (.int .i64 dy)) ⟨nb + 1 + 1, 2, none⟩ (.int .i64 dk))).trans (KeepsOthers.setCell (((W.setCell ⟨nb + 1 + 1, 0, none⟩ (.int .i64 dx)).setCell ⟨nb + 1 + 1, 1, none⟩ (.int .i64 dy)).setCell ⟨nb + 1 + 1, 2, none⟩ (.int .i64 dk)) ⟨nb, 0, none⟩ (.int .i64 ((k : Int) + 1)))).trans (KeepsOthers.drew ((((W.setCell ⟨nb + 1 + 1, 0, none⟩ (.int .i64 dx)).setCell ⟨nb + 1 + 1, 1, none⟩ (.int .i64 dy)).setCell ⟨nb + 1 + 1, 2, none⟩ (.int .i64 dk)).setCell ⟨nb, 0, none⟩ (.int .i64 ((k : Int) + 1))))).from _
                have hk2 : Blk ((((W.setCell ⟨nb + 1 + 1, 0, none⟩ (.int .i64 dx)).setCell ⟨nb + 1 + 1, 1, none⟩ (.int .i64 dy)).setCell ⟨nb + 1 + 1, 2, none⟩ (.int .i64 dk)).setCell ⟨nb, 0, none⟩ (.int .i64 ((k : Int) + 1))) (nb + 1) 43 #[.int .i64 fx, .int .i64 fy, .int .i64 fk] := ((((i3).other (q := ⟨nb + 1 + 1, 0, none⟩) (by first | (simp; done) | (simp; omega)) (.int .i64 dx)).other (q := ⟨nb + 1 + 1, 1, none⟩) (by first | (simp; done) | (simp; omega)) (.int .i64 dy)).other (q := ⟨nb + 1 + 1, 2, none⟩) (by first | (simp; done) | (simp; omega)) (.int .i64 dk)).other (q := ⟨nb, 0, none⟩) (by first | (simp; done) | (simp; omega)) (.int .i64 ((k : Int) + 1))
                have hk3 : Blk ((((W.setCell ⟨nb + 1 + 1, 0, none⟩ (.int .i64 dx)).setCell ⟨nb + 1 + 1, 1, none⟩ (.int .i64 dy)).setCell ⟨nb + 1 + 1, 2, none⟩ (.int .i64 dk)).setCell ⟨nb, 0, none⟩ (.int .i64 ((k : Int) + 1))) (nb + 1 + 1) 43 #[.int .i64 dx, .int .i64 dy, .int .i64 dk] := ((((i4).set 0 (.int .i64 dx)).set 1 (.int .i64 dy)).set 2 (.int .i64 dk)).other (q := ⟨nb, 0, none⟩) (by first | (simp; done) | (simp; omega)) (.int .i64 ((k : Int) + 1))
                have hk4 : Blk ((((W.setCell ⟨nb + 1 + 1, 0, none⟩ (.int .i64 dx)).setCell ⟨nb + 1 + 1, 1, none⟩ (.int .i64 dy)).setCell ⟨nb + 1 + 1, 2, none⟩ (.int .i64 dk)).setCell ⟨nb, 0, none⟩ (.int .i64 ((k : Int) + 1))) nb 3 #[.int .i64 ((k : Int) + 1)] := ((((i5).other (q := ⟨nb + 1 + 1, 0, none⟩) (by first | (simp; done) | (simp; omega)) (.int .i64 dx)).other (q := ⟨nb + 1 + 1, 1, none⟩) (by first | (simp; done) | (simp; omega)) (.int .i64 dy)).other (q := ⟨nb + 1 + 1, 2, none⟩) (by first | (simp; done) | (simp; omega)) (.int .i64 dk)).set 0 (.int .i64 ((k : Int) + 1))
                have hk5 : Below z W ((((W.setCell ⟨nb + 1 + 1, 0, none⟩ (.int .i64 dx)).setCell ⟨nb + 1 + 1, 1, none⟩ (.int .i64 dy)).setCell ⟨nb + 1 + 1, 2, none⟩ (.int .i64 dk)).setCell ⟨nb, 0, none⟩ (.int .i64 ((k : Int) + 1))).drew := (((((Below.refl _ _).setCell (p := ⟨nb + 1 + 1, 0, none⟩) (by first | (simp; done) | (simp; omega)) (.int .i64 dx)).setCell (p := ⟨nb + 1 + 1, 1, none⟩) (by first | (simp; done) | (simp; omega)) (.int .i64 dy)).setCell (p := ⟨nb + 1 + 1, 2, none⟩) (by first | (simp; done) | (simp; omega)) (.int .i64 dk)).setCell (p := ⟨nb, 0, none⟩) (by first | (simp; done) | (simp; omega)) (.int .i64 ((k : Int) + 1))).drew
                have hk6 : Below nb W0 ((((W.setCell ⟨nb + 1 + 1, 0, none⟩ (.int .i64 dx)).setCell ⟨nb + 1 + 1, 1, none⟩ (.int .i64 dy)).setCell ⟨nb + 1 + 1, 2, none⟩ (.int .i64 dk)).setCell ⟨nb, 0, none⟩ (.int .i64 ((k : Int) + 1))).drew := (((((i6).setCell (p := ⟨nb + 1 + 1, 0, none⟩) (by first | (simp; done) | (simp; omega)) (.int .i64 dx)).setCell (p := ⟨nb + 1 + 1, 1, none⟩) (by first | (simp; done) | (simp; omega)) (.int .i64 dy)).setCell (p := ⟨nb + 1 + 1, 2, none⟩) (by first | (simp; done) | (simp; omega)) (.int .i64 dk)).setCell (p := ⟨nb, 0, none⟩) (by first | (simp; done) | (simp; omega)) (.int .i64 ((k : Int) + 1))).drew
                have hkn : ((pre ++ [(kd, (ax, ay, ak), B2, B3, dx, dy, dk)]).length : Int) = (k : Int) + 1 := by rw [List.length_append, List.length_singleton, ← HK.out]; rfl
                have hI6 : Blk ((((W.setCell ⟨nb + 1 + 1, 0, none⟩ (.int .i64 dx)).setCell ⟨nb + 1 + 1, 1, none⟩ (.int .i64 dy)).setCell ⟨nb + 1 + 1, 2, none⟩ (.int .i64 dk)).setCell ⟨nb, 0, none⟩ (.int .i64 ((k : Int) + 1))) (nb + 1) 43 #[.int .i64 (keepF t').1, .int .i64 (keepF t').2.1, .int .i64 (keepF t').2.2] := by rw [zF]; exact hk2
                have hI7 : Blk ((((W.setCell ⟨nb + 1 + 1, 0, none⟩ (.int .i64 dx)).setCell ⟨nb + 1 + 1, 1, none⟩ (.int .i64 dy)).setCell ⟨nb + 1 + 1, 2, none⟩ (.int .i64 dk)).setCell ⟨nb, 0, none⟩ (.int .i64 ((k : Int) + 1))) (nb + 1 + 1) 43 #[.int .i64 (keepL t').1, .int .i64 (keepL t').2.1, .int .i64 (keepL t').2.2] := by rw [zL]; exact hk3
                have hI8 : Blk ((((W.setCell ⟨nb + 1 + 1, 0, none⟩ (.int .i64 dx)).setCell ⟨nb + 1 + 1, 1, none⟩ (.int .i64 dy)).setCell ⟨nb + 1 + 1, 2, none⟩ (.int .i64 dk)).setCell ⟨nb, 0, none⟩ (.int .i64 ((k : Int) + 1))) nb 3 #[.int .i64 (pre ++ [(kd, (ax, ay, ak), B2, B3, dx, dy, dk)]).length] := by rw [hkn]; exact hk4
                exact ⟨hk1, hk5, ⟨t', htt', hpy, blk_drew hI6, blk_drew hI7, blk_drew hI8⟩, hk6⟩
            · have y2 : 0 < k := by rw [HK.out]; exact z0
              have y0 : ((k : Int) == 0) = false := by simp; omega
              have y1 : ¬ k = 0 := by omega
              have pe := neP_run ax ay ak lx ly lk false (by rw [← Bool.not_eq_true, eq3_iff]; exact zA)
              have pg := neP_guard ax ay ak lx ly lk
              obtain ⟨rfl, rfl, rfl⟩ : lx = fx ∧ ly = fy ∧ lk = fk := by simpa using zB
              have pe2 := neP_run lx ly lk lx ly lk true (by simp [eq3])
              have pg2 := neP_guard lx ly lk lx ly lk
              by_cases hst : (k : Int) + 1 = st
              · subst hst
                gi_wp2
                have hk1 : KeepsFrom W0.heap.size W ((((((((W.setCell ⟨nb + 1, 0, none⟩ (.int .i64 ax)).setCell ⟨nb + 1, 1, none⟩ (.int .i64 ay)).setCell ⟨nb + 1, 2, none⟩ (.int .i64 ak)).setCell ⟨nb + 1 + 1, 0, none⟩ (.int .i64 dx)).setCell ⟨nb + 1 + 1, 1, none⟩ (.int .i64 dy)).setCell ⟨nb + 1 + 1, 2, none⟩ (.int .i64 dk)).setCell ⟨nb, 0, none⟩ (.int .i64 ((k : Int) + 1))).setCell ⟨w.heap.size + 1, 0, none⟩ (.bool true)).drew := (((((((((KeepsOthers.setCell W ⟨nb + 1, 0, none⟩ (.int .i64 ax)).trans (KeepsOthers.setCell (W.setCell ⟨nb + 1, 0, none⟩ (.int .i64 ax)) ⟨nb + 1, 1, none⟩ (.int .i64 ay))).trans (KeepsOthers.setCell ((W.setCell ⟨nb + 1, 0, none⟩ (.int .i64 ax)).setCell ⟨nb + 1, 1, none⟩ (.int .i64 ay)) ⟨nb + 1, 2, none⟩ (.int .i64 ak))).trans (KeepsOthers.setCell (((W.setCell ⟨nb + 1, 0, none⟩ (.int .i64 ax)).setCell ⟨nb + 1, 1, none⟩ (.int .i64 ay)).setCell ⟨nb + 1, 2, none⟩ (.int .i64 ak)) ⟨nb + 1 + 1, 0, none⟩ (.int .i64 dx))).trans (KeepsOthers.setCell ((((W.setCell ⟨nb + 1, 0, none⟩ (.int .i64 ax)).setCell ⟨nb + 1, 1, none⟩ (.int .i64 ay)).setCell ⟨nb + 1, 2, none⟩ (.int .i64 ak)).setCell ⟨nb + 1 + 1, 0, none⟩ (.int .i64 dx)) ⟨nb + 1 + 1, 1, none⟩ (.int .i64 dy))).trans (KeepsOthers.setCell (((((W.setCell ⟨nb + 1, 0, none⟩ (.int .i64 ax)).setCell ⟨nb + 1, 1, none⟩ (.int .i64 ay)).setCell ⟨nb + 1, 2, none⟩ (.int .i64 ak)).setCell ⟨nb + 1 + 1, 0, none⟩ (.int .i64 dx)).setCell ⟨nb + 1 + 1, 1, none⟩ (.int .i64 dy)) ⟨nb + 1 + 1, 2, none⟩ (.int .i64 dk))).trans (KeepsOthers.setCell ((((((W.setCell ⟨nb + 1, 0, none⟩ (.int .i64 ax)).setCell ⟨nb + 1, 1, none⟩ (.int .i64 ay)).setCell ⟨nb + 1, 2, none⟩ (.int .i64 ak)).setCell ⟨nb + 1 + 1, 0, none⟩ (.int .i64 dx)).setCell ⟨nb + 1 + 1, 1, none⟩ (.int .i64 dy)).setCell ⟨nb + 1 + 1, 2, none⟩ (.int .i64 dk)) ⟨nb, 0, none⟩ (.int .i64 ((k : Int) + 1)))).trans (KeepsOthers.setCell (((((((W.setCell ⟨nb + 1, 0, none⟩ (.int .i64 ax)).setCell ⟨nb + 1, 1, none⟩ (.int .i64 ay)).setCell ⟨nb + 1, 2, none⟩ (.int .i64 ak)).setCell ⟨nb + 1 + 1, 0, none⟩ (.int .i64 dx)).setCell ⟨nb + 1 + 1, 1, none⟩ (.int .i64 dy)).setCell ⟨nb + 1 + 1, 2, none⟩ (.int .i64 dk)).setCell ⟨nb, 0, none⟩ (.int .i64 ((k : Int) + 1))) ⟨w.heap.size + 1, 0, none⟩ (.bool true))).trans (KeepsOthers.drew ((((((((W.setCell ⟨nb + 1, 0, none⟩ (.int .i64 ax)).setCell ⟨nb + 1, 1, none⟩ (.int .i64 ay)).setCell ⟨nb + 1, 2, none⟩ (.int .i64 ak)).setCell ⟨nb + 1 + 1, 0, none⟩ (.int .i64 dx)).setCell ⟨nb + 1 + 1, 1, none⟩ (.int .i64 dy)).setCell ⟨nb + 1 + 1, 2, none⟩ (.int .i64 dk)).setCell ⟨nb, 0, none⟩ (.int .i64 ((k : Int) + 1))).setCell ⟨w.heap.size + 1, 0, none⟩ (.bool true)))).from _
                have hk2 : Blk ((((((((W.setCell ⟨nb + 1, 0, none⟩ (.int .i64 ax)).setCell ⟨nb + 1, 1, none⟩ (.int .i64 ay)).setCell ⟨nb + 1, 2, none⟩ (.int .i64 ak)).setCell ⟨nb + 1 + 1, 0, none⟩ (.int .i64 dx)).setCell ⟨nb + 1 + 1, 1, none⟩ (.int .i64 dy)).setCell ⟨nb + 1 + 1, 2, none⟩ (.int .i64 dk)).setCell ⟨nb, 0, none⟩ (.int .i64 ((k : Int) + 1))).setCell ⟨w.heap.size + 1, 0, none⟩ (.bool true)) (w.heap.size + 1) 4 #[.bool true] := ((((((((br).other (q := ⟨nb + 1, 0, none⟩) (by first | (simp; done) | (simp; omega)) (.int .i64 ax)).other (q := ⟨nb + 1, 1, none⟩) (by first | (simp; done) | (simp; omega)) (.int .i64 ay)).other (q := ⟨nb + 1, 2, none⟩) (by first | (simp; done) | (simp; omega)) (.int .i64 ak)).other (q := ⟨nb + 1 + 1, 0, none⟩) (by first | (simp; done) | (simp; omega)) (.int .i64 dx)).other (q := ⟨nb + 1 + 1, 1, none⟩) (by first | (simp; done) | (simp; omega)) (.int .i64 dy)).other (q := ⟨nb + 1 + 1, 2, none⟩) (by first | (simp; done) | (simp; omega)) (.int .i64 dk)).other (q := ⟨nb, 0, none⟩) (by first | (simp; done) | (simp; omega)) (.int .i64 ((k : Int) + 1))).set 0 (.bool true)
                have hk3 : Below w.heap.size w ((((((((W.setCell ⟨nb + 1, 0, none⟩ (.int .i64 ax)).setCell ⟨nb + 1, 1, none⟩ (.int .i64 ay)).setCell ⟨nb + 1, 2, none⟩ (.int .i64 ak)).setCell ⟨nb + 1 + 1, 0, none⟩ (.int .i64 dx)).setCell ⟨nb + 1 + 1, 1, none⟩ (.int .i64 dy)).setCell ⟨nb + 1 + 1, 2, none⟩ (.int .i64 dk)).setCell ⟨nb, 0, none⟩ (.int .i64 ((k : Int) + 1))).setCell ⟨w.heap.size + 1, 0, none⟩ (.bool true)).drew := (((((((((BW).setCell (p := ⟨nb + 1, 0, none⟩) (by first | (simp; done) | (simp; omega)) (.int .i64 ax)).setCell (p := ⟨nb + 1, 1, none⟩) (by first | (simp; done) | (simp; omega)) (.int .i64 ay)).setCell (p := ⟨nb + 1, 2, none⟩) (by first | (simp; done) | (simp; omega)) (.int .i64 ak)).setCell (p := ⟨nb + 1 + 1, 0, none⟩) (by first | (simp; done) | (simp; omega)) (.int .i64 dx)).setCell (p := ⟨nb + 1 + 1, 1, none⟩) (by first | (simp; done) | (simp; omega)) (.int .i64 dy)).setCell (p := ⟨nb + 1 + 1, 2, none⟩) (by first | (simp; done) | (simp; omega)) (.int .i64 dk)).setCell (p := ⟨nb, 0, none⟩) (by first | (simp; done) | (simp; omega)) (.int .i64 ((k : Int) + 1))).setCell (p := ⟨w.heap.size + 1, 0, none⟩) (by first | (simp; done) | (simp; omega)) (.bool true)).drew
                exact ⟨hk1, ⟨rfl, fun _ => blk_drew hk2⟩, hk3⟩
              · have ds : ((k : Int) + 1 == st) = false := by simpa using hst
                gi_wp2
                have hk1 : KeepsFrom W0.heap.size W (((((((W.setCell ⟨nb + 1, 0, none⟩ (.int .i64 ax)).setCell ⟨nb + 1, 1, none⟩ (.int .i64 ay)).setCell ⟨nb + 1, 2, none⟩ (.int .i64 ak)).setCell ⟨nb + 1 + 1, 0, none⟩ (.int .i64 dx)).setCell ⟨nb + 1 + 1, 1, none⟩ (.int .i64 dy)).setCell ⟨nb + 1 + 1, 2, none⟩ (.int .i64 dk)).setCell ⟨nb, 0, none⟩ (.int .i64 ((k : Int) + 1))).drew := ((((((((KeepsOthers.setCell W ⟨nb + 1, 0, none⟩ (.int .i64 ax)).trans (KeepsOthers.setCell (W.setCell ⟨nb + 1, 0, none⟩ (.int .i64 ax)) ⟨nb + 1, 1, none⟩ (.int .i64 ay))).trans (KeepsOthers.setCell ((W.setCell ⟨nb + 1, 0, none⟩ (.int .i64 ax)).setCell ⟨nb + 1, 1, none⟩ (.int .i64 ay)) ⟨nb + 1, 2, none⟩ (.int .i64 ak))).trans (KeepsOthers.setCell (((W.setCell ⟨nb + 1, 0, none⟩ (.int .i64 ax)).setCell ⟨nb + 1, 1, none⟩ (.int .i64 ay)).setCell ⟨nb + 1, 2, none⟩ (.int .i64 ak)) ⟨nb + 1 + 1, 0, none⟩ (.int .i64 dx))).trans (KeepsOthers.setCell ((((W.setCell ⟨nb + 1, 0, none⟩ (.int .i64 ax)).setCell ⟨nb + 1, 1, none⟩ (.int .i64 ay)).setCell ⟨nb + 1, 2, none⟩ (.int .i64 ak)).setCell ⟨nb + 1 + 1, 0, none⟩ (.int .i64 dx)) ⟨nb + 1 + 1, 1, none⟩ (.int .i64 dy))).trans (KeepsOthers.setCell (((((W.setCell ⟨nb + 1, 0, none⟩ (.int .i64 ax)).setCell ⟨nb + 1, 1, none⟩ (.int .i64 ay)).setCell ⟨nb + 1, 2, none⟩ (.int .i64 ak)).setCell ⟨nb + 1 + 1, 0, none⟩ (.int .i64 dx)).setCell ⟨nb + 1 + 1, 1, none⟩ (.int .i64 dy)) ⟨nb + 1 + 1, 2, none⟩ (.int .i64 dk))).trans (KeepsOthers.setCell ((((((W.setCell ⟨nb + 1, 0, none⟩ (.int .i64 ax)).setCell ⟨nb + 1, 1, none⟩ (.int .i64 ay)).setCell ⟨nb + 1, 2, none⟩ (.int .i64 ak)).setCell ⟨nb + 1 + 1, 0, none⟩ (.int .i64 dx)).setCell ⟨nb + 1 + 1, 1, none⟩ (.int .i64 dy)).setCell ⟨nb + 1 + 1, 2, none⟩ (.int .i64 dk)) ⟨nb, 0, none⟩ (.int .i64 ((k : Int) + 1)))).trans (KeepsOthers.drew (((((((W.setCell ⟨nb + 1, 0, none⟩ (.int .i64 ax)).setCell ⟨nb + 1, 1, none⟩ (.int .i64 ay)).setCell ⟨nb + 1, 2, none⟩ (.int .i64 ak)).setCell ⟨nb + 1 + 1, 0, none⟩ (.int .i64 dx)).setCell ⟨nb + 1 + 1, 1, none⟩ (.int .i64 dy)).setCell ⟨nb + 1 + 1, 2, none⟩ (.int .i64 dk)).setCell ⟨nb, 0, none⟩ (.int .i64 ((k : Int) + 1))))).from _
                have hk2 : Blk (((((((W.setCell ⟨nb + 1, 0, none⟩ (.int .i64 ax)).setCell ⟨nb + 1, 1, none⟩ (.int .i64 ay)).setCell ⟨nb + 1, 2, none⟩ (.int .i64 ak)).setCell ⟨nb + 1 + 1, 0, none⟩ (.int .i64 dx)).setCell ⟨nb + 1 + 1, 1, none⟩ (.int .i64 dy)).setCell ⟨nb + 1 + 1, 2, none⟩ (.int .i64 dk)).setCell ⟨nb, 0, none⟩ (.int .i64 ((k : Int) + 1))) (nb + 1) 43 #[.int .i64 ax, .int .i64 ay, .int .i64 ak] := (((((((i3).set 0 (.int .i64 ax)).set 1 (.int .i64 ay)).set 2 (.int .i64 ak)).other (q := ⟨nb + 1 + 1, 0, none⟩) (by first | (simp; done) | (simp; omega)) (.int .i64 dx)).other (q := ⟨nb + 1 + 1, 1, none⟩) (by first | (simp; done) | (simp; omega)) (.int .i64 dy)).other (q := ⟨nb + 1 + 1, 2, none⟩) (by first | (simp; done) | (simp; omega)) (.int .i64 dk)).other (q := ⟨nb, 0, none⟩) (by first | (simp; done) | (simp; omega)) (.int .i64 ((k : Int) + 1))
                have hk3 : Blk (((((((W.setCell ⟨nb + 1, 0, none⟩ (.int .i64 ax)).setCell ⟨nb + 1, 1, none⟩ (.int .i64 ay)).setCell ⟨nb + 1, 2, none⟩ (.int .i64 ak)).setCell ⟨nb + 1 + 1, 0, none⟩ (.int .i64 dx)).setCell ⟨nb + 1 + 1, 1, none⟩ (.int .i64 dy)).setCell ⟨nb + 1 + 1, 2, none⟩ (.int .i64 dk)).setCell ⟨nb, 0, none⟩ (.int .i64 ((k : Int) + 1))) (nb + 1 + 1) 43 #[.int .i64 dx, .int .i64 dy, .int .i64 dk] := (((((((i4).other (q := ⟨nb + 1, 0, none⟩) (by first | (simp; done) | (simp; omega)) (.int .i64 ax)).other (q := ⟨nb + 1, 1, none⟩) (by first | (simp; done) | (simp; omega)) (.int .i64 ay)).other (q := ⟨nb + 1, 2, none⟩) (by first | (simp; done) | (simp; omega)) (.int .i64 ak)).set 0 (.int .i64 dx)).set 1 (.int .i64 dy)).set 2 (.int .i64 dk)).other (q := ⟨nb, 0, none⟩) (by first | (simp; done) | (simp; omega)) (.int .i64 ((k : Int) + 1))
                have hk4 : Blk (((((((W.setCell ⟨nb + 1, 0, none⟩ (.int .i64 ax)).setCell ⟨nb + 1, 1, none⟩ (.int .i64 ay)).setCell ⟨nb + 1, 2, none⟩ (.int .i64 ak)).setCell ⟨nb + 1 + 1, 0, none⟩ (.int .i64 dx)).setCell ⟨nb + 1 + 1, 1, none⟩ (.int .i64 dy)).setCell ⟨nb + 1 + 1, 2, none⟩ (.int .i64 dk)).setCell ⟨nb, 0, none⟩ (.int .i64 ((k : Int) + 1))) nb 3 #[.int .i64 ((k : Int) + 1)] := (((((((i5).other (q := ⟨nb + 1, 0, none⟩) (by first | (simp; done) | (simp; omega)) (.int .i64 ax)).other (q := ⟨nb + 1, 1, none⟩) (by first | (simp; done) | (simp; omega)) (.int .i64 ay)).other (q := ⟨nb + 1, 2, none⟩) (by first | (simp; done) | (simp; omega)) (.int .i64 ak)).other (q := ⟨nb + 1 + 1, 0, none⟩) (by first | (simp; done) | (simp; omega)) (.int .i64 dx)).other (q := ⟨nb + 1 + 1, 1, none⟩) (by first | (simp; done) | (simp; omega)) (.int .i64 dy)).other (q := ⟨nb + 1 + 1, 2, none⟩) (by first | (simp; done) | (simp; omega)) (.int .i64 dk)).set 0 (.int .i64 ((k : Int) + 1))
                have hk5 : Below z W (((((((W.setCell ⟨nb + 1, 0, none⟩ (.int .i64 ax)).setCell ⟨nb + 1, 1, none⟩ (.int .i64 ay)).setCell ⟨nb + 1, 2, none⟩ (.int .i64 ak)).setCell ⟨nb + 1 + 1, 0, none⟩ (.int .i64 dx)).setCell ⟨nb + 1 + 1, 1, none⟩ (.int .i64 dy)).setCell ⟨nb + 1 + 1, 2, none⟩ (.int .i64 dk)).setCell ⟨nb, 0, none⟩ (.int .i64 ((k : Int) + 1))).drew := ((((((((Below.refl _ _).setCell (p := ⟨nb + 1, 0, none⟩) (by first | (simp; done) | (simp; omega)) (.int .i64 ax)).setCell (p := ⟨nb + 1, 1, none⟩) (by first | (simp; done) | (simp; omega)) (.int .i64 ay)).setCell (p := ⟨nb + 1, 2, none⟩) (by first | (simp; done) | (simp; omega)) (.int .i64 ak)).setCell (p := ⟨nb + 1 + 1, 0, none⟩) (by first | (simp; done) | (simp; omega)) (.int .i64 dx)).setCell (p := ⟨nb + 1 + 1, 1, none⟩) (by first | (simp; done) | (simp; omega)) (.int .i64 dy)).setCell (p := ⟨nb + 1 + 1, 2, none⟩) (by first | (simp; done) | (simp; omega)) (.int .i64 dk)).setCell (p := ⟨nb, 0, none⟩) (by first | (simp; done) | (simp; omega)) (.int .i64 ((k : Int) + 1))).drew
                have hk6 : Below nb W0 (((((((W.setCell ⟨nb + 1, 0, none⟩ (.int .i64 ax)).setCell ⟨nb + 1, 1, none⟩ (.int .i64 ay)).setCell ⟨nb + 1, 2, none⟩ (.int .i64 ak)).setCell ⟨nb + 1 + 1, 0, none⟩ (.int .i64 dx)).setCell ⟨nb + 1 + 1, 1, none⟩ (.int .i64 dy)).setCell ⟨nb + 1 + 1, 2, none⟩ (.int .i64 dk)).setCell ⟨nb, 0, none⟩ (.int .i64 ((k : Int) + 1))).drew := ((((((((i6).setCell (p := ⟨nb + 1, 0, none⟩) (by first | (simp; done) | (simp; omega)) (.int .i64 ax)).setCell (p := ⟨nb + 1, 1, none⟩) (by first | (simp; done) | (simp; omega)) (.int .i64 ay)).setCell (p := ⟨nb + 1, 2, none⟩) (by first | (simp; done) | (simp; omega)) (.int .i64 ak)).setCell (p := ⟨nb + 1 + 1, 0, none⟩) (by first | (simp; done) | (simp; omega)) (.int .i64 dx)).setCell (p := ⟨nb + 1 + 1, 1, none⟩) (by first | (simp; done) | (simp; omega)) (.int .i64 dy)).setCell (p := ⟨nb + 1 + 1, 2, none⟩) (by first | (simp; done) | (simp; omega)) (.int .i64 dk)).setCell (p := ⟨nb, 0, none⟩) (by first | (simp; done) | (simp; omega)) (.int .i64 ((k : Int) + 1))).drew
                have hkn : ((pre ++ [(kd, (ax, ay, ak), B2, B3, dx, dy, dk)]).length : Int) = (k : Int) + 1 := by rw [List.length_append, List.length_singleton, ← HK.out]; rfl
                have hI6 : Blk (((((((W.setCell ⟨nb + 1, 0, none⟩ (.int .i64 ax)).setCell ⟨nb + 1, 1, none⟩ (.int .i64 ay)).setCell ⟨nb + 1, 2, none⟩ (.int .i64 ak)).setCell ⟨nb + 1 + 1, 0, none⟩ (.int .i64 dx)).setCell ⟨nb + 1 + 1, 1, none⟩ (.int .i64 dy)).setCell ⟨nb + 1 + 1, 2, none⟩ (.int .i64 dk)).setCell ⟨nb, 0, none⟩ (.int .i64 ((k : Int) + 1))) (nb + 1) 43 #[.int .i64 (keepF t').1, .int .i64 (keepF t').2.1, .int .i64 (keepF t').2.2] := by rw [zF]; exact hk2
                have hI7 : Blk (((((((W.setCell ⟨nb + 1, 0, none⟩ (.int .i64 ax)).setCell ⟨nb + 1, 1, none⟩ (.int .i64 ay)).setCell ⟨nb + 1, 2, none⟩ (.int .i64 ak)).setCell ⟨nb + 1 + 1, 0, none⟩ (.int .i64 dx)).setCell ⟨nb + 1 + 1, 1, none⟩ (.int .i64 dy)).setCell ⟨nb + 1 + 1, 2, none⟩ (.int .i64 dk)).setCell ⟨nb, 0, none⟩ (.int .i64 ((k : Int) + 1))) (nb + 1 + 1) 43 #[.int .i64 (keepL t').1, .int .i64 (keepL t').2.1, .int .i64 (keepL t').2.2] := by rw [zL]; exact hk3
                have hI8 : Blk (((((((W.setCell ⟨nb + 1, 0, none⟩ (.int .i64 ax)).setCell ⟨nb + 1, 1, none⟩ (.int .i64 ay)).setCell ⟨nb + 1, 2, none⟩ (.int .i64 ak)).setCell ⟨nb + 1 + 1, 0, none⟩ (.int .i64 dx)).setCell ⟨nb + 1 + 1, 1, none⟩ (.int .i64 dy)).setCell ⟨nb + 1 + 1, 2, none⟩ (.int .i64 dk)).setCell ⟨nb, 0, none⟩ (.int .i64 ((k : Int) + 1))) nb 3 #[.int .i64 (pre ++ [(kd, (ax, ay, ak), B2, B3, dx, dy, dk)]).length] := by rw [hkn]; exact hk4
                exact ⟨hk1, hk5, ⟨t', htt', hpy, blk_drew hI6, blk_drew hI7, blk_drew hI8⟩, hk6⟩
          · have hne : ∀ w, (binOp .neq 45 (.agg cy) (.agg cx)).run Try.prog w = .ok (.bool true) w := by
              subst hcy hcx
              exact neCv_run y x true (by simpa using hxy)
            have hng : ∀ w, (eqGuard .neq 45 (.tmp 40) (.tmp 41) (.agg cy) (.agg cx)).run Try.prog w = .ok () w := fun w => run_eqGuard_agg w .neq 45 _ _ cy cx (by kernel_rfl)
            clear hcy hcx
            gi_wp2
            refine wpIn_region_chain (fun W' => W'.cell? ⟨nb, 0, none⟩ = some (.int .i64 k) ∧ W'.cell? ⟨wb, 0, none⟩ = some (.slice (some ⟨b, o, none⟩) q c7) ∧ (Instr.loadAt 45 (.pointer (some ⟨b, o + k * 13, none⟩))).run Try.prog W' = .ok (.agg cy) W' ∧ (Instr.loadAt 45 (.pointer (some ⟨Bx, 0, none⟩))).run Try.prog W' = .ok (.agg cx) W') [(0, false), (1, false), (2, false), (3, false), (4, false), (5, false), (6, false), (7, false), (8, false), (9, false), (10, false), (11, false)] (by kernel_rfl) (by kernel_rfl) (by kernel_rfl) ?_ (⟨c5, cw, q1, q2⟩) ?_
            (focus (rintro ⟨_, _, h⟩; exact h))
            repeat (first
              | (refine ChainL.skip (o := ?_) ?_ ?_ ?_; rotate_left; (focus (first | (simp only [List.getElem?_toArray, List.getElem?_cons_succ, List.getElem?_cons_zero]; with_reducible rfl) | (simp only [List.getElem?_toArray, List.getElem?_cons_zero]; with_reducible rfl))); (focus rfl); simp only [Act.put, List.setIfInBounds_toArray, List.set_cons_zero, List.set_cons_succ])
              | (refine ChainL.val (o := ?_) (v := ?_) ?_ ?_ ?_ ?_ ?_; rotate_left 2; (focus (first | (simp only [List.getElem?_toArray, List.getElem?_cons_succ, List.getElem?_cons_zero]; with_reducible rfl) | (simp only [List.getElem?_toArray, List.getElem?_cons_zero]; with_reducible rfl))); (focus (intro _ _ h; cases h)); (focus rfl); (focus (intro w' hI; obtain ⟨hA, hB, hC, hD⟩ := hI; first | (have H := fun ρ o x => @exec_load _ ρ o _ _ x _ _ hC; refine H _ _ ?_ ?_ ?_; rotate_left; (focus rfl); (focus rfl)) | (have H := fun ρ o x => @exec_load _ ρ o _ _ x _ _ hD; refine H _ _ ?_ ?_ ?_; rotate_left; (focus rfl); (focus rfl)) | (go_simp <;> with_reducible rfl))); simp only [Act.put, List.setIfInBounds_toArray, List.set_cons_zero, List.set_cons_succ]))
            refine ChainL.nil ?_
            gi_wp2
            exact ⟨((KeepsOthers.setCell _ _ _).trans (KeepsOthers.drew _)).from _, ⟨rfl, fun hp => absurd (prefix_same hy hp).symm hxy⟩, (BW.setCell (p := ⟨w.heap.size + 1, 0, none⟩) (by simp) _).drew⟩
        · have d2 : decide ((allC Ls).length ≤ pre.length) = true := by simp; omega
          gi_wp2
          refine wpIn_region_chain (fun W' => W'.cell? ⟨nb, 0, none⟩ = some (.int .i64 pre.length) ∧ W'.cell? ⟨wb, 0, none⟩ = some (.slice A7 (allC Ls).length c7)) [(0, false), (1, false), (2, false), (3, false), (4, false), (5, false), (6, false), (7, false), (8, false), (9, false), (10, false), (11, false)] (by kernel_rfl) (by kernel_rfl) (by kernel_rfl) ?_ (⟨c5, cw⟩) ?_
          (focus (rintro ⟨_, _, h⟩; exact h))
          repeat (first
            | (refine ChainL.skip (o := ?_) ?_ ?_ ?_; rotate_left; (focus (first | (simp only [List.getElem?_toArray, List.getElem?_cons_succ, List.getElem?_cons_zero]; with_reducible rfl) | (simp only [List.getElem?_toArray, List.getElem?_cons_zero]; with_reducible rfl))); (focus rfl); simp only [Act.put, List.setIfInBounds_toArray, List.set_cons_zero, List.set_cons_succ])
            | (refine ChainL.val (o := ?_) (v := ?_) ?_ ?_ ?_ ?_ ?_; rotate_left 2; (focus (first | (simp only [List.getElem?_toArray, List.getElem?_cons_succ, List.getElem?_cons_zero]; with_reducible rfl) | (simp only [List.getElem?_toArray, List.getElem?_cons_zero]; with_reducible rfl))); (focus (intro _ _ h; cases h)); (focus rfl); (focus (intro w' hI; obtain ⟨hA, hB⟩ := hI; go_simp <;> with_reducible rfl)); simp only [Act.put, List.setIfInBounds_toArray, List.set_cons_zero, List.set_cons_succ]))
          refine ChainL.nil ?_
          gi_wp2
          exact ⟨((KeepsOthers.setCell _ _ _).trans (KeepsOthers.drew _)).from _, ⟨rfl, fun hp => absurd hp.length_le (by simp; omega)⟩, (BW.setCell (p := ⟨w.heap.size + 1, 0, none⟩) (by simp) _).drew⟩
      case done =>
        rintro D xs W hD hxs ⟨⟨s, i1, i2, i3, i4, i5⟩, i6⟩ hK
        rw [HEA] at hxs
        subst hxs
        obtain rfl : s = tt := by rw [htt] at i1; exact (Option.some.inj i1).symm
        have hk := closed_keep hcl
        rw [hk] at i4
        rcases keepF s with ⟨fx, fy, fk⟩
        have c5 := i5.cell 0
        have cw := (i6.cell (p := ⟨wb, 0, none⟩) (by omega)).trans (kw.cell 0)
        have f0 := i3.cell 0
        have f1 := i3.cell 1
        have f2 := i3.cell 2
        have g0 := i4.cell 0
        have g1 := i4.cell 1
        have g2 := i4.cell 2
        have br : Blk W (w.heap.size + 1) 4 #[.bool false] := (i6.block _ (by omega)).trans bR
        have cr := br.cell 0
        have fr := br.frozen 0
        simp only [List.getElem?_toArray, List.getElem?_cons_zero, List.getElem?_cons_succ] at c5 cw f0 f1 f2 g0 g1 g2 cr
        have pe := eqP_run fx fy fk fx fy fk true (by simp [eq3])
        have pg := eqP_guard fx fy fk fx fy fk
        have BW : Below w.heap.size w W := X0.trans (i6.mono (by omega))
        have BX := (BW.setCell (p := ⟨w.heap.size + 1, 0, none⟩) (by simp) (.bool true))
        have hK' := (KeepsOthers.setCell W ⟨w.heap.size + 1, 0, none⟩ (.bool true)).same D _ hK rfl
        have br2 := br.set 0 (.bool true)
        have hc5 := cell_kept (br2.cell 0) (grownBy_putObj' _ D (.deferred none)) (fun r e => by cases e; exact ⟨_, hK', rfl⟩)
        have hBF := BX.trans (belowK_b (w := w) (Nat.le_refl _) _ D _ (.deferred none) (by omega) hK' rfl rfl)
        clear BX br2 br i3 i4 i5 i6 hE HEA htt hcl
        by_cases hq0 : (allC Ls).length = 0
        · rw [hq0] at c5 cw
          go_wp2
          refine ⟨by simp, .inl ⟨_, _, rfl, run_takeDeferred hK', ?_⟩⟩
          refine ⟨.bool true, ?_, rfl, hBF⟩
          simp [results, Try.f5, go_sem, hc5]
        · have y2 : 0 < (allC Ls).length := by omega
          generalize (allC Ls).length = q at *
          go_wp2
          refine ⟨by simp, .inl ⟨_, _, rfl, run_takeDeferred hK', ?_⟩⟩
          refine ⟨.bool true, ?_, rfl, hBF⟩
          simp [results, Try.f5, go_sem, hc5]
      case stop =>
        rintro D cc pre W hD hpre ⟨⟨rfl, hin⟩, hB⟩ hK
        rw [HEA] at hpre
        have br := hin hpre
        have hc5 := cell_kept (br.cell 0) (grownBy_putObj' _ D (.deferred none)) (fun r e => by cases e; exact ⟨_, hK, rfl⟩)
        have hBF := hB.trans (belowK_b (w := w) (Nat.le_refl _) W D _ (.deferred none) (by omega) hK rfl rfl)
        gi_wp2
        refine ⟨by simp, .inl ⟨_, _, rfl, run_takeDeferred hK, ?_⟩⟩
        refine ⟨.bool true, ?_, rfl, hBF⟩
        simp [results, Try.f5, go_sem, hc5]
    · have HC := Lib.hid hc
      have d1 : (chkE Ls == 0) = false := by simpa using hc
      generalize chkE Ls = kk at CK d1
      clear hc hs CR
      refine (callsIn_wide (n := 3)).1 ?_
      refine callsIn_of_wp_marks Try.func5 rfl trivial ?_
      simp only [Try.ntmps5, List.size_toArray, List.length_cons, List.length_nil, Nat.reduceAdd, Nat.reduceSub, Array.replicate_succ, Array.replicate_zero, List.push_toArray, List.append_toArray, List.nil_append, List.cons_append]
      refine wpIn_wide.2 ?_
      go_wp2_with (first | (go_at_call 7; ((with_reducible refine (CL _ B0).mono ?_); rintro e w1 ⟨rfl, b1⟩; have B1 := B0.trans (b1.mono B0.size))) | (go_at_call 11; ((with_reducible refine (CC _ B1).mono ?_); rintro e w2 ⟨A2, c2, rfl, o2, b2⟩; have B2 := B1.trans (b2.mono B1.size); have D2 := b1.trans (b2.mono b1.size))) | (go_at_call 19; ((with_reducible refine (CX _ _ _ o2).mono ?_); rintro e w3 ⟨k3, A3, c3, rfl, h3, k3l, o3, b3⟩; have B3 := B2.trans (b3.mono B2.size); have D3 := D2.trans (b3.mono D2.size))) | (go_at_call 8; ((with_reducible refine (lives10 _).mono ?_); rintro e w4 ⟨rfl, b4⟩; have B4 := B3.trans (b4.mono B3.size); have D4 := D3.trans (b4.mono D3.size); have B5 := B4.alloc B4.size (.cells #[.slice none 0 0] 40); have D5 := D4.alloc D4.size (.cells #[.slice none 0 0] 40); have Z5 := b4.alloc b4.size (.cells #[.slice none 0 0] 40))) | (go_at_call 9; ((with_reducible refine (CK _ B5).mono ?_); rintro e w6 ⟨rfl, b6⟩; have B6 := B5.trans (b6.mono B5.size); have D6 := D5.trans (b6.mono D5.size); have Z6 := Z5.trans (b6.mono Z5.size))))
      have hs4 := b4.size
      have hs6 := b6.size
      have hs1 := D4.size

      simp only [World.size_alloc] at hs1 hs6
      have n4 : w4.heap.size < w6.heap.size := by omega
      have l8 : Lists w6 w6.heap.size none (cvCells (allC Ls)) := by rw [allC, if_neg HC.out]; exact Lists.empty _ _ _
      have X0 := B6
      have Xz := Z6
      have bR := (Blk.new (w.alloc (.cells #[.int .i64 st] 3)) 4 #[.bool false]).below D6
      have bS := ((Blk.new w 3 #[.int .i64 st]).al (.cells #[.bool false] 4)).below D6
      have kw : Blk w6 w4.heap.size 40 #[.slice none (allC Ls).length 0] := by rw [allC, if_neg HC.out]; exact (Blk.new w4 40 #[.slice none 0 0]).below b6
      simp only [World.size_alloc] at bR
      have hXs : w6.heap.size = w6.heap.size := rfl
      have bS := (bS.al (.cells #[.int .i64 0] 3)).al (.cells #[.int .i64 0, .int .i64 0, .int .i64 0] 43) |>.al (.cells #[.int .i64 0, .int .i64 0, .int .i64 0] 43)
      have bR := (bR.al (.cells #[.int .i64 0] 3)).al (.cells #[.int .i64 0, .int .i64 0, .int .i64 0] 43) |>.al (.cells #[.int .i64 0, .int .i64 0, .int .i64 0] 43)
      have kw := (kw.al (.cells #[.int .i64 0] 3)).al (.cells #[.int .i64 0, .int .i64 0, .int .i64 0] 43) |>.al (.cells #[.int .i64 0, .int .i64 0, .int .i64 0] 43)
      have bN := ((Blk.new w6 3 #[.int .i64 0]).al (.cells #[.int .i64 0, .int .i64 0, .int .i64 0] 43)).al (.cells #[.int .i64 0, .int .i64 0, .int .i64 0] 43)
      have bF := (Blk.new (w6.alloc (.cells #[.int .i64 0] 3)) 43 #[.int .i64 0, .int .i64 0, .int .i64 0]).al (.cells #[.int .i64 0, .int .i64 0, .int .i64 0] 43)
      have bL := Blk.new ((w6.alloc (.cells #[.int .i64 0] 3)).alloc (.cells #[.int .i64 0, .int .i64 0, .int .i64 0] 43)) 43 #[.int .i64 0, .int .i64 0, .int .i64 0]
      have l8 := ((l8.alloc (by omega) (.cells #[.int .i64 0] 3)).alloc (by first | (simp; done) | (simp; omega)) (.cells #[.int .i64 0, .int .i64 0, .int .i64 0] 43)).alloc (by first | (simp; done) | (simp; omega)) (.cells #[.int .i64 0, .int .i64 0, .int .i64 0] 43)
      have X0 := ((X0.alloc (by have := B4.size; omega) (.cells #[.int .i64 0] 3)).alloc (by have := B4.size; simp; omega) (.cells #[.int .i64 0, .int .i64 0, .int .i64 0] 43)).alloc (by have := B4.size; simp; omega) (.cells #[.int .i64 0, .int .i64 0, .int .i64 0] 43)
      have Xz := ((Xz.alloc (by omega) (.cells #[.int .i64 0] 3)).alloc (by first | (simp; done) | (simp; omega)) (.cells #[.int .i64 0, .int .i64 0, .int .i64 0] 43)).alloc (by first | (simp; done) | (simp; omega)) (.cells #[.int .i64 0, .int .i64 0, .int .i64 0] 43)
      have hz := Xz.size
      have hW0 : (((w6.alloc (.cells #[.int .i64 0] 3)).alloc (.cells #[.int .i64 0, .int .i64 0, .int .i64 0] 43)).alloc (.cells #[.int .i64 0, .int .i64 0, .int .i64 0] 43)).heap.size = w6.heap.size + 1 + 1 + 1 := by simp [World.size_alloc]
      simp only [World.size_alloc] at bN bF bL
      obtain ⟨W0, hWW⟩ : ∃ W0, W0 = (((w6.alloc (.cells #[.int .i64 0] 3)).alloc (.cells #[.int .i64 0, .int .i64 0, .int .i64 0] 43)).alloc (.cells #[.int .i64 0, .int .i64 0, .int .i64 0] 43)) := ⟨_, rfl⟩
      rw [← hWW] at bS bR kw bN bF bL l8 X0 Xz hz hW0 ⊢
      have o3 := o3.below Xz
      have h3 := (Xz.cell (p := ⟨k3, 0, none⟩) k3l).trans h3
      have k3l : k3 < W0.heap.size := by omega
      obtain ⟨nb, hnb⟩ : ∃ nb, nb = w6.heap.size := ⟨_, rfl⟩
      obtain ⟨wb, hwb⟩ : ∃ wb, wb = w4.heap.size := ⟨_, rfl⟩
      rw [← hnb] at bN bF bL l8 hW0 n4 ⊢
      rw [← hwb] at kw hs4 n4 hs1 ⊢
      obtain ⟨z, hzz⟩ : ∃ z, z = w3.heap.size := ⟨_, rfl⟩
      rw [← hzz] at hz hs4 o3
      clear hnb hwb hzz hWW Xz hXs hs6 B1 B2 B3 B4 B5 B6 D2 D3 D4 D5 D6 Z5 Z6 b1 b2 b3 b4 b6 B00 B0 CL CK CC CX  hnil 
      have hE := es_short Ls
      have HEA := es_all Ls
      obtain ⟨tt, htt, hcl⟩ := all_goes Ls
      have hAs := all_short Ls
      refine (wpIn_wide (n := 3)).1 ?_
      refine wpIn_rangeFunc_ownH (F := Fence.wide) (n := 3) rfl (by omega) (gf := 35) (lb := #[.pointer (some ⟨k3, 0, none⟩)]) rfl trivial (enters_of Try.func35 (by kernel_rfl) rfl)
        (curves_stops k3 z A3 c3 2000000 (esC Ls) W0 h3 k3l o3 hz hE.1 hE.2.1 hE.2.2) belowK_t (belowK_b hz) (Below.refl _ _) (fun _ => rfl)
        (fun pre W => (∃ s, goCvs none pre = some s ∧ pre <+: allC Ls ∧ Blk W (nb + 1) 43 #[.int .i64 (keepF s).1, .int .i64 (keepF s).2.1, .int .i64 (keepF s).2.2] ∧ Blk W (nb + 1 + 1) 43 #[.int .i64 (keepL s).1, .int .i64 (keepL s).2.1, .int .i64 (keepL s).2.2] ∧ Blk W nb 3 #[.int .i64 pre.length]) ∧ Below nb W0 W)
        (fun c pre W => (c = .ret ∧ (pre <+: allC Ls → Blk W (w.heap.size + 1) 4 #[.bool true])) ∧ Below w.heap.size w W)
        (OwnFrom.and (fun pre X Y row hs hg hr => by
          obtain ⟨s, h1, h2, h3, h4, h5⟩ := hs
          exact ⟨s, h1, h2, blk_grown h3 (by omega) hg hr, blk_grown h4 (by omega) hg hr, blk_grown h5 (by omega) hg hr⟩) (ownFrom_below (by omega) (by omega)))
        (fun c => OwnFrom.and (fun pre X Y row hs hg hr => ⟨hs.1, fun hp => blk_grown (hs.2 hp) (by omega) hg hr⟩) (ownFrom_below (Nat.le_refl _) (by omega)))
        ⟨⟨none, rfl, List.nil_prefix, bF, bL, bN⟩, Below.refl _ _⟩
        (fun x a' W => ∃ Bx, nb + 1 + 1 < Bx ∧ Blk W Bx 45 (cvL x).toArray ∧ a' = { tmps := #[.slice A Ls.length c, .int .i64 st, undef, .pointer (some ⟨w.heap.size, 0, none⟩), .pointer (some ⟨w.heap.size + 1, 0, none⟩), .func (.func 35) #[] #[.pointer (some ⟨k3, 0, none⟩)], .pointer (some ⟨wb, 0, none⟩), .pointer (some ⟨nb, 0, none⟩), .pointer (some ⟨nb + 1, 0, none⟩), .pointer (some ⟨nb + 1 + 1, 0, none⟩), .pointer (some ⟨Bx, 0, none⟩), .slice A Ls.length c, .bool false, undef, .slice A Ls.length c, .slice A2 Ls.length c2, .func (.func 35) #[] #[.pointer (some ⟨k3, 0, none⟩)], .bool true, .bool false, .bool false, .func (.func 35) #[] #[.pointer (some ⟨k3, 0, none⟩)], .bool false, .bool false, .slice A Ls.length c, .int .i64 kk, .bool false, undef, undef, .agg #[.int .i64 0, .int .i64 0, .int .i64 0], .agg #[.int .i64 0, .int .i64 0, .int .i64 0], .func (.func 35) #[] #[.pointer (some ⟨k3, 0, none⟩)], cvV x, undef, undef, undef, undef, undef, undef, undef, undef, undef, undef, undef, undef, undef, undef, undef, undef, undef, undef, undef, undef, undef, undef, undef, undef, undef, undef, undef, undef, undef, undef, undef, undef, undef, undef, undef, undef, undef, undef, undef, undef, undef, undef, undef, undef, undef, undef, undef, undef, undef], defers := [] })
        (fun x a' _ X Y row hs hg hr => by obtain ⟨Bx, h1, h2, h3⟩ := hs; exact ⟨Bx, h1, blk_kept h2 hg (fun r e => (hr r e).2), h3⟩)
        ?assign ?body ?done ?stop
      case assign =>
        rintro l pre x W K ⟨⟨s, i1, i2, i3, i4, i5⟩, i6⟩ hK
        have hWs := i6.size
        have hW4 := i4.lt
        have bX := Blk.new W 45 (cvL x).toArray
        have HK := hK _ (W.alloc (.cells (cvL x).toArray 45)) ((KeepsOthers.alloc _ _).from _) ((Below.refl _ W).alloc (by omega) _) ⟨⟨s, i1, i2, i3.al _, i4.al _, i5.al _⟩, i6.alloc (by omega) _⟩ ⟨W.heap.size, hW4, bX, rfl⟩
        clear hK i1 i2 i3 i4 i5 i6
        gi_wp2_with (refine wpListIn_store_row rfl 45 (.tmp 10) (.tmp 31) (by with_reducible rfl) W.heap.size (cvL x).toArray (by rfl) (by rfl) 45 #[.int .i64 0, .int .i64 0, .int .i64 0, .int .i64 0, .int .i64 0, .int .i64 0, .int .i64 0, .int .i64 0, .int .i64 0, .int .i64 0, .int .i64 0, .int .i64 0, .int .i64 0] (Blk.new _ _ _) cvSize rfl (by simp [cvL, ptCells, Value.oneCell']) ?_; rw [World.setRow_alloc_new])
        exact HK
      case body =>
        rintro l pre x a' W hl ⟨r, hr⟩ ⟨⟨s, i1, i2, i3, i4, i5⟩, i6⟩ ⟨Bx, hBx, bX, rfl⟩ hlt
        have c5 := i5.cell 0
        simp only [List.getElem?_toArray, List.getElem?_cons_zero] at c5
        have cw := (i6.cell (p := ⟨wb, 0, none⟩) (by omega)).trans (kw.cell 0)
        simp only [List.getElem?_toArray, List.getElem?_cons_zero] at cw
        have lw := l8.below i6
        have fr : W.frozen? ⟨w.heap.size + 1, 0, none⟩ = false := (Blk.frozen (show Blk W (w.heap.size + 1) 4 #[.bool false] from (i6.block _ (by omega)).trans bR) 0)
        have br : Blk W (w.heap.size + 1) 4 #[.bool false] := (i6.block _ (by omega)).trans bR
        have cr := br.cell 0
        have bs : Blk W w.heap.size 3 #[.int .i64 st] := (i6.block _ (by omega)).trans bS
        have BW : Below w.heap.size w W := X0.trans (i6.mono (by omega))
        simp only [List.getElem?_toArray, List.getElem?_cons_zero] at cr
        have HW0 := Lib.hid hW0
        clear hW0
        by_cases hlen : pre.length < (allC Ls).length
        · exact absurd hlen (by rw [allC, if_neg HC.out]; simp)
        · have d2 : decide ((allC Ls).length ≤ pre.length) = true := by simp; omega
          gi_wp2
          refine wpIn_region_chain (fun W' => W'.cell? ⟨nb, 0, none⟩ = some (.int .i64 pre.length) ∧ W'.cell? ⟨wb, 0, none⟩ = some (.slice none (allC Ls).length 0)) [(0, false), (1, false), (2, false), (3, false), (4, false), (5, false), (6, false), (7, false), (8, false), (9, false), (10, false), (11, false)] (by kernel_rfl) (by kernel_rfl) (by kernel_rfl) ?_ (⟨c5, cw⟩) ?_
          (focus (rintro ⟨_, _, h⟩; exact h))
          repeat (first
            | (refine ChainL.skip (o := ?_) ?_ ?_ ?_; rotate_left; (focus (first | (simp only [List.getElem?_toArray, List.getElem?_cons_succ, List.getElem?_cons_zero]; with_reducible rfl) | (simp only [List.getElem?_toArray, List.getElem?_cons_zero]; with_reducible rfl))); (focus rfl); simp only [Act.put, List.setIfInBounds_toArray, List.set_cons_zero, List.set_cons_succ])
            | (refine ChainL.val (o := ?_) (v := ?_) ?_ ?_ ?_ ?_ ?_; rotate_left 2; (focus (first | (simp only [List.getElem?_toArray, List.getElem?_cons_succ, List.getElem?_cons_zero]; with_reducible rfl) | (simp only [List.getElem?_toArray, List.getElem?_cons_zero]; with_reducible rfl))); (focus (intro _ _ h; cases h)); (focus rfl); (focus (intro w' hI; obtain ⟨hA, hB⟩ := hI; go_simp <;> with_reducible rfl)); simp only [Act.put, List.setIfInBounds_toArray, List.set_cons_zero, List.set_cons_succ]))
          refine ChainL.nil ?_
          gi_wp2
          exact ⟨((KeepsOthers.setCell _ _ _).trans (KeepsOthers.drew _)).from _, ⟨rfl, fun hp => absurd hp.length_le (by simp; omega)⟩, (BW.setCell (p := ⟨w.heap.size + 1, 0, none⟩) (by simp) _).drew⟩
      case done =>
        rintro D xs W hD hxs ⟨⟨s, i1, i2, i3, i4, i5⟩, i6⟩ hK
        rw [HEA] at hxs
        subst hxs
        obtain rfl : s = tt := by rw [htt] at i1; exact (Option.some.inj i1).symm
        have hk := closed_keep hcl
        rw [hk] at i4
        rcases keepF s with ⟨fx, fy, fk⟩
        have c5 := i5.cell 0
        have cw := (i6.cell (p := ⟨wb, 0, none⟩) (by omega)).trans (kw.cell 0)
        have f0 := i3.cell 0
        have f1 := i3.cell 1
        have f2 := i3.cell 2
        have g0 := i4.cell 0
        have g1 := i4.cell 1
        have g2 := i4.cell 2
        have br : Blk W (w.heap.size + 1) 4 #[.bool false] := (i6.block _ (by omega)).trans bR
        have cr := br.cell 0
        have fr := br.frozen 0
        simp only [List.getElem?_toArray, List.getElem?_cons_zero, List.getElem?_cons_succ] at c5 cw f0 f1 f2 g0 g1 g2 cr
        have pe := eqP_run fx fy fk fx fy fk true (by simp [eq3])
        have pg := eqP_guard fx fy fk fx fy fk
        have BW : Below w.heap.size w W := X0.trans (i6.mono (by omega))
        have BX := (BW.setCell (p := ⟨w.heap.size + 1, 0, none⟩) (by simp) (.bool true))
        have hK' := (KeepsOthers.setCell W ⟨w.heap.size + 1, 0, none⟩ (.bool true)).same D _ hK rfl
        have br2 := br.set 0 (.bool true)
        have hc5 := cell_kept (br2.cell 0) (grownBy_putObj' _ D (.deferred none)) (fun r e => by cases e; exact ⟨_, hK', rfl⟩)
        have hBF := BX.trans (belowK_b (w := w) (Nat.le_refl _) _ D _ (.deferred none) (by omega) hK' rfl rfl)
        clear BX br2 br i3 i4 i5 i6 hE HEA htt hcl
        by_cases hq0 : (allC Ls).length = 0
        · rw [hq0] at c5 cw
          go_wp2
          refine ⟨by simp, .inl ⟨_, _, rfl, run_takeDeferred hK', ?_⟩⟩
          refine ⟨.bool true, ?_, rfl, hBF⟩
          simp [results, Try.f5, go_sem, hc5]
        · have y2 : 0 < (allC Ls).length := by omega
          generalize (allC Ls).length = q at *
          go_wp2
          refine ⟨by simp, .inl ⟨_, _, rfl, run_takeDeferred hK', ?_⟩⟩
          refine ⟨.bool true, ?_, rfl, hBF⟩
          simp [results, Try.f5, go_sem, hc5]
      case stop =>
        rintro D cc pre W hD hpre ⟨⟨rfl, hin⟩, hB⟩ hK
        rw [HEA] at hpre
        have br := hin hpre
        have hc5 := cell_kept (br.cell 0) (grownBy_putObj' _ D (.deferred none)) (fun r e => by cases e; exact ⟨_, hK, rfl⟩)
        have hBF := hB.trans (belowK_b (w := w) (Nat.le_refl _) W D _ (.deferred none) (by omega) hK rfl rfl)
        gi_wp2
        refine ⟨by simp, .inl ⟨_, _, rfl, run_takeDeferred hK, ?_⟩⟩
        refine ⟨.bool true, ?_, rfl, hBF⟩
        simp [results, Try.f5, go_sem, hc5]
  · have CL := fun w1 (b1 : Below w.heap.size w w1) => large_any w.heap.size A c Ls w1 b1.size (h.below b1) hm hn true hb
    have B0 : Below w.heap.size w ((w.alloc (.cells #[.int .i64 st] 3)).alloc (.cells #[.bool false] 4)) := ((Below.refl _ _).alloc (Nat.le_refl _) _).alloc (by simp) _
    have bR := Blk.new (w.alloc (.cells #[.int .i64 st] 3)) 4 #[.bool false]
    clear h hm hn hb
    refine (callsIn_wide (n := 3)).1 ?_
    refine callsIn_of_wp_marks Try.func5 rfl trivial ?_
    simp only [Try.ntmps5, List.size_toArray, List.length_cons, List.length_nil, Nat.reduceAdd, Nat.reduceSub, Array.replicate_succ, Array.replicate_zero, List.push_toArray, List.append_toArray, List.nil_append, List.cons_append]
    refine wpIn_wide.2 ?_
    go_wp2_with (first | (go_at_call 7; ((with_reducible refine (CL _ B0).mono ?_); rintro e w1 ⟨rfl, b1⟩; have B1 := B0.trans (b1.mono B0.size))) | (go_at_call 8; ((with_reducible refine (lives10 _).mono ?_); rintro e w2 ⟨rfl, b2⟩; have B2 := B1.trans (b2.mono B1.size); have bR := (bR.below b1).below b2; simp only [World.size_alloc] at bR; have c5 := bR.cell 0; have fr5 := bR.frozen 0; simp only [List.getElem?_toArray, List.getElem?_cons_zero] at c5)))
    have hc5 := (bR.set 0 (.bool true)).cell 0
    simp only [List.setIfInBounds_toArray, List.set_cons_zero, List.getElem?_toArray, List.getElem?_cons_zero] at hc5
    refine ⟨.bool true, ?_, rfl, B2.setCell (p := ⟨w.heap.size + 1, 0, none⟩) (by simp) _⟩
    simp [results, Try.f5, go_sem, hc5]

set_option linter.unusedVariables false in
set_option maxRecDepth 100000 in
theorem lifted (os : Os) (started : os.Started) (H : Type) (enc : TypeId × Value → H) :
    ReturnsInHanded {} Try.checked os 5 .any (Rows.outlineCurvesSpec.pre6 enc Try.prog Try.f5 Rows.outlineCurvesRow.domain false) (Rows.outlineCurvesSpec.post enc Try.prog Try.f5 false true false false) := by
  refine returnsInHanded_of_change_sized (C := Try.checked) Try.own started (by kernel_rfl) Try.func5
    (ChangeSpec.witness6 (enc := enc) (C := Try.checked) false ⟨#[], #[.slice none 0 0, .int .i64 0], []⟩ 8 (by kernel_rfl) (by kernel_rfl) (by kernel_rfl) (by kernel_rfl)) ?_
  intro W base args ds gs before hval0 hW hcnd hsz0 _
  have hsz : (DataW.weightsEach Try.prog (Try.f5.params.toList ++ Rows.outlineCurvesSpec.plain.varTypes Try.prog) (ds ++ gs)).all (· ≤ reachBytes) = true := hsz0
  have hval : ∀ (j : Nat) t v, Try.f5.params[j]? = some t → args[j]? = some v → Value.okWide Try.prog W .any base t v := hval0
  have hW' := hW
  obtain ⟨p, q, hA0, hV, rfl, hfz, hnd⟩ := hW
  have hA : DataW.TrodAll enc Try.prog W 0 (fun _ => true) true Try.f5.params.toList args.toList ds p := hA0
  rw [Try.params5] at hA hval hsz
  obtain ⟨v0, vs0, d0, ds0, p0, q0, hargs, rfl, rfl, h0, r0⟩ := trodAll_cons hA
  obtain ⟨v1, vs1, d1, ds1, p1, q1, rfl, rfl, rfl, h1, r1⟩ := trodAll_cons r0
  obtain ⟨rfl, rfl, rfl⟩ := trodAll_nil r1
  obtain rfl : args = #[v0, v1] := by cases args; simp_all
  obtain ⟨rfl, rfl⟩ := trodVars_none hV
  have hz0 : ∀ m ∈ d0.weights Try.prog 22, m ≤ reachBytes := fun m hm => of_decide_eq_true (List.all_eq_true.1 hsz m (DataW.weights_mem_each (j := 0) rfl rfl m hm))
  obtain ⟨A0, c0, L0, rfl, k0, m0, n0⟩ := open_outl Try.underlying22 Try.underlying48 (by kernel_rfl) Try.underlying43 (by kernel_rfl) (by kernel_rfl) (by kernel_rfl) Try.underlying3 Try.underlying3 Try.underlying3 (hval 0 22 v0 rfl rfl) h0 hz0
  obtain ⟨a1, rfl, rfl, rfl, w1⟩ := open_int Try.underlying3 (hval 1 3 v1 rfl rfl) h1
  clear hA0 hval0
  simp only [List.append_nil] at hW'
  refine (walk A0 c0 L0 a1 k0 m0 n0 W rfl).mono fun e W' ⟨he, hg⟩ => ?_
  subst he
  exact ⟨_, rfl, law_post Try.laidOut rfl Try.underlying4 (by kernel_rfl) rfl rfl rfl rfl hW' hg⟩

theorem over : Rows.outlineCurvesRow.holds Try.pinned (OpenSpec.ofChange Rows.outlineCurvesSpec) :=
  OpenClaim.holds_of_wide 5 Try.f5 rfl rfl rfl rfl rfl rfl rfl ⟨rfl, rfl, rfl, rfl, rfl⟩ rfl rfl rfl rfl rfl (by kernel_rfl) Try.func5 (by kernel_rfl)
    (of_decide_eq_true (by kernel_rfl)) (by unfold Func.isWrapper; first | (rw [if_pos (by decide +kernel)]; kernel_rfl) | (rw [if_neg (by decide +kernel)]; exact ⟨rfl, rfl⟩))
    (fun os started H enc _ => lifted os started H enc)

theorem proved : Rows.OutlineCurvesSaid :=
  over

end Go.Proofs.Ytmmdnhfonifhdaa.outlineCurves
