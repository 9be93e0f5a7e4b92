/- Part 8 of the proof: FlI. -/
import Derived.Deep.Cut
import Derived.Deep.CutBlock
import Derived.RangeFuncKeeps
import Derived.RangeFuncCalls
import Derived.RangeFuncLeaves
import Derived.RangeFuncFrom
import Derived.RangeFuncNested
import Derived.RangeFuncBound
import Derived.Shelf.Abstract
import Derived.Shelf.RegionOpen
import Derived.WalkKit
import Derived.OwnWalkIn
import Derived.TacticsInMore
import Derived.LoopNIn
import Derived.LoopIn
import Derived.Test.YtlacjifnniahhaaCFl6

namespace Go.Proofs.Ytlacjifnniahhaa
open Go Go.RowKit Go.Shelf
attribute [local go_sem] Oper.semAt_some
set_option linter.unusedVariables false
set_option linter.unusedSimpArgs false

theorem lists_onlyB {V V' : World} {B g : Nat} {xs : List Value} {fp : List Nat} (h : Lists V B (some ⟨g, 0, none⟩) xs) (o : Only V V' fp) (hB : B ≤ V.heap.size) (hn : ∀ b, b = g → b ∉ fp) : Lists V' B (some ⟨g, 0, none⟩) xs := by
  refine ⟨fun ha => (nomatch ha), fun a ha j u hu => ?_, fun a ha hx => h.lt a ha hx⟩
  cases ha
  have hx : xs ≠ [] := fun e => by rw [e] at hu; simp at hu
  have hl := h.lt _ rfl hx
  refine (World.cell?_of_block (o.block _ ?_ (hn _ ?_))).trans (h.cell _ rfl j u hu)
  · rw [addr_add_block]; exact Nat.lt_of_lt_of_le hl hB
  · rw [addr_add_block]
theorem intInfoB : (Try.prog.info? 3).map (fun i => (i.zero, i.size, i.bytes)) = some (some (.int .i64 0), 1, 8) := by kernel_rfl
/-- Between two rounds: both rows in their boxes. -/
def JB (nb xb yb : Nat) (w1 : World) (pre : List Dt) (V : World) : Prop := ∃ vx vy, Hid (Blk V xb 86 #[vx] ∧ Blk V yb 86 #[vy] ∧ V.ownsRow nb 3 1 vx pre.length (intCells (pre.map fun d => d.1)) ∧ V.ownsRow nb 3 1 vy pre.length (intCells (pre.map fun d => d.2)) ∧ Apart vx vy ∧ KpX nb [xb, yb] w1 V)
theorem jb_own {nb xb yb : Nat} {w1 : World} (h1 : nb ≤ w1.heap.size) : OwnFrom w1.heap.size (JB nb xb yb w1) := by
  rintro s X Y row ⟨vx, vy, H⟩ hg hr
  obtain ⟨a, b, c, d, e, f⟩ := H.out
  exact ⟨vx, vy, Lib.hid ⟨(blkB (β := Unit)) () X Y row a hg hr, (blkB (β := Unit)) () X Y row b hg hr, ownK c hg (fun r e => (hr r e).2), ownK d hg (fun r e => (hr r e).2), e, (kpxB (β := Unit) (Nat.le_trans h1 (Nat.le_refl _)) h1) () X Y row f hg hr⟩⟩
theorem flQInfo : (Try.prog.info? 48).map (·.size) = some 4 := by kernel_rfl
theorem all_mayB1 {D : List Dt} (h : D.all ltF = true) : (D.map fun d => d.1).all mayB = true := by
  rw [List.all_eq_true] at h ⊢
  intro x hx
  obtain ⟨d, hd, rfl⟩ := List.mem_map.1 hx
  have := ltF_in (h d hd)
  unfold mayB; simp; omega
theorem all_mayB2 {D : List Dt} (h : D.all ltF = true) : (D.map fun d => d.2).all mayB = true := by
  rw [List.all_eq_true] at h ⊢
  intro x hx
  obtain ⟨d, hd, rfl⟩ := List.mem_map.1 hx
  have := ltF_in (h d hd)
  unfold mayB; simp; omega
theorem foldl_in {f : Int → Int → Int} (hf : ∀ a b, f a b = a ∨ f a b = b) {M : Int} : ∀ (L : List Int) (z : Int), (-M ≤ z ∧ z ≤ M) → (∀ x ∈ L, -M ≤ x ∧ x ≤ M) → -M ≤ L.foldl f z ∧ L.foldl f z ≤ M
  | [], z, hz, _ => hz
  | x :: L, z, hz, h => by
    rw [List.foldl_cons]
    refine foldl_in hf L _ ?_ (fun y hy => h y (List.mem_cons_of_mem _ hy))
    rcases hf z x with e | e <;> rw [e]
    · exact hz
    · exact h x List.mem_cons_self
theorem getD_in {M : Int} (hM : 0 ≤ M) {L : List Int} (h : ∀ x ∈ L, -M ≤ x ∧ x ≤ M) : -M ≤ L.getD 0 0 ∧ L.getD 0 0 ≤ M := by
  cases L with
  | nil => simp; omega
  | cons x L => simpa using h x List.mem_cons_self
theorem min_or (a b : Int) : min a b = a ∨ min a b = b := by omega
theorem max_or (a b : Int) : max a b = a ∨ max a b = b := by omega
def hullD (D : List Dt) : Q := if D = [] then ⟨0, 0, 0, 0⟩ else hullQ (D.map fun d => d.1) (D.map fun d => d.2)
def bxF (D : List Dt) : Q := ⟨(hullD D).x0 / 64, (hullD D).y0 / 64, ((hullD D).x1 + 63) / 64, ((hullD D).y1 + 63) / 64⟩
def boxF (Ls : List (List Dt)) : Q := if emptyQ (bxF Ls.flatten) then ⟨0, 0, 0, 0⟩ else bxF Ls.flatten
theorem hullD_in {D : List Dt} (h : D.all ltF = true) : (-1048576 ≤ (hullD D).x0 ∧ (hullD D).x0 ≤ 1048576) ∧ (-1048576 ≤ (hullD D).y0 ∧ (hullD D).y0 ≤ 1048576) ∧ (-1048576 ≤ (hullD D).x1 ∧ (hullD D).x1 ≤ 1048576) ∧ -1048576 ≤ (hullD D).y1 ∧ (hullD D).y1 ≤ 1048576 := by
  unfold hullD
  split
  · simp
  · rw [List.all_eq_true] at h
    have h1 : ∀ x ∈ D.map (fun d => d.1), -1048576 ≤ x ∧ x ≤ 1048576 := fun x hx => by
      obtain ⟨d, hd, rfl⟩ := List.mem_map.1 hx
      exact (ltF_in (h d hd)).1
    have h2 : ∀ x ∈ D.map (fun d => d.2), -1048576 ≤ x ∧ x ≤ 1048576 := fun x hx => by
      obtain ⟨d, hd, rfl⟩ := List.mem_map.1 hx
      exact (ltF_in (h d hd)).2
    exact ⟨foldl_in min_or _ _ (getD_in (by omega) h1) h1, foldl_in min_or _ _ (getD_in (by omega) h2) h2, foldl_in max_or _ _ (getD_in (by omega) h1) h1, foldl_in max_or _ _ (getD_in (by omega) h2) h2⟩
set_option maxRecDepth 100000 in
set_option maxHeartbeats 8000000 in
theorem fbox_ok (A : Option Addr) (c : Nat) (Ls : List (List Dt)) (w : World) (h : OutF dtL w w.heap.size A Ls) (hs : SmF Ls) (hb : mayF Ls = 0) : Calls Try.prog 21 #[.slice A Ls.length c] w fun e w' => e = .returned (.tuple #[.agg #[.int .i64 (boxF Ls).x0, .int .i64 (boxF Ls).y0, .int .i64 (boxF Ls).x1, .int .i64 (boxF Ls).y1], .int .i64 0]) ∧ Below w.heap.size w w' := by
  have CM := fun W (b : Below w.heap.size w W) => fmay_any A c Ls W ((h.below b).more b.size) hs
  rw [hb] at CM
  have hok := mayF_ok hb
  have HT1 := Lib.hid hok.1
  have HAL := Lib.hid hok.2
  have HH := Lib.hid (And.intro h hs)
  obtain ⟨i0, hi, hz0, hz1, hz2⟩ := info_partsB intInfoB
  obtain ⟨m, hm⟩ : ∃ m, m = Ls.length := ⟨_, rfl⟩
  rw [← hm] at CM ⊢
  have HN := Lib.hid hm
  have B0 := below_a1 w (.cells #[.int .i64 0, .int .i64 0, .int .i64 0, .int .i64 0] 48)
  have KR := Blk.new w 48 #[.int .i64 0, .int .i64 0, .int .i64 0, .int .i64 0]
  obtain ⟨wA, hwA⟩ : ∃ wA, wA = w.alloc (.cells #[.int .i64 0, .int .i64 0, .int .i64 0, .int .i64 0] 48) := ⟨_, rfl⟩
  rw [← hwA] at B0 KR
  have HA := Lib.hid hwA
  have HKR := Lib.hid KR
  have HB0 := Lib.hid B0
  have CM := CM wA B0
  clear h hs hb hok hm hwA B0 KR
  refine (callsIn_wide (n := 3)).1 ?_
  refine callsIn_of_wp_marks Try.func21 rfl trivial ?_
  simp only [Try.ntmps21, List.size_toArray, List.length_cons, List.length_nil, Nat.reduceAdd, Nat.reduceSub, Array.replicate_succ, Array.replicate_zero, List.push_toArray, List.append_toArray, List.nil_append, List.cons_append]
  refine wpIn_wide.2 ?_
  go_upto_region 1 with fail
  rw [← HA.out]
  go_upto_region 4 with (go_at_call 19; (with_reducible refine (CM).mono ?_); rintro e wm ⟨rfl, bm⟩)
  have HBM := Lib.hid (HB0.out.trans (bm.mono HB0.out.size))
  have HKM := Lib.hid (HKR.out.below bm)
  go_wp2_with (go_at_call 48; (with_reducible refine (feach_any A m c _).mono ?_); rintro e w2 ⟨rfl, hw2⟩)
  obtain ⟨w1, hw1⟩ : ∃ w1, w1 = ((wm.alloc (.cells #[.slice none 0 0] 86)).alloc (.cells #[.slice none 0 0] 86)).alloc (.cells #[.slice A m c] 39) := ⟨_, rfl⟩
  have B1 : Below wm.heap.size wm w1 := hw1 ▸ below_a3 _ _ _ _
  have KXB : Blk w1 wm.heap.size 86 #[.slice none 0 0] := hw1 ▸ (Blk.new wm 86 #[.slice none 0 0]).below (below_a2 _ _ _)
  have KYB : Blk w1 (wm.heap.size + 1) 86 #[.slice none 0 0] := by
    have := (Blk.new (wm.alloc (.cells #[.slice none 0 0] 86)) 86 #[.slice none 0 0]).below (below_a1 _ (.cells #[.slice A m c] 39))
    rw [World.size_alloc] at this
    rw [hw1]; exact this
  have KX : Blk w1 (wm.heap.size + 1 + 1) 39 #[.slice A m c] := by
    have := Blk.new ((wm.alloc (.cells #[.slice none 0 0] 86)).alloc (.cells #[.slice none 0 0] 86)) 39 #[.slice A m c]
    simp only [World.size_alloc] at this
    rw [hw1]; exact this
  rw [← hw1]
  obtain ⟨xb, hxb⟩ : ∃ xb, xb = wm.heap.size := ⟨_, rfl⟩
  obtain ⟨yb, hyb⟩ : ∃ yb, yb = wm.heap.size + 1 := ⟨_, rfl⟩
  have hx1 := KX.lt
  rw [← hyb] at KX KYB hx1 ⊢
  rw [← hxb] at KXB B1 hyb ⊢
  obtain ⟨nb, hnb⟩ : ∃ nb, nb = w1.heap.size := ⟨_, rfl⟩
  have hws : w.heap.size ≤ xb := by rw [hxb]; exact HBM.out.size
  have hws1 : w.heap.size < xb := by rw [hxb]; exact HKM.out.lt
  have BW : Below w.heap.size w w1 := HBM.out.trans (B1.mono hws)
  have HO := HH.out.1.below BW
  have kx : w1.cell? ⟨yb + 1, 0, none⟩ = some (.slice A Ls.length c) := by rw [← HN.out]; exact KX.cell 0
  have hxy : xb ≠ yb := by omega
  have HBW := Lib.hid BW
  have hyx : xb < yb := by omega
  have HKM := Lib.hid (HKM.out.below (hxb ▸ B1))
  have J0 : JB nb xb yb w1 [] w1 := ⟨_, _, Lib.hid ⟨KXB, KYB, World.ownsRow_nil _ _ _ _, World.ownsRow_nil _ _ _ _, Apart.nil _ _ _, KpX.refl _ _ _⟩⟩
  have hnbl : nb ≤ w1.heap.size := by omega
  have hnbg : w1.heap.size ≤ nb := by omega
  have HSZ := Lib.hid (And.intro hws1 (And.intro hyb (And.intro hx1 hnb)))
  clear hnb
  clear hw1 KX B1 hxb hyb bm hw2 KXB KYB
  refine (wpIn_wide (n := 3)).1 ?_
  refine wpIn_rangeB1 (gf := 75) (lb := #[.pointer (some ⟨yb + 1, 0, none⟩)]) rfl (enters_of Try.func75 (by kernel_rfl) rfl)
    (each_stops (yb + 1) nb w.heap.size [xb, yb] A c Ls w1 kx (by omega) (by omega) HO (by have := BW.size; omega) (by simp; omega) HH.out.2) KpX.trans (kpX_b (by omega)) (fun W o h => KpX.of ((Below.refl _ _).alloc (by omega) o)) (Below.refl _ _) (fun _ => rfl) (fun pre => ownB_pure _)
    27 (fun x => #[.int .i64 x.1, .int .i64 x.2]) 19 7 (fun x => .agg #[.int .i64 x.1, .int .i64 x.2])
    (JB nb xb yb w1) (fun c pre V => False) (jb_own (by omega)) (fun c => ownB_pure _)
    (fun pre V h => by obtain ⟨vx, vy, H⟩ := h; exact H.out.2.2.2.2.2.size) J0 ?assign ?body ?done ?stop
  case assign =>
    intro l x W K hK
    gi_wp2
    simpa using hK
  case body =>
    rintro l pre x Bd W ⟨vx, vy, H⟩ hC hBd hb
    clear kx hx1 BW HO J0
    obtain ⟨kx, ky, ox, oy, hap, hkp⟩ := H.out
    simp only [List.setIfInBounds_toArray, List.set_cons_zero, List.set_cons_succ]
    obtain ⟨n, hpn⟩ : ∃ n, n = pre.length := ⟨_, rfl⟩
    rw [← hpn] at ox oy
    have HPN := Lib.hid hpn.symm
    have hn1 : n + 1 ≤ 65536 := by
      have h1 := hC.length_le
      rw [List.length_append, cntF_flat] at h1
      simp at h1
      have h2 := HT1.out
      omega
    clear hpn
    obtain ⟨Ax, cx, rfl, lx, _⟩ := own_lists ox
    obtain ⟨Ay, cy, rfl, ly, _⟩ := own_lists oy
    have hnx : xb ∉ (blk (.slice Ax n cx) ++ blk (.slice Ay n cy)) := by rw [List.mem_append, not_or]; exact ⟨own_ne ox kx (by decide), own_ne oy kx (by decide)⟩
    have hny : yb ∉ (blk (.slice Ax n cx) ++ blk (.slice Ay n cy)) := by rw [List.mem_append, not_or]; exact ⟨own_ne ox ky (by decide), own_ne oy ky (by decide)⟩
    have hnd : Bd ∉ (blk (.slice Ax n cx) ++ blk (.slice Ay n cy)) := by rw [List.mem_append, not_or]; exact ⟨own_ne ox hb (by decide), own_ne oy hb (by decide)⟩
    have HD := Lib.hid (fun (V : World) (hV : Only W V (blk (.slice Ax n cx) ++ blk (.slice Ay n cy))) => And.intro ((kx.only hV hnx).cell 0) (And.intro ((ky.only hV hny).cell 0) (And.intro ((hb.only hV hnd).cell 0) ((hb.only hV hnd).cell 1))))
    simp only [List.getElem?_toArray, List.getElem?_cons_succ, List.getElem?_cons_zero] at HD
    have hnb : nb ≤ W.heap.size := Nat.le_trans hnbl hkp.size
    have hI := only_drew W (blk (.slice Ax n cx) ++ blk (.slice Ay n cy))
    have oxd : W.drew.ownsRow nb 3 1 (.slice Ax n cx) n _ := own_only ox (only_drew W []) (fun _ _ h => (nomatch h))
    have oyd : W.drew.ownsRow nb 3 1 (.slice Ay n cy) n _ := own_only oy (only_drew W []) (fun _ _ h => (nomatch h))
    gi_wp2
    refine wpIn_region_mixT (fun V => Only W V (blk (.slice Ax n cx) ++ blk (.slice Ay n cy))) (Mx.qs [0, 1, 2, 5, 6, 7] (.two 3 8 (.two 4 8 (.one 8 (.one 9 .leaf)) (.one 4 (.one 9 .leaf))) (.one 3 (.one 4 (.one 9 .leaf))))) 10 [(11, true)] (by kernel_rfl) (by kernel_rfl) (by kernel_rfl) ?_ hI ?_
    (focus (rintro ⟨_, _, h⟩; exact h))
    simp only [Mx.qs]
    obtain ⟨wd, hwd⟩ : ∃ wd, wd = W.drew := ⟨_, rfl⟩
    rw [← hwd] at hI oxd oyd ⊢
    clear hwd
    have hsd : W.heap.size ≤ wd.heap.size := hI.size
    repeat (first
      | (refine MixL.skip (o := ?_) ?_ ?_ ?_; rotate_left; (focus (first | (simp only [List.getElem?_toArray, List.getElem?_cons_succ, List.getElem?_cons_zero]; with_reducible rfl) | (simp only [List.getElem?_toArray, List.getElem?_cons_zero]; with_reducible rfl))); (focus rfl); simp only [Act.put, List.setIfInBounds_toArray, List.set_cons_zero, List.set_cons_succ])
      | (refine MixL.val (o := ?_) (v := ?_) ?_ ?_ ?_ ?_ ?_; rotate_left 2; (focus (first | (simp only [List.getElem?_toArray, List.getElem?_cons_succ, List.getElem?_cons_zero]; with_reducible rfl) | (simp only [List.getElem?_toArray, List.getElem?_cons_zero]; with_reducible rfl))); (focus (intro _ _ h; cases h)); (focus rfl); (focus (intro w' hJ; obtain ⟨x0, y0, z0, z1⟩ := HD.out _ hJ; go_simp <;> with_reducible rfl)); simp only [Act.put, List.setIfInBounds_toArray, List.set_cons_zero, List.set_cons_succ]))
    refine MixL.both ?_ ?_
    · have hI1 := only_alloc hI (.cells #[.int .i64 x.1] 3)
      refine MixL.does (o := ?_) (v := ?_) (w1 := ?_) ?_ ?_ ?_ ?_ ?_
      rotate_left 3
      (focus (first | (simp only [List.getElem?_toArray, List.getElem?_cons_succ, List.getElem?_cons_zero]; with_reducible rfl) | (simp only [List.getElem?_toArray, List.getElem?_cons_zero]; with_reducible rfl)))
      (focus rfl)
      (focus (go_simp; (constructor <;> with_reducible rfl)))
      (focus (exact hI1))
      simp only [Act.put, List.setIfInBounds_toArray, List.set_cons_zero, List.set_cons_succ]
      have lx1 := lists_newB wd (.int .i64 x.1) 3
      have ox1 := own_only oxd (Only.of_below (below_a1 wd (.cells #[.int .i64 x.1] 3)) []) (fun _ _ h => (nomatch h))
      have oy1 := own_only oyd (Only.of_below (below_a1 wd (.cells #[.int .i64 x.1] 3)) []) (fun _ _ h => (nomatch h))
      have hs1 : wd.heap.size + 1 = (wd.alloc (.cells #[.int .i64 x.1] 3)).heap.size := (World.size_alloc _ _).symm
      obtain ⟨u1, hu1⟩ : ∃ u1, u1 = wd.alloc (.cells #[.int .i64 x.1] 3) := ⟨_, rfl⟩
      rw [← hu1] at lx1 ox1 oy1 hs1 hI1 ⊢
      clear hu1
      refine MixL.both ?_ ?_
      · refine MixL.appendA (o := ?_) ?_ ?_ (.tmp 20) (.tmp 23) 86 ?_ nb 3 i0 (.int .i64 0) 1 8 Try.underlying86 hi hz0 hz1 hz2 rfl (by decide) _ n _ ?_ ox1 _ _ 1 1 _ ?_ lx1 rfl (by simp [Value.oneCell']) (by simp only [maxLen]; omega) (by omega) (by omega) ?_
        rotate_left 1
        (focus (first | (simp only [List.getElem?_toArray, List.getElem?_cons_succ, List.getElem?_cons_zero]; with_reducible rfl) | (simp only [List.getElem?_toArray, List.getElem?_cons_zero]; with_reducible rfl)))
        (focus rfl)
        (focus rfl)
        (focus rfl)
        (focus rfl)
        intro v4 w4 own4 hg4 hb4
        obtain ⟨oy4, hap4, on4⟩ := push_one ox1 oy1 hap own4 hg4 hb4
        have hI4 := only_more hI1 on4 (fun b hb => .inl (List.mem_append_left _ hb))
        refine ⟨hI4, ?_⟩
        obtain ⟨Bx, dx, rfl, _, _⟩ := own_lists own4
        simp only [Act.put, List.setIfInBounds_toArray, List.set_cons_zero, List.set_cons_succ]
        repeat (first
          | (refine MixL.skip (o := ?_) ?_ ?_ ?_; rotate_left; (focus (first | (simp only [List.getElem?_toArray, List.getElem?_cons_succ, List.getElem?_cons_zero]; with_reducible rfl) | (simp only [List.getElem?_toArray, List.getElem?_cons_zero]; with_reducible rfl))); (focus rfl); simp only [Act.put, List.setIfInBounds_toArray, List.set_cons_zero, List.set_cons_succ])
          | (refine MixL.val (o := ?_) (v := ?_) ?_ ?_ ?_ ?_ ?_; rotate_left 2; (focus (first | (simp only [List.getElem?_toArray, List.getElem?_cons_succ, List.getElem?_cons_zero]; with_reducible rfl) | (simp only [List.getElem?_toArray, List.getElem?_cons_zero]; with_reducible rfl))); (focus (intro _ _ h; cases h)); (focus rfl); (focus (intro w' hJ; obtain ⟨x0, y0, z0, z1⟩ := HD.out _ hJ; go_simp <;> with_reducible rfl)); simp only [Act.put, List.setIfInBounds_toArray, List.set_cons_zero, List.set_cons_succ]))
        have hI2 := only_alloc hI4 (.cells #[.int .i64 x.2] 3)
        refine MixL.does (o := ?_) (v := ?_) (w1 := ?_) ?_ ?_ ?_ ?_ ?_
        rotate_left 3
        (focus (first | (simp only [List.getElem?_toArray, List.getElem?_cons_succ, List.getElem?_cons_zero]; with_reducible rfl) | (simp only [List.getElem?_toArray, List.getElem?_cons_zero]; with_reducible rfl)))
        (focus rfl)
        (focus (go_simp; (constructor <;> with_reducible rfl)))
        (focus (exact hI2))
        simp only [Act.put, List.setIfInBounds_toArray, List.set_cons_zero, List.set_cons_succ]
        have ly1 := lists_newB w4 (.int .i64 x.2) 3
        have ox5 := own_only own4 (Only.of_below (below_a1 w4 (.cells #[.int .i64 x.2] 3)) []) (fun _ _ h => (nomatch h))
        have oy5 := own_only oy4 (Only.of_below (below_a1 w4 (.cells #[.int .i64 x.2] 3)) []) (fun _ _ h => (nomatch h))
        have hs2 : w4.heap.size + 1 = (w4.alloc (.cells #[.int .i64 x.2] 3)).heap.size := (World.size_alloc _ _).symm
        have hs3 := on4.size
        obtain ⟨u2, hu2⟩ : ∃ u2, u2 = w4.alloc (.cells #[.int .i64 x.2] 3) := ⟨_, rfl⟩
        rw [← hu2] at ly1 ox5 oy5 hs2 hI2 ⊢
        clear hu2
        refine MixL.appendA (o := ?_) ?_ ?_ (.tmp 25) (.tmp 28) 86 ?_ nb 3 i0 (.int .i64 0) 1 8 Try.underlying86 hi hz0 hz1 hz2 rfl (by decide) _ n _ ?_ oy5 _ _ 1 1 _ ?_ ly1 rfl (by simp [Value.oneCell']) (by simp only [maxLen]; omega) (by omega) (by omega) ?_
        rotate_left 1
        (focus (first | (simp only [List.getElem?_toArray, List.getElem?_cons_succ, List.getElem?_cons_zero]; with_reducible rfl) | (simp only [List.getElem?_toArray, List.getElem?_cons_zero]; with_reducible rfl)))
        (focus rfl)
        (focus rfl)
        (focus rfl)
        (focus rfl)
        intro v6 w6 own6 hg6 hb6
        obtain ⟨ox6, hap6, on6⟩ := push_one oy5 ox5 hap4.symm own6 hg6 hb6
        have hI6 := only_more hI2 on6 (fun b hb => .inl (List.mem_append_right _ hb))
        refine ⟨hI6, ?_⟩
        have hap7 := hap6.symm
        obtain ⟨By, dy, rfl, _, _⟩ := own_lists own6
        simp only [Act.put, List.setIfInBounds_toArray, List.set_cons_zero, List.set_cons_succ]
        repeat (first
          | (refine MixL.skip (o := ?_) ?_ ?_ ?_; rotate_left; (focus (first | (simp only [List.getElem?_toArray, List.getElem?_cons_succ, List.getElem?_cons_zero]; with_reducible rfl) | (simp only [List.getElem?_toArray, List.getElem?_cons_zero]; with_reducible rfl))); (focus rfl); simp only [Act.put, List.setIfInBounds_toArray, List.set_cons_zero, List.set_cons_succ])
          | (refine MixL.val (o := ?_) (v := ?_) ?_ ?_ ?_ ?_ ?_; rotate_left 2; (focus (first | (simp only [List.getElem?_toArray, List.getElem?_cons_succ, List.getElem?_cons_zero]; with_reducible rfl) | (simp only [List.getElem?_toArray, List.getElem?_cons_zero]; with_reducible rfl))); (focus (intro _ _ h; cases h)); (focus rfl); (focus (intro w' hJ; obtain ⟨x0, y0, z0, z1⟩ := HD.out _ hJ; go_simp <;> with_reducible rfl)); simp only [Act.put, List.setIfInBounds_toArray, List.set_cons_zero, List.set_cons_succ]))
        have PE := push_end (T := 86) (by decide) hxy kx ky ox oy hkp hnb hI6 ox6 own6 hap7 rfl
        have hD := HD.out _ hI6
        obtain ⟨x0, y0, z0, z1⟩ := hD
        have hlx : xb < w6.heap.size := Nat.lt_of_lt_of_le kx.lt hI6.size
        have hly : yb < w6.heap.size := Nat.lt_of_lt_of_le ky.lt hI6.size
        have hfx := (kx.only hI6 hnx).frozen 0
        have hfy := ((ky.only hI6 hny).only ((Only.refl _ [xb]).set (p := ⟨xb, 0, none⟩) (.inl (by simp)) (.slice Bx (n + 1) dx)) (by simp; exact fun e => hxy e.symm)).frozen 0
        have hcy := ((ky.only hI6 hny).only ((Only.refl _ [xb]).set (p := ⟨xb, 0, none⟩) (.inl (by simp)) (.slice Bx (n + 1) dx)) (by simp; exact fun e => hxy e.symm)).cell 0
        refine MixL.nil ⟨?_, ?_, StepO.storeB (w1 := w6.setCell ⟨xb, 0, none⟩ (.slice Bx (n + 1) dx)) ?_ ?_ ?_⟩
        rotate_left 1
        (focus (first | (simp only [List.getElem?_toArray, List.getElem?_cons_succ, List.getElem?_cons_zero]; with_reducible rfl) | (simp only [List.getElem?_toArray, List.getElem?_cons_zero]; with_reducible rfl)))
        (focus rfl)
        (focus (go_simp <;> with_reducible rfl))
        simp only [Act.put, List.setIfInBounds_toArray, List.set_cons_zero, List.set_cons_succ]
        refine ChainL.store (o := ?_) (w1 := (w6.setCell ⟨xb, 0, none⟩ (.slice Bx (n + 1) dx)).setCell ⟨yb, 0, none⟩ (.slice By (n + 1) dy)) ?_ ?_ ?_ ?_ ?_
        rotate_left 1
        (focus (first | (simp only [List.getElem?_toArray, List.getElem?_cons_succ, List.getElem?_cons_zero]; with_reducible rfl) | (simp only [List.getElem?_toArray, List.getElem?_cons_zero]; with_reducible rfl)))
        (focus rfl)
        (focus (go_simp <;> with_reducible rfl))
        (focus trivial)
        simp only [Act.put, List.setIfInBounds_toArray, List.set_cons_zero, List.set_cons_succ]
        refine ChainL.nil ?_
        clear x0 y0 z0 z1 hlx hly hfx hfy hcy
        gi_wp2
        exact ⟨PE.1, PE.2.1, _, _, Lib.hid (by
          simp only [List.length_append, List.length_cons, List.length_nil, Nat.zero_add, List.map_append, List.map_cons, List.map_nil, intCells]
          rw [HPN.out]
          have := PE.2.2
          simpa [intCells] using this)⟩
      · have hI2 := only_alloc hI1 (.cells #[.int .i64 x.2] 3)
        refine MixL.does (o := ?_) (v := ?_) (w1 := ?_) ?_ ?_ ?_ ?_ ?_
        rotate_left 3
        (focus (first | (simp only [List.getElem?_toArray, List.getElem?_cons_succ, List.getElem?_cons_zero]; with_reducible rfl) | (simp only [List.getElem?_toArray, List.getElem?_cons_zero]; with_reducible rfl)))
        (focus rfl)
        (focus (go_simp; (constructor <;> with_reducible rfl)))
        (focus (exact hI2))
        simp only [Act.put, List.setIfInBounds_toArray, List.set_cons_zero, List.set_cons_succ]
        have ly1 := lists_newB u1 (.int .i64 x.2) 3
        have ox2 := own_only ox1 (Only.of_below (below_a1 u1 (.cells #[.int .i64 x.2] 3)) []) (fun _ _ h => (nomatch h))
        have oy2 := own_only oy1 (Only.of_below (below_a1 u1 (.cells #[.int .i64 x.2] 3)) []) (fun _ _ h => (nomatch h))
        have lx2 := lx1.below (below_a1 u1 (.cells #[.int .i64 x.2] 3) |>.mono (by omega))
        have hs2 : u1.heap.size + 1 = (u1.alloc (.cells #[.int .i64 x.2] 3)).heap.size := (World.size_alloc _ _).symm
        obtain ⟨u2, hu2⟩ : ∃ u2, u2 = u1.alloc (.cells #[.int .i64 x.2] 3) := ⟨_, rfl⟩
        rw [← hu2] at ly1 ox2 oy2 hs2 hI2 lx2 ⊢
        clear hu2
        refine MixL.appendA (o := ?_) ?_ ?_ (.tmp 20) (.tmp 23) 86 ?_ nb 3 i0 (.int .i64 0) 1 8 Try.underlying86 hi hz0 hz1 hz2 rfl (by decide) _ n _ ?_ ox2 _ _ 1 1 _ ?_ lx2 rfl (by simp [Value.oneCell']) (by simp only [maxLen]; omega) (by omega) (by omega) ?_
        rotate_left 1
        (focus (first | (simp only [List.getElem?_toArray, List.getElem?_cons_succ, List.getElem?_cons_zero]; with_reducible rfl) | (simp only [List.getElem?_toArray, List.getElem?_cons_zero]; with_reducible rfl)))
        (focus rfl)
        (focus rfl)
        (focus rfl)
        (focus rfl)
        intro v4 w4 own4 hg4 hb4
        obtain ⟨oy4, hap4, on4⟩ := push_one ox2 oy2 hap own4 hg4 hb4
        have ly4 : Lists w4 (u1.heap.size + 1) _ _ := lists_onlyB ly1 on4 (by omega) (fun b hb hm => by have := own_ltB ox1 b hm; omega)
        have hI4 := only_more hI2 on4 (fun b hb => .inl (List.mem_append_left _ hb))
        refine ⟨hI4, ?_⟩
        obtain ⟨Bx, dx, rfl, _, _⟩ := own_lists own4
        have hs3 := on4.size
        simp only [Act.put, List.setIfInBounds_toArray, List.set_cons_zero, List.set_cons_succ]
        repeat (first
          | (refine MixL.skip (o := ?_) ?_ ?_ ?_; rotate_left; (focus (first | (simp only [List.getElem?_toArray, List.getElem?_cons_succ, List.getElem?_cons_zero]; with_reducible rfl) | (simp only [List.getElem?_toArray, List.getElem?_cons_zero]; with_reducible rfl))); (focus rfl); simp only [Act.put, List.setIfInBounds_toArray, List.set_cons_zero, List.set_cons_succ])
          | (refine MixL.val (o := ?_) (v := ?_) ?_ ?_ ?_ ?_ ?_; rotate_left 2; (focus (first | (simp only [List.getElem?_toArray, List.getElem?_cons_succ, List.getElem?_cons_zero]; with_reducible rfl) | (simp only [List.getElem?_toArray, List.getElem?_cons_zero]; with_reducible rfl))); (focus (intro _ _ h; cases h)); (focus rfl); (focus (intro w' hJ; obtain ⟨x0, y0, z0, z1⟩ := HD.out _ hJ; go_simp <;> with_reducible rfl)); simp only [Act.put, List.setIfInBounds_toArray, List.set_cons_zero, List.set_cons_succ]))
        refine MixL.appendA (o := ?_) ?_ ?_ (.tmp 25) (.tmp 28) 86 ?_ nb 3 i0 (.int .i64 0) 1 8 Try.underlying86 hi hz0 hz1 hz2 rfl (by decide) _ n _ ?_ oy4 _ _ 1 1 _ ?_ ly4 rfl (by simp [Value.oneCell']) (by simp only [maxLen]; omega) (by omega) (by omega) ?_
        rotate_left 1
        (focus (first | (simp only [List.getElem?_toArray, List.getElem?_cons_succ, List.getElem?_cons_zero]; with_reducible rfl) | (simp only [List.getElem?_toArray, List.getElem?_cons_zero]; with_reducible rfl)))
        (focus rfl)
        (focus rfl)
        (focus rfl)
        (focus rfl)
        intro v6 w6 own6 hg6 hb6
        obtain ⟨ox6, hap6, on6⟩ := push_one oy4 own4 hap4.symm own6 hg6 hb6
        have hI6 := only_more hI4 on6 (fun b hb => .inl (List.mem_append_right _ hb))
        refine ⟨hI6, ?_⟩
        have hap7 := hap6.symm
        obtain ⟨By, dy, rfl, _, _⟩ := own_lists own6
        simp only [Act.put, List.setIfInBounds_toArray, List.set_cons_zero, List.set_cons_succ]
        repeat (first
          | (refine MixL.skip (o := ?_) ?_ ?_ ?_; rotate_left; (focus (first | (simp only [List.getElem?_toArray, List.getElem?_cons_succ, List.getElem?_cons_zero]; with_reducible rfl) | (simp only [List.getElem?_toArray, List.getElem?_cons_zero]; with_reducible rfl))); (focus rfl); simp only [Act.put, List.setIfInBounds_toArray, List.set_cons_zero, List.set_cons_succ])
          | (refine MixL.val (o := ?_) (v := ?_) ?_ ?_ ?_ ?_ ?_; rotate_left 2; (focus (first | (simp only [List.getElem?_toArray, List.getElem?_cons_succ, List.getElem?_cons_zero]; with_reducible rfl) | (simp only [List.getElem?_toArray, List.getElem?_cons_zero]; with_reducible rfl))); (focus (intro _ _ h; cases h)); (focus rfl); (focus (intro w' hJ; obtain ⟨x0, y0, z0, z1⟩ := HD.out _ hJ; go_simp <;> with_reducible rfl)); simp only [Act.put, List.setIfInBounds_toArray, List.set_cons_zero, List.set_cons_succ]))
        have PE := push_end (T := 86) (by decide) hxy kx ky ox oy hkp hnb hI6 ox6 own6 hap7 rfl
        have hD := HD.out _ hI6
        obtain ⟨x0, y0, z0, z1⟩ := hD
        have hlx : xb < w6.heap.size := Nat.lt_of_lt_of_le kx.lt hI6.size
        have hly : yb < w6.heap.size := Nat.lt_of_lt_of_le ky.lt hI6.size
        have hfx := (kx.only hI6 hnx).frozen 0
        have hfy := ((ky.only hI6 hny).only ((Only.refl _ [xb]).set (p := ⟨xb, 0, none⟩) (.inl (by simp)) (.slice Bx (n + 1) dx)) (by simp; exact fun e => hxy e.symm)).frozen 0
        have hcy := ((ky.only hI6 hny).only ((Only.refl _ [xb]).set (p := ⟨xb, 0, none⟩) (.inl (by simp)) (.slice Bx (n + 1) dx)) (by simp; exact fun e => hxy e.symm)).cell 0
        refine MixL.nil ⟨?_, ?_, StepO.storeB (w1 := w6.setCell ⟨xb, 0, none⟩ (.slice Bx (n + 1) dx)) ?_ ?_ ?_⟩
        rotate_left 1
        (focus (first | (simp only [List.getElem?_toArray, List.getElem?_cons_succ, List.getElem?_cons_zero]; with_reducible rfl) | (simp only [List.getElem?_toArray, List.getElem?_cons_zero]; with_reducible rfl)))
        (focus rfl)
        (focus (go_simp <;> with_reducible rfl))
        simp only [Act.put, List.setIfInBounds_toArray, List.set_cons_zero, List.set_cons_succ]
        refine ChainL.store (o := ?_) (w1 := (w6.setCell ⟨xb, 0, none⟩ (.slice Bx (n + 1) dx)).setCell ⟨yb, 0, none⟩ (.slice By (n + 1) dy)) ?_ ?_ ?_ ?_ ?_
        rotate_left 1
        (focus (first | (simp only [List.getElem?_toArray, List.getElem?_cons_succ, List.getElem?_cons_zero]; with_reducible rfl) | (simp only [List.getElem?_toArray, List.getElem?_cons_zero]; with_reducible rfl)))
        (focus rfl)
        (focus (go_simp <;> with_reducible rfl))
        (focus trivial)
        simp only [Act.put, List.setIfInBounds_toArray, List.set_cons_zero, List.set_cons_succ]
        refine ChainL.nil ?_
        clear x0 y0 z0 z1 hlx hly hfx hfy hcy
        gi_wp2
        exact ⟨PE.1, PE.2.1, _, _, Lib.hid (by
          simp only [List.length_append, List.length_cons, List.length_nil, Nat.zero_add, List.map_append, List.map_cons, List.map_nil, intCells]
          rw [HPN.out]
          have := PE.2.2
          simpa [intCells] using this)⟩
    · have hI2 := only_alloc hI (.cells #[.int .i64 x.2] 3)
      refine MixL.does (o := ?_) (v := ?_) (w1 := ?_) ?_ ?_ ?_ ?_ ?_
      rotate_left 3
      (focus (first | (simp only [List.getElem?_toArray, List.getElem?_cons_succ, List.getElem?_cons_zero]; with_reducible rfl) | (simp only [List.getElem?_toArray, List.getElem?_cons_zero]; with_reducible rfl)))
      (focus rfl)
      (focus (go_simp; (constructor <;> with_reducible rfl)))
      (focus (exact hI2))
      simp only [Act.put, List.setIfInBounds_toArray, List.set_cons_zero, List.set_cons_succ]
      have ly1 := lists_newB wd (.int .i64 x.2) 3
      have ox1 := own_only oxd (Only.of_below (below_a1 wd (.cells #[.int .i64 x.2] 3)) []) (fun _ _ h => (nomatch h))
      have oy1 := own_only oyd (Only.of_below (below_a1 wd (.cells #[.int .i64 x.2] 3)) []) (fun _ _ h => (nomatch h))
      have hs1 : wd.heap.size + 1 = (wd.alloc (.cells #[.int .i64 x.2] 3)).heap.size := (World.size_alloc _ _).symm
      obtain ⟨u1, hu1⟩ : ∃ u1, u1 = wd.alloc (.cells #[.int .i64 x.2] 3) := ⟨_, rfl⟩
      rw [← hu1] at ly1 ox1 oy1 hs1 hI2 ⊢
      clear hu1
      have hI1 := only_alloc hI2 (.cells #[.int .i64 x.1] 3)
      refine MixL.does (o := ?_) (v := ?_) (w1 := ?_) ?_ ?_ ?_ ?_ ?_
      rotate_left 3
      (focus (first | (simp only [List.getElem?_toArray, List.getElem?_cons_succ, List.getElem?_cons_zero]; with_reducible rfl) | (simp only [List.getElem?_toArray, List.getElem?_cons_zero]; with_reducible rfl)))
      (focus rfl)
      (focus (go_simp; (constructor <;> with_reducible rfl)))
      (focus (exact hI1))
      simp only [Act.put, List.setIfInBounds_toArray, List.set_cons_zero, List.set_cons_succ]
      have lx2 := lists_newB u1 (.int .i64 x.1) 3
      have ox2 := own_only ox1 (Only.of_below (below_a1 u1 (.cells #[.int .i64 x.1] 3)) []) (fun _ _ h => (nomatch h))
      have oy2 := own_only oy1 (Only.of_below (below_a1 u1 (.cells #[.int .i64 x.1] 3)) []) (fun _ _ h => (nomatch h))
      have ly2 := ly1.below (below_a1 u1 (.cells #[.int .i64 x.1] 3) |>.mono (by omega))
      have hs2 : u1.heap.size + 1 = (u1.alloc (.cells #[.int .i64 x.1] 3)).heap.size := (World.size_alloc _ _).symm
      obtain ⟨u2, hu2⟩ : ∃ u2, u2 = u1.alloc (.cells #[.int .i64 x.1] 3) := ⟨_, rfl⟩
      rw [← hu2] at lx2 ox2 oy2 hs2 hI1 ly2 ⊢
      clear hu2
      refine MixL.appendA (o := ?_) ?_ ?_ (.tmp 20) (.tmp 23) 86 ?_ nb 3 i0 (.int .i64 0) 1 8 Try.underlying86 hi hz0 hz1 hz2 rfl (by decide) _ n _ ?_ ox2 _ _ 1 1 _ ?_ lx2 rfl (by simp [Value.oneCell']) (by simp only [maxLen]; omega) (by omega) (by omega) ?_
      rotate_left 1
      (focus (first | (simp only [List.getElem?_toArray, List.getElem?_cons_succ, List.getElem?_cons_zero]; with_reducible rfl) | (simp only [List.getElem?_toArray, List.getElem?_cons_zero]; with_reducible rfl)))
      (focus rfl)
      (focus rfl)
      (focus rfl)
      (focus rfl)
      intro v4 w4 own4 hg4 hb4
      obtain ⟨oy4, hap4, on4⟩ := push_one ox2 oy2 hap own4 hg4 hb4
      have ly4 : Lists w4 (wd.heap.size + 1) _ _ := lists_onlyB ly2 on4 (by omega) (fun b hb hm => by have := own_ltB oxd b hm; omega)
      have hI4 := only_more hI1 on4 (fun b hb => .inl (List.mem_append_left _ hb))
      refine ⟨hI4, ?_⟩
      obtain ⟨Bx, dx, rfl, _, _⟩ := own_lists own4
      have hs3 := on4.size
      simp only [Act.put, List.setIfInBounds_toArray, List.set_cons_zero, List.set_cons_succ]
      repeat (first
        | (refine MixL.skip (o := ?_) ?_ ?_ ?_; rotate_left; (focus (first | (simp only [List.getElem?_toArray, List.getElem?_cons_succ, List.getElem?_cons_zero]; with_reducible rfl) | (simp only [List.getElem?_toArray, List.getElem?_cons_zero]; with_reducible rfl))); (focus rfl); simp only [Act.put, List.setIfInBounds_toArray, List.set_cons_zero, List.set_cons_succ])
        | (refine MixL.val (o := ?_) (v := ?_) ?_ ?_ ?_ ?_ ?_; rotate_left 2; (focus (first | (simp only [List.getElem?_toArray, List.getElem?_cons_succ, List.getElem?_cons_zero]; with_reducible rfl) | (simp only [List.getElem?_toArray, List.getElem?_cons_zero]; with_reducible rfl))); (focus (intro _ _ h; cases h)); (focus rfl); (focus (intro w' hJ; obtain ⟨x0, y0, z0, z1⟩ := HD.out _ hJ; go_simp <;> with_reducible rfl)); simp only [Act.put, List.setIfInBounds_toArray, List.set_cons_zero, List.set_cons_succ]))
      refine MixL.appendA (o := ?_) ?_ ?_ (.tmp 25) (.tmp 28) 86 ?_ nb 3 i0 (.int .i64 0) 1 8 Try.underlying86 hi hz0 hz1 hz2 rfl (by decide) _ n _ ?_ oy4 _ _ 1 1 _ ?_ ly4 rfl (by simp [Value.oneCell']) (by simp only [maxLen]; omega) (by omega) (by omega) ?_
      rotate_left 1
      (focus (first | (simp only [List.getElem?_toArray, List.getElem?_cons_succ, List.getElem?_cons_zero]; with_reducible rfl) | (simp only [List.getElem?_toArray, List.getElem?_cons_zero]; with_reducible rfl)))
      (focus rfl)
      (focus rfl)
      (focus rfl)
      (focus rfl)
      intro v6 w6 own6 hg6 hb6
      obtain ⟨ox6, hap6, on6⟩ := push_one oy4 own4 hap4.symm own6 hg6 hb6
      have hI6 := only_more hI4 on6 (fun b hb => .inl (List.mem_append_right _ hb))
      refine ⟨hI6, ?_⟩
      have hap7 := hap6.symm
      obtain ⟨By, dy, rfl, _, _⟩ := own_lists own6
      simp only [Act.put, List.setIfInBounds_toArray, List.set_cons_zero, List.set_cons_succ]
      repeat (first
        | (refine MixL.skip (o := ?_) ?_ ?_ ?_; rotate_left; (focus (first | (simp only [List.getElem?_toArray, List.getElem?_cons_succ, List.getElem?_cons_zero]; with_reducible rfl) | (simp only [List.getElem?_toArray, List.getElem?_cons_zero]; with_reducible rfl))); (focus rfl); simp only [Act.put, List.setIfInBounds_toArray, List.set_cons_zero, List.set_cons_succ])
        | (refine MixL.val (o := ?_) (v := ?_) ?_ ?_ ?_ ?_ ?_; rotate_left 2; (focus (first | (simp only [List.getElem?_toArray, List.getElem?_cons_succ, List.getElem?_cons_zero]; with_reducible rfl) | (simp only [List.getElem?_toArray, List.getElem?_cons_zero]; with_reducible rfl))); (focus (intro _ _ h; cases h)); (focus rfl); (focus (intro w' hJ; obtain ⟨x0, y0, z0, z1⟩ := HD.out _ hJ; go_simp <;> with_reducible rfl)); simp only [Act.put, List.setIfInBounds_toArray, List.set_cons_zero, List.set_cons_succ]))
      have PE := push_end (T := 86) (by decide) hxy kx ky ox oy hkp hnb hI6 ox6 own6 hap7 rfl
      have hD := HD.out _ hI6
      obtain ⟨x0, y0, z0, z1⟩ := hD
      have hlx : xb < w6.heap.size := Nat.lt_of_lt_of_le kx.lt hI6.size
      have hly : yb < w6.heap.size := Nat.lt_of_lt_of_le ky.lt hI6.size
      have hfx := (kx.only hI6 hnx).frozen 0
      have hfy := ((ky.only hI6 hny).only ((Only.refl _ [xb]).set (p := ⟨xb, 0, none⟩) (.inl (by simp)) (.slice Bx (n + 1) dx)) (by simp; exact fun e => hxy e.symm)).frozen 0
      have hcy := ((ky.only hI6 hny).only ((Only.refl _ [xb]).set (p := ⟨xb, 0, none⟩) (.inl (by simp)) (.slice Bx (n + 1) dx)) (by simp; exact fun e => hxy e.symm)).cell 0
      refine MixL.nil ⟨?_, ?_, StepO.storeB (w1 := w6.setCell ⟨xb, 0, none⟩ (.slice Bx (n + 1) dx)) ?_ ?_ ?_⟩
      rotate_left 1
      (focus (first | (simp only [List.getElem?_toArray, List.getElem?_cons_succ, List.getElem?_cons_zero]; with_reducible rfl) | (simp only [List.getElem?_toArray, List.getElem?_cons_zero]; with_reducible rfl)))
      (focus rfl)
      (focus (go_simp <;> with_reducible rfl))
      simp only [Act.put, List.setIfInBounds_toArray, List.set_cons_zero, List.set_cons_succ]
      refine ChainL.store (o := ?_) (w1 := (w6.setCell ⟨xb, 0, none⟩ (.slice Bx (n + 1) dx)).setCell ⟨yb, 0, none⟩ (.slice By (n + 1) dy)) ?_ ?_ ?_ ?_ ?_
      rotate_left 1
      (focus (first | (simp only [List.getElem?_toArray, List.getElem?_cons_succ, List.getElem?_cons_zero]; with_reducible rfl) | (simp only [List.getElem?_toArray, List.getElem?_cons_zero]; with_reducible rfl)))
      (focus rfl)
      (focus (go_simp <;> with_reducible rfl))
      (focus trivial)
      simp only [Act.put, List.setIfInBounds_toArray, List.set_cons_zero, List.set_cons_succ]
      refine ChainL.nil ?_
      clear x0 y0 z0 z1 hlx hly hfx hfy hcy
      gi_wp2
      exact ⟨PE.1, PE.2.1, _, _, Lib.hid (by
        simp only [List.length_append, List.length_cons, List.length_nil, Nat.zero_add, List.map_append, List.map_cons, List.map_nil, intCells]
        rw [HPN.out]
        have := PE.2.2
        simpa [intCells] using this)⟩
  case done =>
    rintro D xs V hD rfl ⟨vx, vy, H⟩ hK
    obtain ⟨kx1, ky1, ox, oy, hap, hkp⟩ := H.out
    obtain ⟨n, hn⟩ : ∃ n, n = Ls.flatten.length := ⟨_, rfl⟩
    rw [← hn] at ox oy
    obtain ⟨Ax, cx, rfl, lx, _⟩ := own_lists ox
    obtain ⟨Ay, cy, rfl, ly, _⟩ := own_lists oy
    have hsV := hkp.size
    have bV : Below w.heap.size w1 V := hkp.to (by have := HSZ.out; have := HBW.out.size; omega) (by simp; have := HSZ.out; omega)
    have kr := HKM.out.below (Below.refl _ _)
    have krV : Blk V w.heap.size 48 #[.int .i64 0, .int .i64 0, .int .i64 0, .int .i64 0] := hkp.blk kr (by have := HSZ.out; omega) (by have := HSZ.out; simp; omega)
    have CH : ∀ W, Below V.heap.size V W → Calls Try.prog 49 #[.slice Ax n cx, .slice Ay n cy] W fun e w' => e = .returned (.tuple #[.agg #[.int .i64 (hullD Ls.flatten).x0, .int .i64 (hullD Ls.flatten).y0, .int .i64 (hullD Ls.flatten).x1, .int .i64 (hullD Ls.flatten).y1], .int .i64 0]) ∧ Below W.heap.size W w' := by
      intro W hW
      by_cases h0 : Ls.flatten = []
      · have hn0 : n = 0 := by rw [hn, h0]; rfl
        rw [hn0, show hullD Ls.flatten = ⟨0, 0, 0, 0⟩ by unfold hullD; rw [if_pos h0]]
        exact hull_none Ax Ay cx cy W
      · have hp : 0 < n := by rw [hn]; exact List.length_pos_iff.2 h0
        have hc := HT1.out
        have hcf := cntF_flat Ls
        rw [show hullD Ls.flatten = hullQ (Ls.flatten.map fun d => d.1) (Ls.flatten.map fun d => d.2) by unfold hullD; rw [if_neg h0]]
        exact hull_some Ax Ay n cx cy V.heap.size V.heap.size _ _ W (by rw [List.length_map, hn]) (by rw [List.length_map, hn]) (by omega) hp (lx.below hW) (ly.below hW) hW.size hW.size (all_mayB1 HAL.out) (all_mayB2 HAL.out)
    have x0 := kx1.cell 0
    have y0 := ky1.cell 0
    have xl := kx1.lt
    have yl := ky1.lt
    simp only [List.getElem?_toArray, List.getElem?_cons_zero] at x0 y0
    have HHQ := hullD_in HAL.out
    obtain ⟨hx, hhx⟩ : ∃ hx, hx = hullD Ls.flatten := ⟨_, rfl⟩
    have HBX := Lib.hid (show bxF Ls.flatten = ⟨hx.x0 / 64, hx.y0 / 64, (hx.x1 + 63) / 64, (hx.y1 + 63) / 64⟩ by unfold bxF; rw [hhx])
    rw [← hhx] at CH HHQ
    have C0 := fun W => floor26_any hx.x0 W
    have C1 := fun W => floor26_any hx.y0 W
    have C2 := fun W => ceil26_any hx.x1 W (by omega) (by omega)
    have C3 := fun W => ceil26_any hx.y1 W (by omega) (by omega)
    rw [show hx.x0 / 64 = (bxF Ls.flatten).x0 by rw [HBX.out]] at C0
    rw [show hx.y0 / 64 = (bxF Ls.flatten).y0 by rw [HBX.out]] at C1
    rw [show (hx.x1 + 63) / 64 = (bxF Ls.flatten).x1 by rw [HBX.out]] at C2
    rw [show (hx.y1 + 63) / 64 = (bxF Ls.flatten).y1 by rw [HBX.out]] at C3
    have CE := fun W => empty_any (bxF Ls.flatten) W
    have HV0 := Lib.hid (And.intro krV (And.intro (HBW.out.trans bV) hK))
    clear hn kx1 ky1 ox oy hap hkp lx ly kr krV bV hhx HHQ kx hx1 BW HO J0 HKM
    go_upto_region 9 with (first
      | (go_at_call 49; (with_reducible refine (CH _ (Below.refl _ _)).mono ?_); rintro e w5 ⟨rfl, b5⟩; have HR9 := Lib.hid (Blk.new w5 48 #[.int .i64 0, .int .i64 0, .int .i64 0, .int .i64 0]); have HB5 := Lib.hid b5)
      | (refine wpList_store_row rfl 48 (.tmp 8) (.tmp 34) (by with_reducible rfl) w5.heap.size #[.int .i64 hx.x0, .int .i64 hx.y0, .int .i64 hx.x1, .int .i64 hx.y1] (by rfl) (by rfl) 48 #[.int .i64 0, .int .i64 0, .int .i64 0, .int .i64 0] (by exact HR9.out) flQInfo rfl (by simp [Value.oneCell']) ?_))
    obtain ⟨w6, hw6⟩ : ∃ w6, w6 = (w5.alloc (.cells #[.int .i64 0, .int .i64 0, .int .i64 0, .int .i64 0] 48)).setRow w5.heap.size #[.int .i64 hx.x0, .int .i64 hx.y0, .int .i64 hx.x1, .int .i64 hx.y1] := ⟨_, rfl⟩
    have B6 : Below w5.heap.size w5 w6 := hw6 ▸ below_setRow (g := w5.heap.size) (below_a1 _ _) (Nat.le_refl _) _
    have K6 : Blk w6 w5.heap.size 48 #[.int .i64 hx.x0, .int .i64 hx.y0, .int .i64 hx.x1, .int .i64 hx.y1] := by rw [hw6]; exact blk_row HR9.out _
    rw [← hw6]
    obtain ⟨hb8, hh8⟩ : ∃ hb8, hb8 = w5.heap.size := ⟨_, rfl⟩
    rw [← hh8] at K6 ⊢
    have B56 := HB5.out.trans (B6.mono HB5.out.size)
    have HV := Lib.hid (And.intro (HV0.out.1.below B56) (And.intro (HV0.out.2.1.trans (B56.mono HV0.out.2.1.size)) ((B56.block _ (Array.getElem?_eq_some_iff.1 HV0.out.2.2).1).trans HV0.out.2.2)))
    have h0 := K6.cell 0; have h1 := K6.cell 1; have h2 := K6.cell 2; have h3 := K6.cell 3; have hl := K6.lt; simp only [List.getElem?_toArray, List.getElem?_cons_succ, List.getElem?_cons_zero] at h0 h1 h2 h3
    have HD9 := Lib.hid (fun (U : World) (hU : Below w6.heap.size w6 U) => And.intro ((hU.cell (p := ⟨hb8, 0, none⟩) hl).trans h0) (And.intro ((hU.cell (p := ⟨hb8, 1, none⟩) hl).trans h1) (And.intro ((hU.cell (p := ⟨hb8, 2, none⟩) hl).trans h2) (And.intro ((hU.cell (p := ⟨hb8, 3, none⟩) hl).trans h3) (Nat.lt_of_lt_of_le hl hU.size)))))
    clear hw6 B6 K6 hh8 h0 h1 h2 h3 hl x0 y0 xl yl B56 CH
    go_cut [10] from 36 (fun p wx => ∃ ga, p = .pointer (some ⟨ga, 0, none⟩) ∧ Hid (Blk wx ga 48 #[.int .i64 (bxF Ls.flatten).x0, .int .i64 (bxF Ls.flatten).y0, .int .i64 (bxF Ls.flatten).x1, .int .i64 (bxF Ls.flatten).y1] ∧ Below w6.heap.size w6 wx ∧ w6.heap.size ≤ ga))
    case first =>
      have hI : Below w6.heap.size w6 w6.drew := (Below.refl _ _).drew
      refine wp_region_mix (fun V => Below w6.heap.size w6 V) (Mx.qs [0, 1, 3, 4, 6, 7, 9, 10] (.two 2 13 (.two 5 13 (.two 8 13 (.two 11 13 (.q 12 (.one 13 (.one 14 .leaf))) (.one 11 (.q 12 (.one 14 .leaf)))) (.one 8 (.one 11 (.q 12 (.one 14 .leaf))))) (.one 5 (.one 8 (.one 11 (.q 12 (.one 14 .leaf)))))) (.one 2 (.one 5 (.one 8 (.one 11 (.q 12 (.one 14 .leaf)))))))) (by kernel_rfl) (by kernel_rfl) hI ?_
      simp only [Mx.qs]
      obtain ⟨wd, hwd⟩ : ∃ wd, wd = w6.drew := ⟨_, rfl⟩
      rw [← hwd] at hI ⊢
      clear hwd
      repeat (first
        | (refine MixL.skip (o := ?_) ?_ ?_ ?_; rotate_left; (focus (first | (simp only [List.getElem?_toArray, List.getElem?_cons_succ, List.getElem?_cons_zero]; with_reducible rfl) | (simp only [List.getElem?_toArray, List.getElem?_cons_zero]; with_reducible rfl))); (focus rfl); simp only [Act.put, List.setIfInBounds_toArray, List.set_cons_zero, List.set_cons_succ])
        | (refine MixL.val (o := ?_) (v := ?_) ?_ ?_ ?_ ?_ ?_; rotate_left 2; (focus (first | (simp only [List.getElem?_toArray, List.getElem?_cons_succ, List.getElem?_cons_zero]; with_reducible rfl) | (simp only [List.getElem?_toArray, List.getElem?_cons_zero]; with_reducible rfl))); (focus (intro _ _ h; cases h)); (focus rfl); (focus (intro w' hJ; obtain ⟨h0, h1, h2, h3, hl⟩ := HD9.out _ hJ; go_simp <;> with_reducible rfl)); simp only [Act.put, List.setIfInBounds_toArray, List.set_cons_zero, List.set_cons_succ]))
      refine MixL.both ?_ ?_
      · refine MixL.call (o := ?_) (f := ?_) (args := ?_) ?_ ?_ ?_ ?_
        rotate_left 3
        (focus (first | (simp only [List.getElem?_toArray, List.getElem?_cons_succ, List.getElem?_cons_zero]; with_reducible rfl) | (simp only [List.getElem?_toArray, List.getElem?_cons_zero]; with_reducible rfl)))
        (focus rfl)
        (focus (go_simp; (constructor <;> with_reducible rfl)))
        with_reducible refine (C0 _).mono ?_
        rintro e w9 ⟨rfl, rfl⟩
        refine ⟨_, rfl, hI, ?_⟩
        simp only [Act.put, List.setIfInBounds_toArray, List.set_cons_zero, List.set_cons_succ]
        repeat (first
          | (refine MixL.skip (o := ?_) ?_ ?_ ?_; rotate_left; (focus (first | (simp only [List.getElem?_toArray, List.getElem?_cons_succ, List.getElem?_cons_zero]; with_reducible rfl) | (simp only [List.getElem?_toArray, List.getElem?_cons_zero]; with_reducible rfl))); (focus rfl); simp only [Act.put, List.setIfInBounds_toArray, List.set_cons_zero, List.set_cons_succ])
          | (refine MixL.val (o := ?_) (v := ?_) ?_ ?_ ?_ ?_ ?_; rotate_left 2; (focus (first | (simp only [List.getElem?_toArray, List.getElem?_cons_succ, List.getElem?_cons_zero]; with_reducible rfl) | (simp only [List.getElem?_toArray, List.getElem?_cons_zero]; with_reducible rfl))); (focus (intro _ _ h; cases h)); (focus rfl); (focus (intro w' hJ; obtain ⟨h0, h1, h2, h3, hl⟩ := HD9.out _ hJ; go_simp <;> with_reducible rfl)); simp only [Act.put, List.setIfInBounds_toArray, List.set_cons_zero, List.set_cons_succ]))
        refine MixL.both ?_ ?_
        · refine MixL.call (o := ?_) (f := ?_) (args := ?_) ?_ ?_ ?_ ?_
          rotate_left 3
          (focus (first | (simp only [List.getElem?_toArray, List.getElem?_cons_succ, List.getElem?_cons_zero]; with_reducible rfl) | (simp only [List.getElem?_toArray, List.getElem?_cons_zero]; with_reducible rfl)))
          (focus rfl)
          (focus (go_simp; (constructor <;> with_reducible rfl)))
          with_reducible refine (C1 _).mono ?_
          rintro e w9 ⟨rfl, rfl⟩
          refine ⟨_, rfl, hI, ?_⟩
          simp only [Act.put, List.setIfInBounds_toArray, List.set_cons_zero, List.set_cons_succ]
          repeat (first
            | (refine MixL.skip (o := ?_) ?_ ?_ ?_; rotate_left; (focus (first | (simp only [List.getElem?_toArray, List.getElem?_cons_succ, List.getElem?_cons_zero]; with_reducible rfl) | (simp only [List.getElem?_toArray, List.getElem?_cons_zero]; with_reducible rfl))); (focus rfl); simp only [Act.put, List.setIfInBounds_toArray, List.set_cons_zero, List.set_cons_succ])
            | (refine MixL.val (o := ?_) (v := ?_) ?_ ?_ ?_ ?_ ?_; rotate_left 2; (focus (first | (simp only [List.getElem?_toArray, List.getElem?_cons_succ, List.getElem?_cons_zero]; with_reducible rfl) | (simp only [List.getElem?_toArray, List.getElem?_cons_zero]; with_reducible rfl))); (focus (intro _ _ h; cases h)); (focus rfl); (focus (intro w' hJ; obtain ⟨h0, h1, h2, h3, hl⟩ := HD9.out _ hJ; go_simp <;> with_reducible rfl)); simp only [Act.put, List.setIfInBounds_toArray, List.set_cons_zero, List.set_cons_succ]))
          refine MixL.both ?_ ?_
          · refine MixL.call (o := ?_) (f := ?_) (args := ?_) ?_ ?_ ?_ ?_
            rotate_left 3
            (focus (first | (simp only [List.getElem?_toArray, List.getElem?_cons_succ, List.getElem?_cons_zero]; with_reducible rfl) | (simp only [List.getElem?_toArray, List.getElem?_cons_zero]; with_reducible rfl)))
            (focus rfl)
            (focus (go_simp; (constructor <;> with_reducible rfl)))
            with_reducible refine (C2 _).mono ?_
            rintro e w9 ⟨rfl, rfl⟩
            refine ⟨_, rfl, hI, ?_⟩
            simp only [Act.put, List.setIfInBounds_toArray, List.set_cons_zero, List.set_cons_succ]
            repeat (first
              | (refine MixL.skip (o := ?_) ?_ ?_ ?_; rotate_left; (focus (first | (simp only [List.getElem?_toArray, List.getElem?_cons_succ, List.getElem?_cons_zero]; with_reducible rfl) | (simp only [List.getElem?_toArray, List.getElem?_cons_zero]; with_reducible rfl))); (focus rfl); simp only [Act.put, List.setIfInBounds_toArray, List.set_cons_zero, List.set_cons_succ])
              | (refine MixL.val (o := ?_) (v := ?_) ?_ ?_ ?_ ?_ ?_; rotate_left 2; (focus (first | (simp only [List.getElem?_toArray, List.getElem?_cons_succ, List.getElem?_cons_zero]; with_reducible rfl) | (simp only [List.getElem?_toArray, List.getElem?_cons_zero]; with_reducible rfl))); (focus (intro _ _ h; cases h)); (focus rfl); (focus (intro w' hJ; obtain ⟨h0, h1, h2, h3, hl⟩ := HD9.out _ hJ; go_simp <;> with_reducible rfl)); simp only [Act.put, List.setIfInBounds_toArray, List.set_cons_zero, List.set_cons_succ]))
            refine MixL.both ?_ ?_
            · refine MixL.call (o := ?_) (f := ?_) (args := ?_) ?_ ?_ ?_ ?_
              rotate_left 3
              (focus (first | (simp only [List.getElem?_toArray, List.getElem?_cons_succ, List.getElem?_cons_zero]; with_reducible rfl) | (simp only [List.getElem?_toArray, List.getElem?_cons_zero]; with_reducible rfl)))
              (focus rfl)
              (focus (go_simp; (constructor <;> with_reducible rfl)))
              with_reducible refine (C3 _).mono ?_
              rintro e w9 ⟨rfl, rfl⟩
              refine ⟨_, rfl, hI, ?_⟩
              simp only [Act.put, List.setIfInBounds_toArray, List.set_cons_zero, List.set_cons_succ]
              repeat (first
                | (refine MixL.skip (o := ?_) ?_ ?_ ?_; rotate_left; (focus (first | (simp only [List.getElem?_toArray, List.getElem?_cons_succ, List.getElem?_cons_zero]; with_reducible rfl) | (simp only [List.getElem?_toArray, List.getElem?_cons_zero]; with_reducible rfl))); (focus rfl); simp only [Act.put, List.setIfInBounds_toArray, List.set_cons_zero, List.set_cons_succ])
                | (refine MixL.val (o := ?_) (v := ?_) ?_ ?_ ?_ ?_ ?_; rotate_left 2; (focus (first | (simp only [List.getElem?_toArray, List.getElem?_cons_succ, List.getElem?_cons_zero]; with_reducible rfl) | (simp only [List.getElem?_toArray, List.getElem?_cons_zero]; with_reducible rfl))); (focus (intro _ _ h; cases h)); (focus rfl); (focus (intro w' hJ; obtain ⟨h0, h1, h2, h3, hl⟩ := HD9.out _ hJ; go_simp <;> with_reducible rfl)); simp only [Act.put, List.setIfInBounds_toArray, List.set_cons_zero, List.set_cons_succ]))
              repeat (first
                | (refine MixL.skip (o := ?_) ?_ ?_ ?_; rotate_left; (focus (first | (simp only [List.getElem?_toArray, List.getElem?_cons_succ, List.getElem?_cons_zero]; with_reducible rfl) | (simp only [List.getElem?_toArray, List.getElem?_cons_zero]; with_reducible rfl))); (focus rfl); simp only [Act.put, List.setIfInBounds_toArray, List.set_cons_zero, List.set_cons_succ])
                | (refine MixL.val (o := ?_) (v := ?_) ?_ ?_ ?_ ?_ ?_; rotate_left 2; (focus (first | (simp only [List.getElem?_toArray, List.getElem?_cons_succ, List.getElem?_cons_zero]; with_reducible rfl) | (simp only [List.getElem?_toArray, List.getElem?_cons_zero]; with_reducible rfl))); (focus (intro _ _ h; cases h)); (focus rfl); (focus (intro w' hJ; obtain ⟨h0, h1, h2, h3, hl⟩ := HD9.out _ hJ; go_simp <;> with_reducible rfl)); simp only [Act.put, List.setIfInBounds_toArray, List.set_cons_zero, List.set_cons_succ]))
              have hIa := hI.alloc hI.size (.cells #[.int .i64 0, .int .i64 0, .int .i64 0, .int .i64 0] 48)
              refine MixL.does (o := ?_) (v := ?_) (w1 := ?_) ?_ ?_ ?_ ?_ ?_
              rotate_left 3
              (focus (first | (simp only [List.getElem?_toArray, List.getElem?_cons_succ, List.getElem?_cons_zero]; with_reducible rfl) | (simp only [List.getElem?_toArray, List.getElem?_cons_zero]; with_reducible rfl)))
              (focus rfl)
              (focus (go_simp; (constructor <;> with_reducible rfl)))
              (focus (exact hIa))
              simp only [Act.put, List.setIfInBounds_toArray, List.set_cons_zero, List.set_cons_succ]
              have K9 := Blk.new wd 48 #[.int .i64 0, .int .i64 0, .int .i64 0, .int .i64 0]
              have hS := below_setRow hIa hI.size #[.int .i64 (bxF Ls.flatten).x0, .int .i64 (bxF Ls.flatten).y0, .int .i64 (bxF Ls.flatten).x1, .int .i64 (bxF Ls.flatten).y1]
              refine MixL.store (o := ?_) (w1 := (wd.alloc (.cells #[.int .i64 0, .int .i64 0, .int .i64 0, .int .i64 0] 48)).setRow wd.heap.size #[.int .i64 (bxF Ls.flatten).x0, .int .i64 (bxF Ls.flatten).y0, .int .i64 (bxF Ls.flatten).x1, .int .i64 (bxF Ls.flatten).y1]) ?_ ?_ ?_ ?_ ?_
              rotate_left 1
              (focus (first | (simp only [List.getElem?_toArray, List.getElem?_cons_succ, List.getElem?_cons_zero]; with_reducible rfl) | (simp only [List.getElem?_toArray, List.getElem?_cons_zero]; with_reducible rfl)))
              (focus rfl)
              (focus (refine exec_store_row 48 _ _ (by rfl) wd.heap.size #[.int .i64 (bxF Ls.flatten).x0, .int .i64 (bxF Ls.flatten).y0, .int .i64 (bxF Ls.flatten).x1, .int .i64 (bxF Ls.flatten).y1] (by rfl) (by rfl) 48 #[.int .i64 0, .int .i64 0, .int .i64 0, .int .i64 0] K9 flQInfo rfl (by simp [Value.oneCell'])))
              (focus (exact hS))
              simp only [Act.put, List.setIfInBounds_toArray, List.set_cons_zero, List.set_cons_succ]
              refine MixL.nil ?_
              go_wp2
              go_meet
              exact ⟨wd.heap.size, rfl, Lib.hid ⟨blk_row K9 _, hS, hI.size⟩⟩
            · have hIa := hI.alloc hI.size (.cells #[.int .i64 0, .int .i64 0, .int .i64 0, .int .i64 0] 48)
              refine MixL.does (o := ?_) (v := ?_) (w1 := ?_) ?_ ?_ ?_ ?_ ?_
              rotate_left 3
              (focus (first | (simp only [List.getElem?_toArray, List.getElem?_cons_succ, List.getElem?_cons_zero]; with_reducible rfl) | (simp only [List.getElem?_toArray, List.getElem?_cons_zero]; with_reducible rfl)))
              (focus rfl)
              (focus (go_simp; (constructor <;> with_reducible rfl)))
              (focus (exact hIa))
              simp only [Act.put, List.setIfInBounds_toArray, List.set_cons_zero, List.set_cons_succ]
              refine MixL.call (o := ?_) (f := ?_) (args := ?_) ?_ ?_ ?_ ?_
              rotate_left 3
              (focus (first | (simp only [List.getElem?_toArray, List.getElem?_cons_succ, List.getElem?_cons_zero]; with_reducible rfl) | (simp only [List.getElem?_toArray, List.getElem?_cons_zero]; with_reducible rfl)))
              (focus rfl)
              (focus (go_simp; (constructor <;> with_reducible rfl)))
              with_reducible refine (C3 _).mono ?_
              rintro e w9 ⟨rfl, rfl⟩
              refine ⟨_, rfl, hIa, ?_⟩
              simp only [Act.put, List.setIfInBounds_toArray, List.set_cons_zero, List.set_cons_succ]
              repeat (first
                | (refine MixL.skip (o := ?_) ?_ ?_ ?_; rotate_left; (focus (first | (simp only [List.getElem?_toArray, List.getElem?_cons_succ, List.getElem?_cons_zero]; with_reducible rfl) | (simp only [List.getElem?_toArray, List.getElem?_cons_zero]; with_reducible rfl))); (focus rfl); simp only [Act.put, List.setIfInBounds_toArray, List.set_cons_zero, List.set_cons_succ])
                | (refine MixL.val (o := ?_) (v := ?_) ?_ ?_ ?_ ?_ ?_; rotate_left 2; (focus (first | (simp only [List.getElem?_toArray, List.getElem?_cons_succ, List.getElem?_cons_zero]; with_reducible rfl) | (simp only [List.getElem?_toArray, List.getElem?_cons_zero]; with_reducible rfl))); (focus (intro _ _ h; cases h)); (focus rfl); (focus (intro w' hJ; obtain ⟨h0, h1, h2, h3, hl⟩ := HD9.out _ hJ; go_simp <;> with_reducible rfl)); simp only [Act.put, List.setIfInBounds_toArray, List.set_cons_zero, List.set_cons_succ]))
              repeat (first
                | (refine MixL.skip (o := ?_) ?_ ?_ ?_; rotate_left; (focus (first | (simp only [List.getElem?_toArray, List.getElem?_cons_succ, List.getElem?_cons_zero]; with_reducible rfl) | (simp only [List.getElem?_toArray, List.getElem?_cons_zero]; with_reducible rfl))); (focus rfl); simp only [Act.put, List.setIfInBounds_toArray, List.set_cons_zero, List.set_cons_succ])
                | (refine MixL.val (o := ?_) (v := ?_) ?_ ?_ ?_ ?_ ?_; rotate_left 2; (focus (first | (simp only [List.getElem?_toArray, List.getElem?_cons_succ, List.getElem?_cons_zero]; with_reducible rfl) | (simp only [List.getElem?_toArray, List.getElem?_cons_zero]; with_reducible rfl))); (focus (intro _ _ h; cases h)); (focus rfl); (focus (intro w' hJ; obtain ⟨h0, h1, h2, h3, hl⟩ := HD9.out _ hJ; go_simp <;> with_reducible rfl)); simp only [Act.put, List.setIfInBounds_toArray, List.set_cons_zero, List.set_cons_succ]))
              have K9 := Blk.new wd 48 #[.int .i64 0, .int .i64 0, .int .i64 0, .int .i64 0]
              have hS := below_setRow hIa hI.size #[.int .i64 (bxF Ls.flatten).x0, .int .i64 (bxF Ls.flatten).y0, .int .i64 (bxF Ls.flatten).x1, .int .i64 (bxF Ls.flatten).y1]
              refine MixL.store (o := ?_) (w1 := (wd.alloc (.cells #[.int .i64 0, .int .i64 0, .int .i64 0, .int .i64 0] 48)).setRow wd.heap.size #[.int .i64 (bxF Ls.flatten).x0, .int .i64 (bxF Ls.flatten).y0, .int .i64 (bxF Ls.flatten).x1, .int .i64 (bxF Ls.flatten).y1]) ?_ ?_ ?_ ?_ ?_
              rotate_left 1
              (focus (first | (simp only [List.getElem?_toArray, List.getElem?_cons_succ, List.getElem?_cons_zero]; with_reducible rfl) | (simp only [List.getElem?_toArray, List.getElem?_cons_zero]; with_reducible rfl)))
              (focus rfl)
              (focus (refine exec_store_row 48 _ _ (by rfl) wd.heap.size #[.int .i64 (bxF Ls.flatten).x0, .int .i64 (bxF Ls.flatten).y0, .int .i64 (bxF Ls.flatten).x1, .int .i64 (bxF Ls.flatten).y1] (by rfl) (by rfl) 48 #[.int .i64 0, .int .i64 0, .int .i64 0, .int .i64 0] K9 flQInfo rfl (by simp [Value.oneCell'])))
              (focus (exact hS))
              simp only [Act.put, List.setIfInBounds_toArray, List.set_cons_zero, List.set_cons_succ]
              refine MixL.nil ?_
              go_wp2
              go_meet
              exact ⟨wd.heap.size, rfl, Lib.hid ⟨blk_row K9 _, hS, hI.size⟩⟩
          · have hIa := hI.alloc hI.size (.cells #[.int .i64 0, .int .i64 0, .int .i64 0, .int .i64 0] 48)
            refine MixL.does (o := ?_) (v := ?_) (w1 := ?_) ?_ ?_ ?_ ?_ ?_
            rotate_left 3
            (focus (first | (simp only [List.getElem?_toArray, List.getElem?_cons_succ, List.getElem?_cons_zero]; with_reducible rfl) | (simp only [List.getElem?_toArray, List.getElem?_cons_zero]; with_reducible rfl)))
            (focus rfl)
            (focus (go_simp; (constructor <;> with_reducible rfl)))
            (focus (exact hIa))
            simp only [Act.put, List.setIfInBounds_toArray, List.set_cons_zero, List.set_cons_succ]
            refine MixL.call (o := ?_) (f := ?_) (args := ?_) ?_ ?_ ?_ ?_
            rotate_left 3
            (focus (first | (simp only [List.getElem?_toArray, List.getElem?_cons_succ, List.getElem?_cons_zero]; with_reducible rfl) | (simp only [List.getElem?_toArray, List.getElem?_cons_zero]; with_reducible rfl)))
            (focus rfl)
            (focus (go_simp; (constructor <;> with_reducible rfl)))
            with_reducible refine (C2 _).mono ?_
            rintro e w9 ⟨rfl, rfl⟩
            refine ⟨_, rfl, hIa, ?_⟩
            simp only [Act.put, List.setIfInBounds_toArray, List.set_cons_zero, List.set_cons_succ]
            repeat (first
              | (refine MixL.skip (o := ?_) ?_ ?_ ?_; rotate_left; (focus (first | (simp only [List.getElem?_toArray, List.getElem?_cons_succ, List.getElem?_cons_zero]; with_reducible rfl) | (simp only [List.getElem?_toArray, List.getElem?_cons_zero]; with_reducible rfl))); (focus rfl); simp only [Act.put, List.setIfInBounds_toArray, List.set_cons_zero, List.set_cons_succ])
              | (refine MixL.val (o := ?_) (v := ?_) ?_ ?_ ?_ ?_ ?_; rotate_left 2; (focus (first | (simp only [List.getElem?_toArray, List.getElem?_cons_succ, List.getElem?_cons_zero]; with_reducible rfl) | (simp only [List.getElem?_toArray, List.getElem?_cons_zero]; with_reducible rfl))); (focus (intro _ _ h; cases h)); (focus rfl); (focus (intro w' hJ; obtain ⟨h0, h1, h2, h3, hl⟩ := HD9.out _ hJ; go_simp <;> with_reducible rfl)); simp only [Act.put, List.setIfInBounds_toArray, List.set_cons_zero, List.set_cons_succ]))
            refine MixL.call (o := ?_) (f := ?_) (args := ?_) ?_ ?_ ?_ ?_
            rotate_left 3
            (focus (first | (simp only [List.getElem?_toArray, List.getElem?_cons_succ, List.getElem?_cons_zero]; with_reducible rfl) | (simp only [List.getElem?_toArray, List.getElem?_cons_zero]; with_reducible rfl)))
            (focus rfl)
            (focus (go_simp; (constructor <;> with_reducible rfl)))
            with_reducible refine (C3 _).mono ?_
            rintro e w9 ⟨rfl, rfl⟩
            refine ⟨_, rfl, hIa, ?_⟩
            simp only [Act.put, List.setIfInBounds_toArray, List.set_cons_zero, List.set_cons_succ]
            repeat (first
              | (refine MixL.skip (o := ?_) ?_ ?_ ?_; rotate_left; (focus (first | (simp only [List.getElem?_toArray, List.getElem?_cons_succ, List.getElem?_cons_zero]; with_reducible rfl) | (simp only [List.getElem?_toArray, List.getElem?_cons_zero]; with_reducible rfl))); (focus rfl); simp only [Act.put, List.setIfInBounds_toArray, List.set_cons_zero, List.set_cons_succ])
              | (refine MixL.val (o := ?_) (v := ?_) ?_ ?_ ?_ ?_ ?_; rotate_left 2; (focus (first | (simp only [List.getElem?_toArray, List.getElem?_cons_succ, List.getElem?_cons_zero]; with_reducible rfl) | (simp only [List.getElem?_toArray, List.getElem?_cons_zero]; with_reducible rfl))); (focus (intro _ _ h; cases h)); (focus rfl); (focus (intro w' hJ; obtain ⟨h0, h1, h2, h3, hl⟩ := HD9.out _ hJ; go_simp <;> with_reducible rfl)); simp only [Act.put, List.setIfInBounds_toArray, List.set_cons_zero, List.set_cons_succ]))
            repeat (first
              | (refine MixL.skip (o := ?_) ?_ ?_ ?_; rotate_left; (focus (first | (simp only [List.getElem?_toArray, List.getElem?_cons_succ, List.getElem?_cons_zero]; with_reducible rfl) | (simp only [List.getElem?_toArray, List.getElem?_cons_zero]; with_reducible rfl))); (focus rfl); simp only [Act.put, List.setIfInBounds_toArray, List.set_cons_zero, List.set_cons_succ])
              | (refine MixL.val (o := ?_) (v := ?_) ?_ ?_ ?_ ?_ ?_; rotate_left 2; (focus (first | (simp only [List.getElem?_toArray, List.getElem?_cons_succ, List.getElem?_cons_zero]; with_reducible rfl) | (simp only [List.getElem?_toArray, List.getElem?_cons_zero]; with_reducible rfl))); (focus (intro _ _ h; cases h)); (focus rfl); (focus (intro w' hJ; obtain ⟨h0, h1, h2, h3, hl⟩ := HD9.out _ hJ; go_simp <;> with_reducible rfl)); simp only [Act.put, List.setIfInBounds_toArray, List.set_cons_zero, List.set_cons_succ]))
            have K9 := Blk.new wd 48 #[.int .i64 0, .int .i64 0, .int .i64 0, .int .i64 0]
            have hS := below_setRow hIa hI.size #[.int .i64 (bxF Ls.flatten).x0, .int .i64 (bxF Ls.flatten).y0, .int .i64 (bxF Ls.flatten).x1, .int .i64 (bxF Ls.flatten).y1]
            refine MixL.store (o := ?_) (w1 := (wd.alloc (.cells #[.int .i64 0, .int .i64 0, .int .i64 0, .int .i64 0] 48)).setRow wd.heap.size #[.int .i64 (bxF Ls.flatten).x0, .int .i64 (bxF Ls.flatten).y0, .int .i64 (bxF Ls.flatten).x1, .int .i64 (bxF Ls.flatten).y1]) ?_ ?_ ?_ ?_ ?_
            rotate_left 1
            (focus (first | (simp only [List.getElem?_toArray, List.getElem?_cons_succ, List.getElem?_cons_zero]; with_reducible rfl) | (simp only [List.getElem?_toArray, List.getElem?_cons_zero]; with_reducible rfl)))
            (focus rfl)
            (focus (refine exec_store_row 48 _ _ (by rfl) wd.heap.size #[.int .i64 (bxF Ls.flatten).x0, .int .i64 (bxF Ls.flatten).y0, .int .i64 (bxF Ls.flatten).x1, .int .i64 (bxF Ls.flatten).y1] (by rfl) (by rfl) 48 #[.int .i64 0, .int .i64 0, .int .i64 0, .int .i64 0] K9 flQInfo rfl (by simp [Value.oneCell'])))
            (focus (exact hS))
            simp only [Act.put, List.setIfInBounds_toArray, List.set_cons_zero, List.set_cons_succ]
            refine MixL.nil ?_
            go_wp2
            go_meet
            exact ⟨wd.heap.size, rfl, Lib.hid ⟨blk_row K9 _, hS, hI.size⟩⟩
        · have hIa := hI.alloc hI.size (.cells #[.int .i64 0, .int .i64 0, .int .i64 0, .int .i64 0] 48)
          refine MixL.does (o := ?_) (v := ?_) (w1 := ?_) ?_ ?_ ?_ ?_ ?_
          rotate_left 3
          (focus (first | (simp only [List.getElem?_toArray, List.getElem?_cons_succ, List.getElem?_cons_zero]; with_reducible rfl) | (simp only [List.getElem?_toArray, List.getElem?_cons_zero]; with_reducible rfl)))
          (focus rfl)
          (focus (go_simp; (constructor <;> with_reducible rfl)))
          (focus (exact hIa))
          simp only [Act.put, List.setIfInBounds_toArray, List.set_cons_zero, List.set_cons_succ]
          refine MixL.call (o := ?_) (f := ?_) (args := ?_) ?_ ?_ ?_ ?_
          rotate_left 3
          (focus (first | (simp only [List.getElem?_toArray, List.getElem?_cons_succ, List.getElem?_cons_zero]; with_reducible rfl) | (simp only [List.getElem?_toArray, List.getElem?_cons_zero]; with_reducible rfl)))
          (focus rfl)
          (focus (go_simp; (constructor <;> with_reducible rfl)))
          with_reducible refine (C1 _).mono ?_
          rintro e w9 ⟨rfl, rfl⟩
          refine ⟨_, rfl, hIa, ?_⟩
          simp only [Act.put, List.setIfInBounds_toArray, List.set_cons_zero, List.set_cons_succ]
          repeat (first
            | (refine MixL.skip (o := ?_) ?_ ?_ ?_; rotate_left; (focus (first | (simp only [List.getElem?_toArray, List.getElem?_cons_succ, List.getElem?_cons_zero]; with_reducible rfl) | (simp only [List.getElem?_toArray, List.getElem?_cons_zero]; with_reducible rfl))); (focus rfl); simp only [Act.put, List.setIfInBounds_toArray, List.set_cons_zero, List.set_cons_succ])
            | (refine MixL.val (o := ?_) (v := ?_) ?_ ?_ ?_ ?_ ?_; rotate_left 2; (focus (first | (simp only [List.getElem?_toArray, List.getElem?_cons_succ, List.getElem?_cons_zero]; with_reducible rfl) | (simp only [List.getElem?_toArray, List.getElem?_cons_zero]; with_reducible rfl))); (focus (intro _ _ h; cases h)); (focus rfl); (focus (intro w' hJ; obtain ⟨h0, h1, h2, h3, hl⟩ := HD9.out _ hJ; go_simp <;> with_reducible rfl)); simp only [Act.put, List.setIfInBounds_toArray, List.set_cons_zero, List.set_cons_succ]))
          refine MixL.call (o := ?_) (f := ?_) (args := ?_) ?_ ?_ ?_ ?_
          rotate_left 3
          (focus (first | (simp only [List.getElem?_toArray, List.getElem?_cons_succ, List.getElem?_cons_zero]; with_reducible rfl) | (simp only [List.getElem?_toArray, List.getElem?_cons_zero]; with_reducible rfl)))
          (focus rfl)
          (focus (go_simp; (constructor <;> with_reducible rfl)))
          with_reducible refine (C2 _).mono ?_
          rintro e w9 ⟨rfl, rfl⟩
          refine ⟨_, rfl, hIa, ?_⟩
          simp only [Act.put, List.setIfInBounds_toArray, List.set_cons_zero, List.set_cons_succ]
          repeat (first
            | (refine MixL.skip (o := ?_) ?_ ?_ ?_; rotate_left; (focus (first | (simp only [List.getElem?_toArray, List.getElem?_cons_succ, List.getElem?_cons_zero]; with_reducible rfl) | (simp only [List.getElem?_toArray, List.getElem?_cons_zero]; with_reducible rfl))); (focus rfl); simp only [Act.put, List.setIfInBounds_toArray, List.set_cons_zero, List.set_cons_succ])
            | (refine MixL.val (o := ?_) (v := ?_) ?_ ?_ ?_ ?_ ?_; rotate_left 2; (focus (first | (simp only [List.getElem?_toArray, List.getElem?_cons_succ, List.getElem?_cons_zero]; with_reducible rfl) | (simp only [List.getElem?_toArray, List.getElem?_cons_zero]; with_reducible rfl))); (focus (intro _ _ h; cases h)); (focus rfl); (focus (intro w' hJ; obtain ⟨h0, h1, h2, h3, hl⟩ := HD9.out _ hJ; go_simp <;> with_reducible rfl)); simp only [Act.put, List.setIfInBounds_toArray, List.set_cons_zero, List.set_cons_succ]))
          refine MixL.call (o := ?_) (f := ?_) (args := ?_) ?_ ?_ ?_ ?_
          rotate_left 3
          (focus (first | (simp only [List.getElem?_toArray, List.getElem?_cons_succ, List.getElem?_cons_zero]; with_reducible rfl) | (simp only [List.getElem?_toArray, List.getElem?_cons_zero]; with_reducible rfl)))
          (focus rfl)
          (focus (go_simp; (constructor <;> with_reducible rfl)))
          with_reducible refine (C3 _).mono ?_
          rintro e w9 ⟨rfl, rfl⟩
          refine ⟨_, rfl, hIa, ?_⟩
          simp only [Act.put, List.setIfInBounds_toArray, List.set_cons_zero, List.set_cons_succ]
          repeat (first
            | (refine MixL.skip (o := ?_) ?_ ?_ ?_; rotate_left; (focus (first | (simp only [List.getElem?_toArray, List.getElem?_cons_succ, List.getElem?_cons_zero]; with_reducible rfl) | (simp only [List.getElem?_toArray, List.getElem?_cons_zero]; with_reducible rfl))); (focus rfl); simp only [Act.put, List.setIfInBounds_toArray, List.set_cons_zero, List.set_cons_succ])
            | (refine MixL.val (o := ?_) (v := ?_) ?_ ?_ ?_ ?_ ?_; rotate_left 2; (focus (first | (simp only [List.getElem?_toArray, List.getElem?_cons_succ, List.getElem?_cons_zero]; with_reducible rfl) | (simp only [List.getElem?_toArray, List.getElem?_cons_zero]; with_reducible rfl))); (focus (intro _ _ h; cases h)); (focus rfl); (focus (intro w' hJ; obtain ⟨h0, h1, h2, h3, hl⟩ := HD9.out _ hJ; go_simp <;> with_reducible rfl)); simp only [Act.put, List.setIfInBounds_toArray, List.set_cons_zero, List.set_cons_succ]))
          repeat (first
            | (refine MixL.skip (o := ?_) ?_ ?_ ?_; rotate_left; (focus (first | (simp only [List.getElem?_toArray, List.getElem?_cons_succ, List.getElem?_cons_zero]; with_reducible rfl) | (simp only [List.getElem?_toArray, List.getElem?_cons_zero]; with_reducible rfl))); (focus rfl); simp only [Act.put, List.setIfInBounds_toArray, List.set_cons_zero, List.set_cons_succ])
            | (refine MixL.val (o := ?_) (v := ?_) ?_ ?_ ?_ ?_ ?_; rotate_left 2; (focus (first | (simp only [List.getElem?_toArray, List.getElem?_cons_succ, List.getElem?_cons_zero]; with_reducible rfl) | (simp only [List.getElem?_toArray, List.getElem?_cons_zero]; with_reducible rfl))); (focus (intro _ _ h; cases h)); (focus rfl); (focus (intro w' hJ; obtain ⟨h0, h1, h2, h3, hl⟩ := HD9.out _ hJ; go_simp <;> with_reducible rfl)); simp only [Act.put, List.setIfInBounds_toArray, List.set_cons_zero, List.set_cons_succ]))
          have K9 := Blk.new wd 48 #[.int .i64 0, .int .i64 0, .int .i64 0, .int .i64 0]
          have hS := below_setRow hIa hI.size #[.int .i64 (bxF Ls.flatten).x0, .int .i64 (bxF Ls.flatten).y0, .int .i64 (bxF Ls.flatten).x1, .int .i64 (bxF Ls.flatten).y1]
          refine MixL.store (o := ?_) (w1 := (wd.alloc (.cells #[.int .i64 0, .int .i64 0, .int .i64 0, .int .i64 0] 48)).setRow wd.heap.size #[.int .i64 (bxF Ls.flatten).x0, .int .i64 (bxF Ls.flatten).y0, .int .i64 (bxF Ls.flatten).x1, .int .i64 (bxF Ls.flatten).y1]) ?_ ?_ ?_ ?_ ?_
          rotate_left 1
          (focus (first | (simp only [List.getElem?_toArray, List.getElem?_cons_succ, List.getElem?_cons_zero]; with_reducible rfl) | (simp only [List.getElem?_toArray, List.getElem?_cons_zero]; with_reducible rfl)))
          (focus rfl)
          (focus (refine exec_store_row 48 _ _ (by rfl) wd.heap.size #[.int .i64 (bxF Ls.flatten).x0, .int .i64 (bxF Ls.flatten).y0, .int .i64 (bxF Ls.flatten).x1, .int .i64 (bxF Ls.flatten).y1] (by rfl) (by rfl) 48 #[.int .i64 0, .int .i64 0, .int .i64 0, .int .i64 0] K9 flQInfo rfl (by simp [Value.oneCell'])))
          (focus (exact hS))
          simp only [Act.put, List.setIfInBounds_toArray, List.set_cons_zero, List.set_cons_succ]
          refine MixL.nil ?_
          go_wp2
          go_meet
          exact ⟨wd.heap.size, rfl, Lib.hid ⟨blk_row K9 _, hS, hI.size⟩⟩
      · have hIa := hI.alloc hI.size (.cells #[.int .i64 0, .int .i64 0, .int .i64 0, .int .i64 0] 48)
        refine MixL.does (o := ?_) (v := ?_) (w1 := ?_) ?_ ?_ ?_ ?_ ?_
        rotate_left 3
        (focus (first | (simp only [List.getElem?_toArray, List.getElem?_cons_succ, List.getElem?_cons_zero]; with_reducible rfl) | (simp only [List.getElem?_toArray, List.getElem?_cons_zero]; with_reducible rfl)))
        (focus rfl)
        (focus (go_simp; (constructor <;> with_reducible rfl)))
        (focus (exact hIa))
        simp only [Act.put, List.setIfInBounds_toArray, List.set_cons_zero, List.set_cons_succ]
        refine MixL.call (o := ?_) (f := ?_) (args := ?_) ?_ ?_ ?_ ?_
        rotate_left 3
        (focus (first | (simp only [List.getElem?_toArray, List.getElem?_cons_succ, List.getElem?_cons_zero]; with_reducible rfl) | (simp only [List.getElem?_toArray, List.getElem?_cons_zero]; with_reducible rfl)))
        (focus rfl)
        (focus (go_simp; (constructor <;> with_reducible rfl)))
        with_reducible refine (C0 _).mono ?_
        rintro e w9 ⟨rfl, rfl⟩
        refine ⟨_, rfl, hIa, ?_⟩
        simp only [Act.put, List.setIfInBounds_toArray, List.set_cons_zero, List.set_cons_succ]
        repeat (first
          | (refine MixL.skip (o := ?_) ?_ ?_ ?_; rotate_left; (focus (first | (simp only [List.getElem?_toArray, List.getElem?_cons_succ, List.getElem?_cons_zero]; with_reducible rfl) | (simp only [List.getElem?_toArray, List.getElem?_cons_zero]; with_reducible rfl))); (focus rfl); simp only [Act.put, List.setIfInBounds_toArray, List.set_cons_zero, List.set_cons_succ])
          | (refine MixL.val (o := ?_) (v := ?_) ?_ ?_ ?_ ?_ ?_; rotate_left 2; (focus (first | (simp only [List.getElem?_toArray, List.getElem?_cons_succ, List.getElem?_cons_zero]; with_reducible rfl) | (simp only [List.getElem?_toArray, List.getElem?_cons_zero]; with_reducible rfl))); (focus (intro _ _ h; cases h)); (focus rfl); (focus (intro w' hJ; obtain ⟨h0, h1, h2, h3, hl⟩ := HD9.out _ hJ; go_simp <;> with_reducible rfl)); simp only [Act.put, List.setIfInBounds_toArray, List.set_cons_zero, List.set_cons_succ]))
        refine MixL.call (o := ?_) (f := ?_) (args := ?_) ?_ ?_ ?_ ?_
        rotate_left 3
        (focus (first | (simp only [List.getElem?_toArray, List.getElem?_cons_succ, List.getElem?_cons_zero]; with_reducible rfl) | (simp only [List.getElem?_toArray, List.getElem?_cons_zero]; with_reducible rfl)))
        (focus rfl)
        (focus (go_simp; (constructor <;> with_reducible rfl)))
        with_reducible refine (C1 _).mono ?_
        rintro e w9 ⟨rfl, rfl⟩
        refine ⟨_, rfl, hIa, ?_⟩
        simp only [Act.put, List.setIfInBounds_toArray, List.set_cons_zero, List.set_cons_succ]
        repeat (first
          | (refine MixL.skip (o := ?_) ?_ ?_ ?_; rotate_left; (focus (first | (simp only [List.getElem?_toArray, List.getElem?_cons_succ, List.getElem?_cons_zero]; with_reducible rfl) | (simp only [List.getElem?_toArray, List.getElem?_cons_zero]; with_reducible rfl))); (focus rfl); simp only [Act.put, List.setIfInBounds_toArray, List.set_cons_zero, List.set_cons_succ])
          | (refine MixL.val (o := ?_) (v := ?_) ?_ ?_ ?_ ?_ ?_; rotate_left 2; (focus (first | (simp only [List.getElem?_toArray, List.getElem?_cons_succ, List.getElem?_cons_zero]; with_reducible rfl) | (simp only [List.getElem?_toArray, List.getElem?_cons_zero]; with_reducible rfl))); (focus (intro _ _ h; cases h)); (focus rfl); (focus (intro w' hJ; obtain ⟨h0, h1, h2, h3, hl⟩ := HD9.out _ hJ; go_simp <;> with_reducible rfl)); simp only [Act.put, List.setIfInBounds_toArray, List.set_cons_zero, List.set_cons_succ]))
        refine MixL.call (o := ?_) (f := ?_) (args := ?_) ?_ ?_ ?_ ?_
        rotate_left 3
        (focus (first | (simp only [List.getElem?_toArray, List.getElem?_cons_succ, List.getElem?_cons_zero]; with_reducible rfl) | (simp only [List.getElem?_toArray, List.getElem?_cons_zero]; with_reducible rfl)))
        (focus rfl)
        (focus (go_simp; (constructor <;> with_reducible rfl)))
        with_reducible refine (C2 _).mono ?_
        rintro e w9 ⟨rfl, rfl⟩
        refine ⟨_, rfl, hIa, ?_⟩
        simp only [Act.put, List.setIfInBounds_toArray, List.set_cons_zero, List.set_cons_succ]
        repeat (first
          | (refine MixL.skip (o := ?_) ?_ ?_ ?_; rotate_left; (focus (first | (simp only [List.getElem?_toArray, List.getElem?_cons_succ, List.getElem?_cons_zero]; with_reducible rfl) | (simp only [List.getElem?_toArray, List.getElem?_cons_zero]; with_reducible rfl))); (focus rfl); simp only [Act.put, List.setIfInBounds_toArray, List.set_cons_zero, List.set_cons_succ])
          | (refine MixL.val (o := ?_) (v := ?_) ?_ ?_ ?_ ?_ ?_; rotate_left 2; (focus (first | (simp only [List.getElem?_toArray, List.getElem?_cons_succ, List.getElem?_cons_zero]; with_reducible rfl) | (simp only [List.getElem?_toArray, List.getElem?_cons_zero]; with_reducible rfl))); (focus (intro _ _ h; cases h)); (focus rfl); (focus (intro w' hJ; obtain ⟨h0, h1, h2, h3, hl⟩ := HD9.out _ hJ; go_simp <;> with_reducible rfl)); simp only [Act.put, List.setIfInBounds_toArray, List.set_cons_zero, List.set_cons_succ]))
        refine MixL.call (o := ?_) (f := ?_) (args := ?_) ?_ ?_ ?_ ?_
        rotate_left 3
        (focus (first | (simp only [List.getElem?_toArray, List.getElem?_cons_succ, List.getElem?_cons_zero]; with_reducible rfl) | (simp only [List.getElem?_toArray, List.getElem?_cons_zero]; with_reducible rfl)))
        (focus rfl)
        (focus (go_simp; (constructor <;> with_reducible rfl)))
        with_reducible refine (C3 _).mono ?_
        rintro e w9 ⟨rfl, rfl⟩
        refine ⟨_, rfl, hIa, ?_⟩
        simp only [Act.put, List.setIfInBounds_toArray, List.set_cons_zero, List.set_cons_succ]
        repeat (first
          | (refine MixL.skip (o := ?_) ?_ ?_ ?_; rotate_left; (focus (first | (simp only [List.getElem?_toArray, List.getElem?_cons_succ, List.getElem?_cons_zero]; with_reducible rfl) | (simp only [List.getElem?_toArray, List.getElem?_cons_zero]; with_reducible rfl))); (focus rfl); simp only [Act.put, List.setIfInBounds_toArray, List.set_cons_zero, List.set_cons_succ])
          | (refine MixL.val (o := ?_) (v := ?_) ?_ ?_ ?_ ?_ ?_; rotate_left 2; (focus (first | (simp only [List.getElem?_toArray, List.getElem?_cons_succ, List.getElem?_cons_zero]; with_reducible rfl) | (simp only [List.getElem?_toArray, List.getElem?_cons_zero]; with_reducible rfl))); (focus (intro _ _ h; cases h)); (focus rfl); (focus (intro w' hJ; obtain ⟨h0, h1, h2, h3, hl⟩ := HD9.out _ hJ; go_simp <;> with_reducible rfl)); simp only [Act.put, List.setIfInBounds_toArray, List.set_cons_zero, List.set_cons_succ]))
        repeat (first
          | (refine MixL.skip (o := ?_) ?_ ?_ ?_; rotate_left; (focus (first | (simp only [List.getElem?_toArray, List.getElem?_cons_succ, List.getElem?_cons_zero]; with_reducible rfl) | (simp only [List.getElem?_toArray, List.getElem?_cons_zero]; with_reducible rfl))); (focus rfl); simp only [Act.put, List.setIfInBounds_toArray, List.set_cons_zero, List.set_cons_succ])
          | (refine MixL.val (o := ?_) (v := ?_) ?_ ?_ ?_ ?_ ?_; rotate_left 2; (focus (first | (simp only [List.getElem?_toArray, List.getElem?_cons_succ, List.getElem?_cons_zero]; with_reducible rfl) | (simp only [List.getElem?_toArray, List.getElem?_cons_zero]; with_reducible rfl))); (focus (intro _ _ h; cases h)); (focus rfl); (focus (intro w' hJ; obtain ⟨h0, h1, h2, h3, hl⟩ := HD9.out _ hJ; go_simp <;> with_reducible rfl)); simp only [Act.put, List.setIfInBounds_toArray, List.set_cons_zero, List.set_cons_succ]))
        have K9 := Blk.new wd 48 #[.int .i64 0, .int .i64 0, .int .i64 0, .int .i64 0]
        have hS := below_setRow hIa hI.size #[.int .i64 (bxF Ls.flatten).x0, .int .i64 (bxF Ls.flatten).y0, .int .i64 (bxF Ls.flatten).x1, .int .i64 (bxF Ls.flatten).y1]
        refine MixL.store (o := ?_) (w1 := (wd.alloc (.cells #[.int .i64 0, .int .i64 0, .int .i64 0, .int .i64 0] 48)).setRow wd.heap.size #[.int .i64 (bxF Ls.flatten).x0, .int .i64 (bxF Ls.flatten).y0, .int .i64 (bxF Ls.flatten).x1, .int .i64 (bxF Ls.flatten).y1]) ?_ ?_ ?_ ?_ ?_
        rotate_left 1
        (focus (first | (simp only [List.getElem?_toArray, List.getElem?_cons_succ, List.getElem?_cons_zero]; with_reducible rfl) | (simp only [List.getElem?_toArray, List.getElem?_cons_zero]; with_reducible rfl)))
        (focus rfl)
        (focus (refine exec_store_row 48 _ _ (by rfl) wd.heap.size #[.int .i64 (bxF Ls.flatten).x0, .int .i64 (bxF Ls.flatten).y0, .int .i64 (bxF Ls.flatten).x1, .int .i64 (bxF Ls.flatten).y1] (by rfl) (by rfl) 48 #[.int .i64 0, .int .i64 0, .int .i64 0, .int .i64 0] K9 flQInfo rfl (by simp [Value.oneCell'])))
        (focus (exact hS))
        simp only [Act.put, List.setIfInBounds_toArray, List.set_cons_zero, List.set_cons_succ]
        refine MixL.nil ?_
        go_wp2
        go_meet
        exact ⟨wd.heap.size, rfl, Lib.hid ⟨blk_row K9 _, hS, hI.size⟩⟩
    case rest =>
      obtain ⟨ga, rfl, HG⟩ := hcut
      have KG := HG.out.1
      have j0 := KG.cell 0; have j1 := KG.cell 1; have j2 := KG.cell 2; have j3 := KG.cell 3; have jl := KG.lt; simp only [List.getElem?_toArray, List.getElem?_cons_succ, List.getElem?_cons_zero] at j0 j1 j2 j3
      clear KG C0 C1 C2 C3
      cases hem : emptyQ (bxF Ls.flatten)
      · have HR := Lib.hid (show boxF Ls = bxF Ls.flatten by unfold boxF; rw [hem]; rfl)
        rw [hem] at CE
        clear hem
        go_wp2_with (first
          | (go_at_call 52; (with_reducible refine (CE _).mono ?_); rintro e w7 ⟨rfl, b7⟩; have H7 := Lib.hid (HG.out.1.below b7); have HB7 := Lib.hid (HV.out.2.1.trans ((HG.out.2.1.trans (b7.mono HG.out.2.1.size)).mono HV.out.2.1.size)); have HK7 := Lib.hid (((HG.out.2.1.trans (b7.mono HG.out.2.1.size)).block _ (Array.getElem?_eq_some_iff.1 HV.out.2.2).1).trans HV.out.2.2); have H8 := Lib.hid (HV.out.1.below (HG.out.2.1.trans (b7.mono HG.out.2.1.size))); have KG7 := H7.out; have j0 := KG7.cell 0; have j1 := KG7.cell 1; have j2 := KG7.cell 2; have j3 := KG7.cell 3; have jl := KG7.lt; simp only [List.getElem?_toArray, List.getElem?_cons_succ, List.getElem?_cons_zero] at j0 j1 j2 j3)
          | (refine wpList_store_row rfl 48 (.tmp 2) (.tmp 52) (by with_reducible rfl) w.heap.size #[.int .i64 (bxF Ls.flatten).x0, .int .i64 (bxF Ls.flatten).y0, .int .i64 (bxF Ls.flatten).x1, .int .i64 (bxF Ls.flatten).y1] (by rfl) (by rfl) 48 #[.int .i64 0, .int .i64 0, .int .i64 0, .int .i64 0] (by exact H8.out) flQInfo rfl (by simp [Value.oneCell']) ?_))
        have K5 := blk_row H8.out #[.int .i64 (bxF Ls.flatten).x0, .int .i64 (bxF Ls.flatten).y0, .int .i64 (bxF Ls.flatten).x1, .int .i64 (bxF Ls.flatten).y1]
        have hD8 : (w7.setRow w.heap.size #[.int .i64 (bxF Ls.flatten).x0, .int .i64 (bxF Ls.flatten).y0, .int .i64 (bxF Ls.flatten).x1, .int .i64 (bxF Ls.flatten).y1]).heap[D]? = some (.deferred (some [])) := (setRow_other w7 w.heap.size D #[.int .i64 (bxF Ls.flatten).x0, .int .i64 (bxF Ls.flatten).y0, .int .i64 (bxF Ls.flatten).x1, .int .i64 (bxF Ls.flatten).y1] (fun e => by subst e; have := HK7.out; rw [show w7.heap[w.heap.size]? = _ from H8.out] at this; cases this)).trans HK7.out
        refine retM1 rfl hD8 (v := .tuple #[.agg #[.int .i64 (bxF Ls.flatten).x0, .int .i64 (bxF Ls.flatten).y0, .int .i64 (bxF Ls.flatten).x1, .int .i64 (bxF Ls.flatten).y1], .int .i64 0]) (results_row_tmp Try.results21 _ _ w.heap.size 48 #[.int .i64 (bxF Ls.flatten).x0, .int .i64 (bxF Ls.flatten).y0, .int .i64 (bxF Ls.flatten).x1, .int .i64 (bxF Ls.flatten).y1] (0, 0) _ (.int .i64 0) (by rfl) (by rfl) (put_blk hD8 K5 _) Try.underlying48 rfl (by kernel_rfl)) ⟨by rw [HR.out], ?_⟩
        exact (HB7.out.trans ((only_row (Only.refl _ _) (.inl (by simp)) _ : Only _ _ [w.heap.size]).to_below HB7.out.size (by simp))).trans (put_below (by have := HBW.out.size; omega) _)
      · have HR := Lib.hid (show boxF Ls = ⟨0, 0, 0, 0⟩ by unfold boxF; rw [hem]; rfl)
        rw [hem] at CE
        clear hem
        go_wp2_with (first
          | (go_at_call 52; (with_reducible refine (CE _).mono ?_); rintro e w7 ⟨rfl, b7⟩; have H7 := Lib.hid (HG.out.1.below b7); have HB7 := Lib.hid (HV.out.2.1.trans ((HG.out.2.1.trans (b7.mono HG.out.2.1.size)).mono HV.out.2.1.size)); have HK7 := Lib.hid (((HG.out.2.1.trans (b7.mono HG.out.2.1.size)).block _ (Array.getElem?_eq_some_iff.1 HV.out.2.2).1).trans HV.out.2.2); have H8 := Lib.hid (HV.out.1.below (HG.out.2.1.trans (b7.mono HG.out.2.1.size))); have KG7 := H7.out; have j0 := KG7.cell 0; have j1 := KG7.cell 1; have j2 := KG7.cell 2; have j3 := KG7.cell 3; have jl := KG7.lt; simp only [List.getElem?_toArray, List.getElem?_cons_succ, List.getElem?_cons_zero] at j0 j1 j2 j3)
          | (refine wpList_store_row rfl 48 (.tmp 2) (.tmp 51) (by with_reducible rfl) w.heap.size #[.int .i64 0, .int .i64 0, .int .i64 0, .int .i64 0] (by rfl) (by rfl) 48 #[.int .i64 0, .int .i64 0, .int .i64 0, .int .i64 0] (by exact H8.out) flQInfo rfl (by simp [Value.oneCell']) ?_))
        have K5 := blk_row H8.out #[.int .i64 0, .int .i64 0, .int .i64 0, .int .i64 0]
        have hD8 : (w7.setRow w.heap.size #[.int .i64 0, .int .i64 0, .int .i64 0, .int .i64 0]).heap[D]? = some (.deferred (some [])) := (setRow_other w7 w.heap.size D #[.int .i64 0, .int .i64 0, .int .i64 0, .int .i64 0] (fun e => by subst e; have := HK7.out; rw [show w7.heap[w.heap.size]? = _ from H8.out] at this; cases this)).trans HK7.out
        refine retM1 rfl hD8 (v := .tuple #[.agg #[.int .i64 0, .int .i64 0, .int .i64 0, .int .i64 0], .int .i64 0]) (results_row_tmp Try.results21 _ _ w.heap.size 48 #[.int .i64 0, .int .i64 0, .int .i64 0, .int .i64 0] (0, 0) _ (.int .i64 0) (by rfl) (by rfl) (put_blk hD8 K5 _) Try.underlying48 rfl (by kernel_rfl)) ⟨by rw [HR.out], ?_⟩
        exact (HB7.out.trans ((only_row (Only.refl _ _) (.inl (by simp)) _ : Only _ _ [w.heap.size]).to_below HB7.out.size (by simp))).trans (put_below (by have := HBW.out.size; omega) _)
  case stop =>
    rintro D cc pre V hD hSp hf hK
    exact hf.elim
end Go.Proofs.Ytlacjifnniahhaa
