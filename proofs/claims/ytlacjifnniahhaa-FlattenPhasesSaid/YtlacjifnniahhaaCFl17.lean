/- Part 18 of the proof: FlP. -/
import Derived.Deep.Cut
import Derived.Deep.CutBlock
import Derived.RangeFuncKeeps
import Derived.RangeFuncCalls
import Derived.RangeFuncLeaves
import Derived.RangeFuncFrom
import Derived.RangeFuncNested
import Derived.RangeFuncBound
import Derived.Shelf.Abstract
import Derived.Shelf.RegionOpen
import Derived.WalkKit
import Derived.OwnWalkIn
import Derived.TacticsInMore
import Derived.LoopNIn
import Derived.LoopIn
import Derived.Maps.OwnIn
import Derived.Deep.WholeRow
import Derived.Test.YtlacjifnniahhaaCFl16

namespace Go.Proofs.Ytlacjifnniahhaa
open Go Go.RowKit Go.Shelf
attribute [local go_sem] Oper.semAt_some
set_option linter.unusedVariables false
set_option linter.unusedSimpArgs false

def okCv (s : Sc) (x : Cv) : Bool := decide (dotE s x.2.1.1 x.2.1.2.1 = 0) && decide (dotE s x.2.2.1.1 x.2.2.1.2.1 = 0) && decide (dotE s x.2.2.2.1.1 x.2.2.2.1.2.1 = 0) && decide (dotE s x.2.2.2.2.1 x.2.2.2.2.2.1 = 0)
def bowCv (s : Sc) (x : Cv) : Bw := ⟨x.1, (dotQ s x.2.1.1 x.2.1.2.1).1, (dotQ s x.2.1.1 x.2.1.2.1).2, (dotQ s x.2.2.1.1 x.2.2.1.2.1).1, (dotQ s x.2.2.1.1 x.2.2.1.2.1).2, (dotQ s x.2.2.2.1.1 x.2.2.2.1.2.1).1, (dotQ s x.2.2.2.1.1 x.2.2.2.1.2.1).2, (dotQ s x.2.2.2.2.1 x.2.2.2.2.2.1).1, (dotQ s x.2.2.2.2.1 x.2.2.2.2.2.1).2⟩
theorem ptInfo3 : (Try.prog.info? 25).map (·.size) = some 3 := by kernel_rfl
theorem t98Info : (Try.prog.info? 98).map (·.size) = some 12 := by kernel_rfl
theorem t99Info : (Try.prog.info? 99).map (·.size) = some 8 := by kernel_rfl
theorem bwInfoB : (Try.prog.info? 70).map (fun i => (i.zero, i.size, i.bytes)) = some (some (.agg #[.int .i64 0, .int .i64 0, .int .i64 0, .int .i64 0, .int .i64 0, .int .i64 0, .int .i64 0, .int .i64 0, .int .i64 0]), 9, 72) := by kernel_rfl
set_option maxRecDepth 100000 in
theorem idxP0 (a0 a1 a2 b0 b1 b2 c0 c1 c2 d0 d1 d2 : Int) (w : World) : (Instr.index 98 (.agg #[.int .i64 a0, .int .i64 a1, .int .i64 a2, .int .i64 b0, .int .i64 b1, .int .i64 b2, .int .i64 c0, .int .i64 c1, .int .i64 c2, .int .i64 d0, .int .i64 d1, .int .i64 d2]) (.int .i64 0)).run Try.prog w = .ok (.agg #[.int .i64 a0, .int .i64 a1, .int .i64 a2]) w := rfl
set_option maxRecDepth 100000 in
theorem idxP1 (a0 a1 a2 b0 b1 b2 c0 c1 c2 d0 d1 d2 : Int) (w : World) : (Instr.index 98 (.agg #[.int .i64 a0, .int .i64 a1, .int .i64 a2, .int .i64 b0, .int .i64 b1, .int .i64 b2, .int .i64 c0, .int .i64 c1, .int .i64 c2, .int .i64 d0, .int .i64 d1, .int .i64 d2]) (.int .i64 1)).run Try.prog w = .ok (.agg #[.int .i64 b0, .int .i64 b1, .int .i64 b2]) w := rfl
set_option maxRecDepth 100000 in
theorem idxP2 (a0 a1 a2 b0 b1 b2 c0 c1 c2 d0 d1 d2 : Int) (w : World) : (Instr.index 98 (.agg #[.int .i64 a0, .int .i64 a1, .int .i64 a2, .int .i64 b0, .int .i64 b1, .int .i64 b2, .int .i64 c0, .int .i64 c1, .int .i64 c2, .int .i64 d0, .int .i64 d1, .int .i64 d2]) (.int .i64 2)).run Try.prog w = .ok (.agg #[.int .i64 c0, .int .i64 c1, .int .i64 c2]) w := rfl
set_option maxRecDepth 100000 in
theorem idxP3 (a0 a1 a2 b0 b1 b2 c0 c1 c2 d0 d1 d2 : Int) (w : World) : (Instr.index 98 (.agg #[.int .i64 a0, .int .i64 a1, .int .i64 a2, .int .i64 b0, .int .i64 b1, .int .i64 b2, .int .i64 c0, .int .i64 c1, .int .i64 c2, .int .i64 d0, .int .i64 d1, .int .i64 d2]) (.int .i64 3)).run Try.prog w = .ok (.agg #[.int .i64 d0, .int .i64 d1, .int .i64 d2]) w := rfl
theorem dotE_ten {s : Sc} {x y : Int} (h : mscB s = true) (he : dotE s x y ≠ 0) : dotE s x y = 10 := by
  unfold dotE at he ⊢
  rw [if_pos h] at he ⊢
  split at he
  · exact absurd rfl he
  · rename_i h1; rw [if_neg h1]
/-- What bowsOf hands back. -/
def BowsP (s : Sc) (cs : List Cv) (w : World) (e : Ending) (w' : World) : Prop := ∃ v, e = .returned (.tuple #[v, .int .i64 (if cs.all (okCv s) then 0 else 10)]) ∧ (cs.all (okCv s) = true → w'.ownsRow w.heap.size 70 9 v cs.length ((cs.map (bowCv s)).flatMap bwL)) ∧ (cs.all (okCv s) = false → v = .slice none 0 0) ∧ Below w.heap.size w w'
set_option maxRecDepth 100000 in
set_option maxHeartbeats 8000000 in
theorem bowsof_any (s : Sc) (k3 z : Nat) (A : Option Addr) (cc : Nat) (Es : List (List Pt)) (w : World) (hms : mscB s = true) (hcell : w.cell? ⟨k3, 0, none⟩ = some (.slice A Es.length cc)) (hk3 : k3 < w.heap.size) (hOut : OutAt w z A Es) (hz : z ≤ w.heap.size) (hm : Es.length ≤ 100000) (hl : ∀ L ∈ Es, L.length ≤ 1000000) (hN : (Es.flatMap cvYs).length ≤ 1000000) :
    Calls Try.prog 37 #[.agg #[.int .i64 s.u, .int .i64 s.p, .int .i64 s.fx, .int .i64 s.fy], .func (.func 63) #[] #[.pointer (some ⟨k3, 0, none⟩)]] w (BowsP s (Es.flatMap cvYs) w) := by
  obtain ⟨i1, hi1, hz1, hs1, hy1⟩ := info_partsB bwInfoB
  have HI1 := Lib.hid (And.intro hi1 (And.intro hz1 (And.intro hs1 hy1)))
  have B0 := below_a4 w (.cells #[.int .i64 s.u, .int .i64 s.p, .int .i64 s.fx, .int .i64 s.fy] 23) (.cells #[.slice none 0 0] 63) (.cells #[.int .i64 0] 28) (.cells #[.slice none 0 0] 63)
  have K0 := (Blk.new w 23 #[.int .i64 s.u, .int .i64 s.p, .int .i64 s.fx, .int .i64 s.fy]).below (below_a3 _ (.cells #[.slice none 0 0] 63) (.cells #[.int .i64 0] 28) (.cells #[.slice none 0 0] 63))
  have K4 := (Blk.new (w.alloc (.cells #[.int .i64 s.u, .int .i64 s.p, .int .i64 s.fx, .int .i64 s.fy] 23)) 63 #[.slice none 0 0]).below (below_a2 _ (.cells #[.int .i64 0] 28) (.cells #[.slice none 0 0] 63))
  have K5 := (Blk.new ((w.alloc (.cells #[.int .i64 s.u, .int .i64 s.p, .int .i64 s.fx, .int .i64 s.fy] 23)).alloc (.cells #[.slice none 0 0] 63)) 28 #[.int .i64 0]).below (below_a1 _ (.cells #[.slice none 0 0] 63))
  have K6 := Blk.new (((w.alloc (.cells #[.int .i64 s.u, .int .i64 s.p, .int .i64 s.fx, .int .i64 s.fy] 23)).alloc (.cells #[.slice none 0 0] 63)).alloc (.cells #[.int .i64 0] 28)) 63 #[.slice none 0 0]
  simp only [World.size_alloc] at K4 K5 K6
  obtain ⟨wA, hwA⟩ : ∃ wA, wA = (((w.alloc (.cells #[.int .i64 s.u, .int .i64 s.p, .int .i64 s.fx, .int .i64 s.fy] 23)).alloc (.cells #[.slice none 0 0] 63)).alloc (.cells #[.int .i64 0] 28)).alloc (.cells #[.slice none 0 0] 63) := ⟨_, rfl⟩
  rw [← hwA] at B0 K0 K4 K5 K6
  have HA := Lib.hid hwA
  have hsA : wA.heap.size = w.heap.size + 1 + 1 + 1 + 1 := by rw [hwA]; simp
  have HMS := Lib.hid hms
  have HNN := Lib.hid hN
  have HB0 := Lib.hid B0
  have SEQ := curves_stopsC k3 z A cc Es wA ((B0.cell (p := ⟨k3, 0, none⟩) hk3).trans hcell) (by omega) (hOut.below (B0.mono hz)) (by omega) hm hl
  clear hwA hcell hOut hm hl hN hms hk3
  refine (callsIn_wide (n := 3)).1 ?_
  refine callsIn_of_wp_marks Try.func37 rfl trivial ?_
  simp only [Try.ntmps37, List.size_toArray, List.length_cons, List.length_nil, Nat.reduceAdd, Nat.reduceSub, Array.replicate_succ, Array.replicate_zero, List.push_toArray, List.append_toArray, List.nil_append, List.cons_append]
  refine wpIn_wide.2 ?_
  go_upto_region 2 with fail
  rw [← HA.out]
  go_wp2
  refine (wpIn_wide (n := 3)).1 ?_
  refine wpIn_rangeB1 (gf := 63) (lb := #[.pointer (some ⟨k3, 0, none⟩)]) rfl (enters_of Try.func63 (by kernel_rfl) rfl)
    SEQ belowK_t (belowK_b (by omega)) (fun X o hX => (below_a1 X o).mono (by omega)) (Below.refl _ _) (fun _ => rfl) (fun pre => ownB_pure _)
    83 (fun x => #[.int .i64 x.1, .int .i64 x.2.1.1, .int .i64 x.2.1.2.1, .int .i64 x.2.1.2.2, .int .i64 x.2.2.1.1, .int .i64 x.2.2.1.2.1, .int .i64 x.2.2.1.2.2, .int .i64 x.2.2.2.1.1, .int .i64 x.2.2.2.1.2.1, .int .i64 x.2.2.2.1.2.2, .int .i64 x.2.2.2.2.1, .int .i64 x.2.2.2.2.2.1, .int .i64 x.2.2.2.2.2.2]) 15 7 (fun x => cvV x)
    (fun pre V => ∃ v, Hid (Blk V w.heap.size 23 #[.int .i64 s.u, .int .i64 s.p, .int .i64 s.fx, .int .i64 s.fy] ∧ Blk V (w.heap.size + 1) 63 #[.slice none 0 0] ∧ Blk V (w.heap.size + 1 + 1) 28 #[.int .i64 0] ∧ Blk V (w.heap.size + 1 + 1 + 1) 63 #[v] ∧ V.ownsRow w.heap.size 70 9 v pre.length ((pre.map (bowCv s)).flatMap bwL) ∧ pre.all (okCv s) = true ∧ Below w.heap.size wA V))
    (fun c pre V => (c = .ret ∧ ∃ pr y, pre = pr ++ [y] ∧ okCv s y = false) ∧ Blk V (w.heap.size + 1) 63 #[.slice none 0 0] ∧ Blk V (w.heap.size + 1 + 1) 28 #[.int .i64 10] ∧ Below w.heap.size wA V)
    (by
      rintro pre X Y row ⟨v, H⟩ hg hr
      obtain ⟨a, b, c, d, e, f, g⟩ := H.out
      exact ⟨v, Lib.hid ⟨(blkB (β := Unit)) () X Y row a hg hr, (blkB (β := Unit)) () X Y row b hg hr, (blkB (β := Unit)) () X Y row c hg hr, (blkB (β := Unit)) () X Y row d hg hr, ownK e hg (fun r e => (hr r e).2), f, (belowB (β := Unit) (by omega) (by omega)) () X Y row g hg hr⟩⟩)
    (fun c => OwnFrom.and (ownB_pure _) (OwnFrom.and blkB (OwnFrom.and blkB (belowB (by omega) (by omega)))))
    (fun pre V h => by obtain ⟨v, H⟩ := h; exact H.out.2.2.2.2.2.2.size) ⟨_, Lib.hid ⟨K0, K4, K5, K6, World.ownsRow_nil _ _ _ _, rfl, Below.refl _ _⟩⟩ ?assign ?body ?done ?stop
  case assign =>
    intro l x W K hK
    gi_wp2_with (refine wpListIn_store_row rfl 83 (.tmp 7) (.tmp 15) (by with_reducible rfl) W.heap.size #[.int .i64 x.1, .int .i64 x.2.1.1, .int .i64 x.2.1.2.1, .int .i64 x.2.1.2.2, .int .i64 x.2.2.1.1, .int .i64 x.2.2.1.2.1, .int .i64 x.2.2.1.2.2, .int .i64 x.2.2.2.1.1, .int .i64 x.2.2.2.1.2.1, .int .i64 x.2.2.2.1.2.2, .int .i64 x.2.2.2.2.1, .int .i64 x.2.2.2.2.2.1, .int .i64 x.2.2.2.2.2.2] (by rfl) (by rfl) 83 #[.int .i64 0, .int .i64 0, .int .i64 0, .int .i64 0, .int .i64 0, .int .i64 0, .int .i64 0, .int .i64 0, .int .i64 0, .int .i64 0, .int .i64 0, .int .i64 0, .int .i64 0] (Blk.new _ _ _) cvSize rfl (by simp [Value.oneCell']) ?_)
    rw [World.setRow_alloc_new]
    simpa using hK
  case body =>
    rintro l pre x Bd W ⟨v, H⟩ hC hBd hb
    simp only [List.setIfInBounds_toArray, List.set_cons_zero, List.set_cons_succ]
    obtain ⟨ks, k4, k5, k6, ox, hall, hbW⟩ := H.out
    have hWs := hbW.size
    have hwW : w.heap.size ≤ W.heap.size := by omega
    have c0 := hb.cell 0; have c1 := hb.cell 1; have c2 := hb.cell 2; have c3 := hb.cell 3; have c4 := hb.cell 4; have c5 := hb.cell 5; have c6 := hb.cell 6; have c7 := hb.cell 7; have c8 := hb.cell 8; have c9 := hb.cell 9; have c10 := hb.cell 10; have c11 := hb.cell 11; have c12 := hb.cell 12; have cl := hb.lt; simp only [List.getElem?_toArray, List.getElem?_cons_succ, List.getElem?_cons_zero] at c0 c1 c2 c3 c4 c5 c6 c7 c8 c9 c10 c11 c12
    have HN12 := Lib.hid (Blk.new W 98 #[.int .i64 0, .int .i64 0, .int .i64 0, .int .i64 0, .int .i64 0, .int .i64 0, .int .i64 0, .int .i64 0, .int .i64 0, .int .i64 0, .int .i64 0, .int .i64 0])
    have HW := Lib.hid (And.intro ks (And.intro k4 (And.intro k5 (And.intro k6 (And.intro ox (And.intro hall (And.intro hbW hb)))))))
    clear ks k4 k5 k6 ox hall hbW hb SEQ
    have HK98 := Lib.hid ((Blk.new W 98 #[.int .i64 x.2.1.1, .int .i64 x.2.1.2.1, .int .i64 x.2.1.2.2, .int .i64 x.2.2.1.1, .int .i64 x.2.2.1.2.1, .int .i64 x.2.2.1.2.2, .int .i64 x.2.2.2.1.1, .int .i64 x.2.2.2.1.2.1, .int .i64 x.2.2.2.1.2.2, .int .i64 x.2.2.2.2.1, .int .i64 x.2.2.2.2.2.1, .int .i64 x.2.2.2.2.2.2]).below (below_a1 _ (.cells #[.int .i64 0, .int .i64 0, .int .i64 0, .int .i64 0, .int .i64 0, .int .i64 0, .int .i64 0, .int .i64 0] 99)))
    gi_wp2_with (first
      | (refine wpListIn_store_row rfl 98 (.tmp 8) (.tmp 24) (by with_reducible rfl) W.heap.size #[.int .i64 x.2.1.1, .int .i64 x.2.1.2.1, .int .i64 x.2.1.2.2, .int .i64 x.2.2.1.1, .int .i64 x.2.2.1.2.1, .int .i64 x.2.2.1.2.2, .int .i64 x.2.2.2.1.1, .int .i64 x.2.2.2.1.2.1, .int .i64 x.2.2.2.1.2.2, .int .i64 x.2.2.2.2.1, .int .i64 x.2.2.2.2.2.1, .int .i64 x.2.2.2.2.2.2] (by rfl) (by rfl) 98 #[.int .i64 0, .int .i64 0, .int .i64 0, .int .i64 0, .int .i64 0, .int .i64 0, .int .i64 0, .int .i64 0, .int .i64 0, .int .i64 0, .int .i64 0, .int .i64 0] (by exact HN12.out) t98Info rfl (by simp [Value.oneCell']) ?_; rw [World.setRow_alloc_new])
      | (refine wpListIn_load_row rfl 98 (.tmp 8) (by with_reducible rfl) W.heap.size (by rfl) 98 #[.int .i64 x.2.1.1, .int .i64 x.2.1.2.1, .int .i64 x.2.1.2.2, .int .i64 x.2.2.1.1, .int .i64 x.2.2.1.2.1, .int .i64 x.2.2.1.2.2, .int .i64 x.2.2.2.1.1, .int .i64 x.2.2.2.1.2.1, .int .i64 x.2.2.2.1.2.2, .int .i64 x.2.2.2.2.1, .int .i64 x.2.2.2.2.2.1, .int .i64 x.2.2.2.2.2.2] (0, 0) _ (show Blk _ _ _ _ from HK98.out) Try.underlying98 rfl t98Info ?_))
    obtain ⟨W5, hW5⟩ : ∃ W5, W5 = (W.alloc (.cells #[.int .i64 x.2.1.1, .int .i64 x.2.1.2.1, .int .i64 x.2.1.2.2, .int .i64 x.2.2.1.1, .int .i64 x.2.2.1.2.1, .int .i64 x.2.2.1.2.2, .int .i64 x.2.2.2.1.1, .int .i64 x.2.2.2.1.2.1, .int .i64 x.2.2.2.1.2.2, .int .i64 x.2.2.2.2.1, .int .i64 x.2.2.2.2.2.1, .int .i64 x.2.2.2.2.2.2] 98)).alloc (.cells #[.int .i64 0, .int .i64 0, .int .i64 0, .int .i64 0, .int .i64 0, .int .i64 0, .int .i64 0, .int .i64 0] 99) := ⟨_, rfl⟩
    have B5 : Below W.heap.size W W5 := hW5 ▸ below_a2 _ _ _
    have K9 : Blk W5 (W.heap.size + 1) 99 #[.int .i64 0, .int .i64 0, .int .i64 0, .int .i64 0, .int .i64 0, .int .i64 0, .int .i64 0, .int .i64 0] := by
      have := Blk.new (W.alloc (.cells #[.int .i64 x.2.1.1, .int .i64 x.2.1.2.1, .int .i64 x.2.1.2.2, .int .i64 x.2.2.1.1, .int .i64 x.2.2.1.2.1, .int .i64 x.2.2.1.2.2, .int .i64 x.2.2.2.1.1, .int .i64 x.2.2.2.1.2.1, .int .i64 x.2.2.2.1.2.2, .int .i64 x.2.2.2.2.1, .int .i64 x.2.2.2.2.2.1, .int .i64 x.2.2.2.2.2.2] 98)) 99 #[.int .i64 0, .int .i64 0, .int .i64 0, .int .i64 0, .int .i64 0, .int .i64 0, .int .i64 0, .int .i64 0]
      rw [World.size_alloc] at this
      rw [hW5]; exact this
    rw [← hW5]
    obtain ⟨b9, hb9⟩ : ∃ b9, b9 = W.heap.size + 1 := ⟨_, rfl⟩
    rw [← hb9] at K9 ⊢
    have hb9l : W.heap.size < b9 := by omega
    have hBdl := HW.out.2.2.2.2.2.2.2.lt
    have HK95 := Lib.hid K9
    have HS := Lib.hid (And.intro (HW.out.1.below B5) (And.intro (HW.out.2.1.below B5) (And.intro (HW.out.2.2.1.below B5) (And.intro (HW.out.2.2.2.1.below B5) (And.intro (own_stayF HW.out.2.2.2.2.1 B5) (And.intro HW.out.2.2.2.2.2.1 (And.intro B5 (HW.out.2.2.2.2.2.2.2.below B5))))))))
    clear c0 c1 c2 c3 c4 c5 c6 c7 c8 c9 c10 c11 c12 cl hW5 B5 hb9
    gi_loopw [26] (fun i wr => (i = .int .i64 0 ∧ Hid (Blk wr b9 99 #[.int .i64 0, .int .i64 0, .int .i64 0, .int .i64 0, .int .i64 0, .int .i64 0, .int .i64 0, .int .i64 0] ∧ Only W5 wr [b9])) ∨ (i = .int .i64 1 ∧ Hid (Blk wr b9 99 #[.int .i64 (dotQ s x.2.1.1 x.2.1.2.1).1, .int .i64 (dotQ s x.2.1.1 x.2.1.2.1).2, .int .i64 0, .int .i64 0, .int .i64 0, .int .i64 0, .int .i64 0, .int .i64 0] ∧ Only W5 wr [b9] ∧ dotE s x.2.1.1 x.2.1.2.1 = 0)) ∨ (i = .int .i64 2 ∧ Hid (Blk wr b9 99 #[.int .i64 (dotQ s x.2.1.1 x.2.1.2.1).1, .int .i64 (dotQ s x.2.1.1 x.2.1.2.1).2, .int .i64 (dotQ s x.2.2.1.1 x.2.2.1.2.1).1, .int .i64 (dotQ s x.2.2.1.1 x.2.2.1.2.1).2, .int .i64 0, .int .i64 0, .int .i64 0, .int .i64 0] ∧ Only W5 wr [b9] ∧ dotE s x.2.1.1 x.2.1.2.1 = 0 ∧ dotE s x.2.2.1.1 x.2.2.1.2.1 = 0)) ∨ (i = .int .i64 3 ∧ Hid (Blk wr b9 99 #[.int .i64 (dotQ s x.2.1.1 x.2.1.2.1).1, .int .i64 (dotQ s x.2.1.1 x.2.1.2.1).2, .int .i64 (dotQ s x.2.2.1.1 x.2.2.1.2.1).1, .int .i64 (dotQ s x.2.2.1.1 x.2.2.1.2.1).2, .int .i64 (dotQ s x.2.2.2.1.1 x.2.2.2.1.2.1).1, .int .i64 (dotQ s x.2.2.2.1.1 x.2.2.2.1.2.1).2, .int .i64 0, .int .i64 0] ∧ Only W5 wr [b9] ∧ dotE s x.2.1.1 x.2.1.2.1 = 0 ∧ dotE s x.2.2.1.1 x.2.2.1.2.1 = 0 ∧ dotE s x.2.2.2.1.1 x.2.2.2.1.2.1 = 0)) ∨ (i = .int .i64 4 ∧ Hid (Blk wr b9 99 #[.int .i64 (dotQ s x.2.1.1 x.2.1.2.1).1, .int .i64 (dotQ s x.2.1.1 x.2.1.2.1).2, .int .i64 (dotQ s x.2.2.1.1 x.2.2.1.2.1).1, .int .i64 (dotQ s x.2.2.1.1 x.2.2.1.2.1).2, .int .i64 (dotQ s x.2.2.2.1.1 x.2.2.2.1.2.1).1, .int .i64 (dotQ s x.2.2.2.1.1 x.2.2.2.1.2.1).2, .int .i64 (dotQ s x.2.2.2.2.1 x.2.2.2.2.2.1).1, .int .i64 (dotQ s x.2.2.2.2.1 x.2.2.2.2.2.1).2] ∧ Only W5 wr [b9] ∧ dotE s x.2.1.1 x.2.1.2.1 = 0 ∧ dotE s x.2.2.1.1 x.2.2.1.2.1 = 0 ∧ dotE s x.2.2.2.1.1 x.2.2.2.1.2.1 = 0 ∧ dotE s x.2.2.2.2.1 x.2.2.2.2.2.1 = 0))) (fun i _ => 4 - (intOf i).toNat)
    case atStart => exact .inl ⟨rfl, Lib.hid ⟨K9, Only.refl _ _⟩⟩
    case round =>
      rcases hrel with ⟨rfl, HKK⟩ | ⟨rfl, HKK⟩ | ⟨rfl, HKK⟩ | ⟨rfl, HKK⟩ | ⟨rfl, HKK⟩
      · obtain ⟨HK9, HO5⟩ := HKK.out
        have ks := (HS.out.1).only HO5 (by simp; omega)
        have k4 := (HS.out.2.1).only HO5 (by simp; omega)
        have k5 := (HS.out.2.2.1).only HO5 (by simp; omega)
        have s0 := ks.cell 0; have s1 := ks.cell 1; have s2 := ks.cell 2; have s3 := ks.cell 3; have sl := ks.lt; simp only [List.getElem?_toArray, List.getElem?_cons_succ, List.getElem?_cons_zero] at s0 s1 s2 s3
        have hwr := HO5.size
        have IP := @idxP0 (x.2.1).1 (x.2.1).2.1 (x.2.1).2.2 (x.2.2.1).1 (x.2.2.1).2.1 (x.2.2.1).2.2 (x.2.2.2.1).1 (x.2.2.2.1).2.1 (x.2.2.2.1).2.2 (x.2.2.2.2).1 (x.2.2.2.2).2.1 (x.2.2.2.2).2.2
        have CDT := fun V => fdot_any s x.2.1.1 x.2.1.2.1 x.2.1.2.2 V
        have H9 := Lib.hid (And.intro HK9 HO5)
        have H45 := Lib.hid (And.intro k4 k5)
        have HNP := Lib.hid (Blk.new wr 25 #[.int .i64 0, .int .i64 0, .int .i64 0])
        by_cases he : dotE s x.2.1.1 x.2.1.2.1 = 0
        · rw [show dotD s x.2.1.1 x.2.1.2.1 = (dotQ s x.2.1.1 x.2.1.2.1) by unfold dotD; rw [if_pos he], he] at CDT
          have HQ := Lib.hid he
          clear he HK9 HO5 ks k4 k5
          gi_wp2_with (first
            | (refine wpListIn_store_row rfl 25 (.tmp 11) (.tmp 29) (by with_reducible rfl) wr.heap.size #[.int .i64 x.2.1.1, .int .i64 x.2.1.2.1, .int .i64 x.2.1.2.2] (by rfl) (by rfl) 25 #[.int .i64 0, .int .i64 0, .int .i64 0] (by exact HNP.out) ptInfo3 rfl (by simp [Value.oneCell']) ?_; rw [World.setRow_alloc_new])
            | (refine ⟨trivial, ?_⟩; gi_at_call 8; (with_reducible refine (CallsIn.inRound l (callsIn_wide.2 (CDT _))).mono ?_); rintro e w6 ⟨rfl, b6⟩; have HB6 := Lib.hid b6; have K9 := (H9.out.1.below (below_a1 _ _)).below b6; have g9 := K9.lt; have e1 := K9.cell 0; have e2 := K9.cell 1; simp only [List.getElem?_toArray, List.getElem?_cons_succ, List.getElem?_cons_zero] at e1 e2; have g1 := K9.frozen 0; have g2 := K9.frozen 1; have HN7 := Lib.hid (Blk.new w6 27 #[.int .i64 0, .int .i64 0]))
            | (refine wpListIn_store_row rfl 27 (.tmp 12) (.tmp 34) (by with_reducible rfl) w6.heap.size #[.int .i64 (dotQ s x.2.1.1 x.2.1.2.1).1, .int .i64 (dotQ s x.2.1.1 x.2.1.2.1).2] (by rfl) (by rfl) 27 #[.int .i64 0, .int .i64 0] (by exact HN7.out) flDtInfo rfl (by simp [Value.oneCell']) ?_; rw [World.setRow_alloc_new]))
          have o6 : Only W5 w6 [b9] := only_more (only_alloc H9.out.2 _) (Only.of_below HB6.out []) (fun b hb => (nomatch hb))
          have K9b := ((K9.set 0 (.int .i64 (dotQ s x.2.1.1 x.2.1.2.1).1)).set 1 (.int .i64 (dotQ s x.2.1.1 x.2.1.2.1).2)).below (below_a1 _ (.cells #[.int .i64 (dotQ s x.2.1.1 x.2.1.2.1).1, .int .i64 (dotQ s x.2.1.1 x.2.1.2.1).2] 27))
          go_roundw
          case rel => exact .inr (.inl ⟨rfl, Lib.hid ⟨K9b, only_alloc ((o6.set (.inl (by simp)) _).set (.inl (by simp)) _) _, HQ.out⟩⟩)
          case measure => simp [intOf]
        · obtain he1 := dotE_ten HMS.out he
          rw [show dotD s x.2.1.1 x.2.1.2.1 = (0, 0) by unfold dotD; rw [if_neg he], he1] at CDT
          have HQ := Lib.hid (show okCv s x = false by unfold okCv; simp [he])
          clear he he1 HK9 HO5 ks k4 k5
          gi_wp2_with (first
            | (refine wpListIn_store_row rfl 25 (.tmp 11) (.tmp 29) (by with_reducible rfl) wr.heap.size #[.int .i64 x.2.1.1, .int .i64 x.2.1.2.1, .int .i64 x.2.1.2.2] (by rfl) (by rfl) 25 #[.int .i64 0, .int .i64 0, .int .i64 0] (by exact HNP.out) ptInfo3 rfl (by simp [Value.oneCell']) ?_; rw [World.setRow_alloc_new])
            | (refine ⟨trivial, ?_⟩; gi_at_call 8; (with_reducible refine (CallsIn.inRound l (callsIn_wide.2 (CDT _))).mono ?_); rintro e w6 ⟨rfl, b6⟩; have HB6 := Lib.hid b6; have HN7 := Lib.hid (Blk.new w6 27 #[.int .i64 0, .int .i64 0]); have J4 := ((H45.out.1.below (below_a1 _ _)).below b6); have J5 := ((H45.out.2.below (below_a1 _ _)).below b6); have e4 := J4.cell 0; have e5 := J5.cell 0; have l4 := J4.lt; have l5 := J5.lt; have m4 := J4.frozen 0; have m5 := J5.frozen 0; simp only [List.getElem?_toArray, List.getElem?_cons_succ, List.getElem?_cons_zero] at e4 e5)
            | (refine wpListIn_store_row rfl 27 (.tmp 12) (.tmp 34) (by with_reducible rfl) w6.heap.size #[.int .i64 0, .int .i64 0] (by rfl) (by rfl) 27 #[.int .i64 0, .int .i64 0] (by exact HN7.out) flDtInfo rfl (by simp [Value.oneCell']) ?_; rw [World.setRow_alloc_new]))
          have o6 : Only W5 w6 [b9] := only_more (only_alloc H9.out.2 _) (Only.of_below HB6.out []) (fun b hb => (nomatch hb))
          have ko : KeepsOthers W w6 := (koB HS.out.2.2.2.2.2.2.1).trans (koO o6 (fun b hb => by simp at hb; subst hb; exact ⟨_, _, HK95.out⟩))
          have hw6 : w.heap.size ≤ w6.heap.size := by have := o6.size; have := HS.out.2.2.2.2.2.2.1.size; omega
          have bb6 : Below w.heap.size wA w6 := HW.out.2.2.2.2.2.2.1.trans ((HS.out.2.2.2.2.2.2.1.mono hwW).trans (o6.to_below (by have := HS.out.2.2.2.2.2.2.1.size; omega) (by simp; omega)))
          have J4b := J4.set 0 (.slice none 0 0)
          exact ⟨((ko.trans (KeepsOthers.setCell _ _ _)).trans (KeepsOthers.setCell _ _ _)).trans (KeepsOthers.alloc _ _), ⟨rfl, pre, x, rfl, HQ.out⟩,
            (J4b.only ((Only.refl _ [w.heap.size + 1 + 1]).set (p := ⟨w.heap.size + 1 + 1, 0, none⟩) (.inl (by simp)) (.int .i64 10)) (by simp)).below (below_a1 _ _),
            ((J5.only ((Only.refl _ [w.heap.size + 1]).set (p := ⟨w.heap.size + 1, 0, none⟩) (.inl (by simp)) (.slice none 0 0)) (by simp)).set 0 (.int .i64 10)).below (below_a1 _ _),
            ((bb6.setCell (p := ⟨w.heap.size + 1, 0, none⟩) (by simp) (.slice none 0 0)).setCell (p := ⟨w.heap.size + 1 + 1, 0, none⟩) (by simp; omega) (.int .i64 10)).alloc (by simp; omega) _⟩
      · obtain ⟨HK9, HO5, q0⟩ := HKK.out
        have ks := (HS.out.1).only HO5 (by simp; omega)
        have k4 := (HS.out.2.1).only HO5 (by simp; omega)
        have k5 := (HS.out.2.2.1).only HO5 (by simp; omega)
        have s0 := ks.cell 0; have s1 := ks.cell 1; have s2 := ks.cell 2; have s3 := ks.cell 3; have sl := ks.lt; simp only [List.getElem?_toArray, List.getElem?_cons_succ, List.getElem?_cons_zero] at s0 s1 s2 s3
        have hwr := HO5.size
        have IP := @idxP1 (x.2.1).1 (x.2.1).2.1 (x.2.1).2.2 (x.2.2.1).1 (x.2.2.1).2.1 (x.2.2.1).2.2 (x.2.2.2.1).1 (x.2.2.2.1).2.1 (x.2.2.2.1).2.2 (x.2.2.2.2).1 (x.2.2.2.2).2.1 (x.2.2.2.2).2.2
        have CDT := fun V => fdot_any s x.2.2.1.1 x.2.2.1.2.1 x.2.2.1.2.2 V
        have H9 := Lib.hid (And.intro HK9 HO5)
        have H45 := Lib.hid (And.intro k4 k5)
        have HNP := Lib.hid (Blk.new wr 25 #[.int .i64 0, .int .i64 0, .int .i64 0])
        by_cases he : dotE s x.2.2.1.1 x.2.2.1.2.1 = 0
        · rw [show dotD s x.2.2.1.1 x.2.2.1.2.1 = (dotQ s x.2.2.1.1 x.2.2.1.2.1) by unfold dotD; rw [if_pos he], he] at CDT
          have HQ := Lib.hid he
          clear he HK9 HO5 ks k4 k5
          gi_wp2_with (first
            | (refine wpListIn_store_row rfl 25 (.tmp 11) (.tmp 29) (by with_reducible rfl) wr.heap.size #[.int .i64 x.2.2.1.1, .int .i64 x.2.2.1.2.1, .int .i64 x.2.2.1.2.2] (by rfl) (by rfl) 25 #[.int .i64 0, .int .i64 0, .int .i64 0] (by exact HNP.out) ptInfo3 rfl (by simp [Value.oneCell']) ?_; rw [World.setRow_alloc_new])
            | (refine ⟨trivial, ?_⟩; gi_at_call 8; (with_reducible refine (CallsIn.inRound l (callsIn_wide.2 (CDT _))).mono ?_); rintro e w6 ⟨rfl, b6⟩; have HB6 := Lib.hid b6; have K9 := (H9.out.1.below (below_a1 _ _)).below b6; have g9 := K9.lt; have e1 := K9.cell 2; have e2 := K9.cell 3; simp only [List.getElem?_toArray, List.getElem?_cons_succ, List.getElem?_cons_zero] at e1 e2; have g1 := K9.frozen 2; have g2 := K9.frozen 3; have HN7 := Lib.hid (Blk.new w6 27 #[.int .i64 0, .int .i64 0]))
            | (refine wpListIn_store_row rfl 27 (.tmp 12) (.tmp 34) (by with_reducible rfl) w6.heap.size #[.int .i64 (dotQ s x.2.2.1.1 x.2.2.1.2.1).1, .int .i64 (dotQ s x.2.2.1.1 x.2.2.1.2.1).2] (by rfl) (by rfl) 27 #[.int .i64 0, .int .i64 0] (by exact HN7.out) flDtInfo rfl (by simp [Value.oneCell']) ?_; rw [World.setRow_alloc_new]))
          have o6 : Only W5 w6 [b9] := only_more (only_alloc H9.out.2 _) (Only.of_below HB6.out []) (fun b hb => (nomatch hb))
          have K9b := ((K9.set 2 (.int .i64 (dotQ s x.2.2.1.1 x.2.2.1.2.1).1)).set 3 (.int .i64 (dotQ s x.2.2.1.1 x.2.2.1.2.1).2)).below (below_a1 _ (.cells #[.int .i64 (dotQ s x.2.2.1.1 x.2.2.1.2.1).1, .int .i64 (dotQ s x.2.2.1.1 x.2.2.1.2.1).2] 27))
          go_roundw
          case rel => exact .inr (.inr (.inl ⟨rfl, Lib.hid ⟨K9b, only_alloc ((o6.set (.inl (by simp)) _).set (.inl (by simp)) _) _, q0, HQ.out⟩⟩))
          case measure => simp [intOf]
        · obtain he1 := dotE_ten HMS.out he
          rw [show dotD s x.2.2.1.1 x.2.2.1.2.1 = (0, 0) by unfold dotD; rw [if_neg he], he1] at CDT
          have HQ := Lib.hid (show okCv s x = false by unfold okCv; simp [he])
          clear he he1 HK9 HO5 ks k4 k5
          gi_wp2_with (first
            | (refine wpListIn_store_row rfl 25 (.tmp 11) (.tmp 29) (by with_reducible rfl) wr.heap.size #[.int .i64 x.2.2.1.1, .int .i64 x.2.2.1.2.1, .int .i64 x.2.2.1.2.2] (by rfl) (by rfl) 25 #[.int .i64 0, .int .i64 0, .int .i64 0] (by exact HNP.out) ptInfo3 rfl (by simp [Value.oneCell']) ?_; rw [World.setRow_alloc_new])
            | (refine ⟨trivial, ?_⟩; gi_at_call 8; (with_reducible refine (CallsIn.inRound l (callsIn_wide.2 (CDT _))).mono ?_); rintro e w6 ⟨rfl, b6⟩; have HB6 := Lib.hid b6; have HN7 := Lib.hid (Blk.new w6 27 #[.int .i64 0, .int .i64 0]); have J4 := ((H45.out.1.below (below_a1 _ _)).below b6); have J5 := ((H45.out.2.below (below_a1 _ _)).below b6); have e4 := J4.cell 0; have e5 := J5.cell 0; have l4 := J4.lt; have l5 := J5.lt; have m4 := J4.frozen 0; have m5 := J5.frozen 0; simp only [List.getElem?_toArray, List.getElem?_cons_succ, List.getElem?_cons_zero] at e4 e5)
            | (refine wpListIn_store_row rfl 27 (.tmp 12) (.tmp 34) (by with_reducible rfl) w6.heap.size #[.int .i64 0, .int .i64 0] (by rfl) (by rfl) 27 #[.int .i64 0, .int .i64 0] (by exact HN7.out) flDtInfo rfl (by simp [Value.oneCell']) ?_; rw [World.setRow_alloc_new]))
          have o6 : Only W5 w6 [b9] := only_more (only_alloc H9.out.2 _) (Only.of_below HB6.out []) (fun b hb => (nomatch hb))
          have ko : KeepsOthers W w6 := (koB HS.out.2.2.2.2.2.2.1).trans (koO o6 (fun b hb => by simp at hb; subst hb; exact ⟨_, _, HK95.out⟩))
          have hw6 : w.heap.size ≤ w6.heap.size := by have := o6.size; have := HS.out.2.2.2.2.2.2.1.size; omega
          have bb6 : Below w.heap.size wA w6 := HW.out.2.2.2.2.2.2.1.trans ((HS.out.2.2.2.2.2.2.1.mono hwW).trans (o6.to_below (by have := HS.out.2.2.2.2.2.2.1.size; omega) (by simp; omega)))
          have J4b := J4.set 0 (.slice none 0 0)
          exact ⟨((ko.trans (KeepsOthers.setCell _ _ _)).trans (KeepsOthers.setCell _ _ _)).trans (KeepsOthers.alloc _ _), ⟨rfl, pre, x, rfl, HQ.out⟩,
            (J4b.only ((Only.refl _ [w.heap.size + 1 + 1]).set (p := ⟨w.heap.size + 1 + 1, 0, none⟩) (.inl (by simp)) (.int .i64 10)) (by simp)).below (below_a1 _ _),
            ((J5.only ((Only.refl _ [w.heap.size + 1]).set (p := ⟨w.heap.size + 1, 0, none⟩) (.inl (by simp)) (.slice none 0 0)) (by simp)).set 0 (.int .i64 10)).below (below_a1 _ _),
            ((bb6.setCell (p := ⟨w.heap.size + 1, 0, none⟩) (by simp) (.slice none 0 0)).setCell (p := ⟨w.heap.size + 1 + 1, 0, none⟩) (by simp; omega) (.int .i64 10)).alloc (by simp; omega) _⟩
      · obtain ⟨HK9, HO5, q0, q1⟩ := HKK.out
        have ks := (HS.out.1).only HO5 (by simp; omega)
        have k4 := (HS.out.2.1).only HO5 (by simp; omega)
        have k5 := (HS.out.2.2.1).only HO5 (by simp; omega)
        have s0 := ks.cell 0; have s1 := ks.cell 1; have s2 := ks.cell 2; have s3 := ks.cell 3; have sl := ks.lt; simp only [List.getElem?_toArray, List.getElem?_cons_succ, List.getElem?_cons_zero] at s0 s1 s2 s3
        have hwr := HO5.size
        have IP := @idxP2 (x.2.1).1 (x.2.1).2.1 (x.2.1).2.2 (x.2.2.1).1 (x.2.2.1).2.1 (x.2.2.1).2.2 (x.2.2.2.1).1 (x.2.2.2.1).2.1 (x.2.2.2.1).2.2 (x.2.2.2.2).1 (x.2.2.2.2).2.1 (x.2.2.2.2).2.2
        have CDT := fun V => fdot_any s x.2.2.2.1.1 x.2.2.2.1.2.1 x.2.2.2.1.2.2 V
        have H9 := Lib.hid (And.intro HK9 HO5)
        have H45 := Lib.hid (And.intro k4 k5)
        have HNP := Lib.hid (Blk.new wr 25 #[.int .i64 0, .int .i64 0, .int .i64 0])
        by_cases he : dotE s x.2.2.2.1.1 x.2.2.2.1.2.1 = 0
        · rw [show dotD s x.2.2.2.1.1 x.2.2.2.1.2.1 = (dotQ s x.2.2.2.1.1 x.2.2.2.1.2.1) by unfold dotD; rw [if_pos he], he] at CDT
          have HQ := Lib.hid he
          clear he HK9 HO5 ks k4 k5
          gi_wp2_with (first
            | (refine wpListIn_store_row rfl 25 (.tmp 11) (.tmp 29) (by with_reducible rfl) wr.heap.size #[.int .i64 x.2.2.2.1.1, .int .i64 x.2.2.2.1.2.1, .int .i64 x.2.2.2.1.2.2] (by rfl) (by rfl) 25 #[.int .i64 0, .int .i64 0, .int .i64 0] (by exact HNP.out) ptInfo3 rfl (by simp [Value.oneCell']) ?_; rw [World.setRow_alloc_new])
            | (refine ⟨trivial, ?_⟩; gi_at_call 8; (with_reducible refine (CallsIn.inRound l (callsIn_wide.2 (CDT _))).mono ?_); rintro e w6 ⟨rfl, b6⟩; have HB6 := Lib.hid b6; have K9 := (H9.out.1.below (below_a1 _ _)).below b6; have g9 := K9.lt; have e1 := K9.cell 4; have e2 := K9.cell 5; simp only [List.getElem?_toArray, List.getElem?_cons_succ, List.getElem?_cons_zero] at e1 e2; have g1 := K9.frozen 4; have g2 := K9.frozen 5; have HN7 := Lib.hid (Blk.new w6 27 #[.int .i64 0, .int .i64 0]))
            | (refine wpListIn_store_row rfl 27 (.tmp 12) (.tmp 34) (by with_reducible rfl) w6.heap.size #[.int .i64 (dotQ s x.2.2.2.1.1 x.2.2.2.1.2.1).1, .int .i64 (dotQ s x.2.2.2.1.1 x.2.2.2.1.2.1).2] (by rfl) (by rfl) 27 #[.int .i64 0, .int .i64 0] (by exact HN7.out) flDtInfo rfl (by simp [Value.oneCell']) ?_; rw [World.setRow_alloc_new]))
          have o6 : Only W5 w6 [b9] := only_more (only_alloc H9.out.2 _) (Only.of_below HB6.out []) (fun b hb => (nomatch hb))
          have K9b := ((K9.set 4 (.int .i64 (dotQ s x.2.2.2.1.1 x.2.2.2.1.2.1).1)).set 5 (.int .i64 (dotQ s x.2.2.2.1.1 x.2.2.2.1.2.1).2)).below (below_a1 _ (.cells #[.int .i64 (dotQ s x.2.2.2.1.1 x.2.2.2.1.2.1).1, .int .i64 (dotQ s x.2.2.2.1.1 x.2.2.2.1.2.1).2] 27))
          go_roundw
          case rel => exact .inr (.inr (.inr (.inl ⟨rfl, Lib.hid ⟨K9b, only_alloc ((o6.set (.inl (by simp)) _).set (.inl (by simp)) _) _, q0, q1, HQ.out⟩⟩)))
          case measure => simp [intOf]
        · obtain he1 := dotE_ten HMS.out he
          rw [show dotD s x.2.2.2.1.1 x.2.2.2.1.2.1 = (0, 0) by unfold dotD; rw [if_neg he], he1] at CDT
          have HQ := Lib.hid (show okCv s x = false by unfold okCv; simp [he])
          clear he he1 HK9 HO5 ks k4 k5
          gi_wp2_with (first
            | (refine wpListIn_store_row rfl 25 (.tmp 11) (.tmp 29) (by with_reducible rfl) wr.heap.size #[.int .i64 x.2.2.2.1.1, .int .i64 x.2.2.2.1.2.1, .int .i64 x.2.2.2.1.2.2] (by rfl) (by rfl) 25 #[.int .i64 0, .int .i64 0, .int .i64 0] (by exact HNP.out) ptInfo3 rfl (by simp [Value.oneCell']) ?_; rw [World.setRow_alloc_new])
            | (refine ⟨trivial, ?_⟩; gi_at_call 8; (with_reducible refine (CallsIn.inRound l (callsIn_wide.2 (CDT _))).mono ?_); rintro e w6 ⟨rfl, b6⟩; have HB6 := Lib.hid b6; have HN7 := Lib.hid (Blk.new w6 27 #[.int .i64 0, .int .i64 0]); have J4 := ((H45.out.1.below (below_a1 _ _)).below b6); have J5 := ((H45.out.2.below (below_a1 _ _)).below b6); have e4 := J4.cell 0; have e5 := J5.cell 0; have l4 := J4.lt; have l5 := J5.lt; have m4 := J4.frozen 0; have m5 := J5.frozen 0; simp only [List.getElem?_toArray, List.getElem?_cons_succ, List.getElem?_cons_zero] at e4 e5)
            | (refine wpListIn_store_row rfl 27 (.tmp 12) (.tmp 34) (by with_reducible rfl) w6.heap.size #[.int .i64 0, .int .i64 0] (by rfl) (by rfl) 27 #[.int .i64 0, .int .i64 0] (by exact HN7.out) flDtInfo rfl (by simp [Value.oneCell']) ?_; rw [World.setRow_alloc_new]))
          have o6 : Only W5 w6 [b9] := only_more (only_alloc H9.out.2 _) (Only.of_below HB6.out []) (fun b hb => (nomatch hb))
          have ko : KeepsOthers W w6 := (koB HS.out.2.2.2.2.2.2.1).trans (koO o6 (fun b hb => by simp at hb; subst hb; exact ⟨_, _, HK95.out⟩))
          have hw6 : w.heap.size ≤ w6.heap.size := by have := o6.size; have := HS.out.2.2.2.2.2.2.1.size; omega
          have bb6 : Below w.heap.size wA w6 := HW.out.2.2.2.2.2.2.1.trans ((HS.out.2.2.2.2.2.2.1.mono hwW).trans (o6.to_below (by have := HS.out.2.2.2.2.2.2.1.size; omega) (by simp; omega)))
          have J4b := J4.set 0 (.slice none 0 0)
          exact ⟨((ko.trans (KeepsOthers.setCell _ _ _)).trans (KeepsOthers.setCell _ _ _)).trans (KeepsOthers.alloc _ _), ⟨rfl, pre, x, rfl, HQ.out⟩,
            (J4b.only ((Only.refl _ [w.heap.size + 1 + 1]).set (p := ⟨w.heap.size + 1 + 1, 0, none⟩) (.inl (by simp)) (.int .i64 10)) (by simp)).below (below_a1 _ _),
            ((J5.only ((Only.refl _ [w.heap.size + 1]).set (p := ⟨w.heap.size + 1, 0, none⟩) (.inl (by simp)) (.slice none 0 0)) (by simp)).set 0 (.int .i64 10)).below (below_a1 _ _),
            ((bb6.setCell (p := ⟨w.heap.size + 1, 0, none⟩) (by simp) (.slice none 0 0)).setCell (p := ⟨w.heap.size + 1 + 1, 0, none⟩) (by simp; omega) (.int .i64 10)).alloc (by simp; omega) _⟩
      · obtain ⟨HK9, HO5, q0, q1, q2⟩ := HKK.out
        have ks := (HS.out.1).only HO5 (by simp; omega)
        have k4 := (HS.out.2.1).only HO5 (by simp; omega)
        have k5 := (HS.out.2.2.1).only HO5 (by simp; omega)
        have s0 := ks.cell 0; have s1 := ks.cell 1; have s2 := ks.cell 2; have s3 := ks.cell 3; have sl := ks.lt; simp only [List.getElem?_toArray, List.getElem?_cons_succ, List.getElem?_cons_zero] at s0 s1 s2 s3
        have hwr := HO5.size
        have IP := @idxP3 (x.2.1).1 (x.2.1).2.1 (x.2.1).2.2 (x.2.2.1).1 (x.2.2.1).2.1 (x.2.2.1).2.2 (x.2.2.2.1).1 (x.2.2.2.1).2.1 (x.2.2.2.1).2.2 (x.2.2.2.2).1 (x.2.2.2.2).2.1 (x.2.2.2.2).2.2
        have CDT := fun V => fdot_any s x.2.2.2.2.1 x.2.2.2.2.2.1 x.2.2.2.2.2.2 V
        have H9 := Lib.hid (And.intro HK9 HO5)
        have H45 := Lib.hid (And.intro k4 k5)
        have HNP := Lib.hid (Blk.new wr 25 #[.int .i64 0, .int .i64 0, .int .i64 0])
        by_cases he : dotE s x.2.2.2.2.1 x.2.2.2.2.2.1 = 0
        · rw [show dotD s x.2.2.2.2.1 x.2.2.2.2.2.1 = (dotQ s x.2.2.2.2.1 x.2.2.2.2.2.1) by unfold dotD; rw [if_pos he], he] at CDT
          have HQ := Lib.hid he
          clear he HK9 HO5 ks k4 k5
          gi_wp2_with (first
            | (refine wpListIn_store_row rfl 25 (.tmp 11) (.tmp 29) (by with_reducible rfl) wr.heap.size #[.int .i64 x.2.2.2.2.1, .int .i64 x.2.2.2.2.2.1, .int .i64 x.2.2.2.2.2.2] (by rfl) (by rfl) 25 #[.int .i64 0, .int .i64 0, .int .i64 0] (by exact HNP.out) ptInfo3 rfl (by simp [Value.oneCell']) ?_; rw [World.setRow_alloc_new])
            | (refine ⟨trivial, ?_⟩; gi_at_call 8; (with_reducible refine (CallsIn.inRound l (callsIn_wide.2 (CDT _))).mono ?_); rintro e w6 ⟨rfl, b6⟩; have HB6 := Lib.hid b6; have K9 := (H9.out.1.below (below_a1 _ _)).below b6; have g9 := K9.lt; have e1 := K9.cell 6; have e2 := K9.cell 7; simp only [List.getElem?_toArray, List.getElem?_cons_succ, List.getElem?_cons_zero] at e1 e2; have g1 := K9.frozen 6; have g2 := K9.frozen 7; have HN7 := Lib.hid (Blk.new w6 27 #[.int .i64 0, .int .i64 0]))
            | (refine wpListIn_store_row rfl 27 (.tmp 12) (.tmp 34) (by with_reducible rfl) w6.heap.size #[.int .i64 (dotQ s x.2.2.2.2.1 x.2.2.2.2.2.1).1, .int .i64 (dotQ s x.2.2.2.2.1 x.2.2.2.2.2.1).2] (by rfl) (by rfl) 27 #[.int .i64 0, .int .i64 0] (by exact HN7.out) flDtInfo rfl (by simp [Value.oneCell']) ?_; rw [World.setRow_alloc_new]))
          have o6 : Only W5 w6 [b9] := only_more (only_alloc H9.out.2 _) (Only.of_below HB6.out []) (fun b hb => (nomatch hb))
          have K9b := ((K9.set 6 (.int .i64 (dotQ s x.2.2.2.2.1 x.2.2.2.2.2.1).1)).set 7 (.int .i64 (dotQ s x.2.2.2.2.1 x.2.2.2.2.2.1).2)).below (below_a1 _ (.cells #[.int .i64 (dotQ s x.2.2.2.2.1 x.2.2.2.2.2.1).1, .int .i64 (dotQ s x.2.2.2.2.1 x.2.2.2.2.2.1).2] 27))
          go_roundw
          case rel => exact .inr (.inr (.inr (.inr (⟨rfl, Lib.hid ⟨K9b, only_alloc ((o6.set (.inl (by simp)) _).set (.inl (by simp)) _) _, q0, q1, q2, HQ.out⟩⟩))))
          case measure => simp [intOf]
        · obtain he1 := dotE_ten HMS.out he
          rw [show dotD s x.2.2.2.2.1 x.2.2.2.2.2.1 = (0, 0) by unfold dotD; rw [if_neg he], he1] at CDT
          have HQ := Lib.hid (show okCv s x = false by unfold okCv; simp [he])
          clear he he1 HK9 HO5 ks k4 k5
          gi_wp2_with (first
            | (refine wpListIn_store_row rfl 25 (.tmp 11) (.tmp 29) (by with_reducible rfl) wr.heap.size #[.int .i64 x.2.2.2.2.1, .int .i64 x.2.2.2.2.2.1, .int .i64 x.2.2.2.2.2.2] (by rfl) (by rfl) 25 #[.int .i64 0, .int .i64 0, .int .i64 0] (by exact HNP.out) ptInfo3 rfl (by simp [Value.oneCell']) ?_; rw [World.setRow_alloc_new])
            | (refine ⟨trivial, ?_⟩; gi_at_call 8; (with_reducible refine (CallsIn.inRound l (callsIn_wide.2 (CDT _))).mono ?_); rintro e w6 ⟨rfl, b6⟩; have HB6 := Lib.hid b6; have HN7 := Lib.hid (Blk.new w6 27 #[.int .i64 0, .int .i64 0]); have J4 := ((H45.out.1.below (below_a1 _ _)).below b6); have J5 := ((H45.out.2.below (below_a1 _ _)).below b6); have e4 := J4.cell 0; have e5 := J5.cell 0; have l4 := J4.lt; have l5 := J5.lt; have m4 := J4.frozen 0; have m5 := J5.frozen 0; simp only [List.getElem?_toArray, List.getElem?_cons_succ, List.getElem?_cons_zero] at e4 e5)
            | (refine wpListIn_store_row rfl 27 (.tmp 12) (.tmp 34) (by with_reducible rfl) w6.heap.size #[.int .i64 0, .int .i64 0] (by rfl) (by rfl) 27 #[.int .i64 0, .int .i64 0] (by exact HN7.out) flDtInfo rfl (by simp [Value.oneCell']) ?_; rw [World.setRow_alloc_new]))
          have o6 : Only W5 w6 [b9] := only_more (only_alloc H9.out.2 _) (Only.of_below HB6.out []) (fun b hb => (nomatch hb))
          have ko : KeepsOthers W w6 := (koB HS.out.2.2.2.2.2.2.1).trans (koO o6 (fun b hb => by simp at hb; subst hb; exact ⟨_, _, HK95.out⟩))
          have hw6 : w.heap.size ≤ w6.heap.size := by have := o6.size; have := HS.out.2.2.2.2.2.2.1.size; omega
          have bb6 : Below w.heap.size wA w6 := HW.out.2.2.2.2.2.2.1.trans ((HS.out.2.2.2.2.2.2.1.mono hwW).trans (o6.to_below (by have := HS.out.2.2.2.2.2.2.1.size; omega) (by simp; omega)))
          have J4b := J4.set 0 (.slice none 0 0)
          exact ⟨((ko.trans (KeepsOthers.setCell _ _ _)).trans (KeepsOthers.setCell _ _ _)).trans (KeepsOthers.alloc _ _), ⟨rfl, pre, x, rfl, HQ.out⟩,
            (J4b.only ((Only.refl _ [w.heap.size + 1 + 1]).set (p := ⟨w.heap.size + 1 + 1, 0, none⟩) (.inl (by simp)) (.int .i64 10)) (by simp)).below (below_a1 _ _),
            ((J5.only ((Only.refl _ [w.heap.size + 1]).set (p := ⟨w.heap.size + 1, 0, none⟩) (.inl (by simp)) (.slice none 0 0)) (by simp)).set 0 (.int .i64 10)).below (below_a1 _ _),
            ((bb6.setCell (p := ⟨w.heap.size + 1, 0, none⟩) (by simp) (.slice none 0 0)).setCell (p := ⟨w.heap.size + 1 + 1, 0, none⟩) (by simp; omega) (.int .i64 10)).alloc (by simp; omega) _⟩
      · obtain ⟨HK9, HO5, q0, q1, q2, q3⟩ := HKK.out
        obtain ⟨n, hpn⟩ : ∃ n, n = pre.length := ⟨_, rfl⟩
        have HPN := Lib.hid hpn.symm
        have hn1 : n + 1 ≤ 1000000 := by
          have h1 := hC.length_le
          rw [List.length_append, List.length_singleton] at h1
          have := HNN.out
          omega
        have ks := (HS.out.1).only HO5 (by simp; omega)
        have k4 := (HS.out.2.1).only HO5 (by simp; omega)
        have k5 := (HS.out.2.2.1).only HO5 (by simp; omega)
        have k6 := (HS.out.2.2.2.1).only HO5 (by simp; omega)
        have kd := (HS.out.2.2.2.2.2.2.2).only HO5 (by simp; omega)
        have ox := own_only HS.out.2.2.2.2.1 HO5 (fun b hb hm => by simp at hm; subst hm; exact own_ne HS.out.2.2.2.2.1 HK95.out (by decide) hb)
        rw [← hpn] at ox
        obtain ⟨Av, cv, rfl, _, _⟩ := own_lists ox
        have d0 := HK9.cell 0; have d1 := HK9.cell 1; have d2 := HK9.cell 2; have d3 := HK9.cell 3; have d4 := HK9.cell 4; have d5 := HK9.cell 5; have d6 := HK9.cell 6; have d7 := HK9.cell 7; have dl := HK9.lt; simp only [List.getElem?_toArray, List.getElem?_cons_succ, List.getElem?_cons_zero] at d0 d1 d2 d3 d4 d5 d6 d7
        have d9 := kd.cell 0
        have x0 := k6.cell 0
        have xl := k6.lt
        have d9l := kd.lt
        simp only [List.getElem?_toArray, List.getElem?_cons_zero] at x0 d9
        have hwr := HO5.size
        have hw6 : w.heap.size ≤ wr.heap.size := by have := HS.out.2.2.2.2.2.2.1.size; omega
        have HX := Lib.hid (And.intro ks (And.intro k4 (And.intro k5 (And.intro k6 (And.intro ox HO5)))))
        have HQ := Lib.hid (show okCv s x = true by unfold okCv; simp [q0, q1, q2, q3])
        clear hpn ks k4 k5 k6 kd ox HK9 HO5 q0 q1 q2 q3 hC
        gi_wp2_with (gi_at_builtin; refine wpListIn_append_own_at (w := wr.alloc (.cells #[.int .i64 x.1, .int .i64 (dotQ s x.2.1.1 x.2.1.2.1).1, .int .i64 (dotQ s x.2.1.1 x.2.1.2.1).2, .int .i64 (dotQ s x.2.2.1.1 x.2.2.1.2.1).1, .int .i64 (dotQ s x.2.2.1.1 x.2.2.1.2.1).2, .int .i64 (dotQ s x.2.2.2.1.1 x.2.2.2.1.2.1).1, .int .i64 (dotQ s x.2.2.2.1.1 x.2.2.2.1.2.1).2, .int .i64 (dotQ s x.2.2.2.2.1 x.2.2.2.2.2.1).1, .int .i64 (dotQ s x.2.2.2.2.1 x.2.2.2.2.2.1).2] 70)) rfl (.tmp 43) (.tmp 55) 63 rfl w.heap.size 70 i1 (.agg #[.int .i64 0, .int .i64 0, .int .i64 0, .int .i64 0, .int .i64 0, .int .i64 0, .int .i64 0, .int .i64 0, .int .i64 0]) 9 72 Try.underlying63 HI1.out.1 HI1.out.2.1 HI1.out.2.2.1 HI1.out.2.2.2 rfl (by decide) _ n _ rfl (own_stayF HX.out.2.2.2.2.1 (below_a1 _ _)) ⟨wr.heap.size, 0, none⟩ 1 1 (bwL (bowCv s x)) rfl rfl ((lists_row wr (bwL (bowCv s x)) 70).cell _ rfl) (fun u hu => by simp [bwL] at hu; rcases hu with rfl | rfl | rfl | rfl | rfl | rfl | rfl | rfl | rfl <;> rfl) (by simp only [maxLen]; omega) (by omega) (by simp; omega) ?_; intro v6 w6 own6 hg6 hnil6 hat6; obtain ⟨B6, c6, rfl, _, _⟩ := own_lists own6; have o6 : Only wr w6 (blk (.slice Av n cv)) := (only_alloc (Only.refl _ _) _).grown hg6 (fun b hb => .inl (by have h9 : (Value.slice Av n cv).ownBlock = some b := hb; unfold blk; rw [h9]; simp)); have K66 := HX.out.2.2.2.1.only o6 (own_ne HX.out.2.2.2.2.1 HX.out.2.2.2.1 (by decide)); have hf6 := K66.frozen 0; have hc6 := K66.cell 0; have hl6 := K66.lt)
        have PE := push_endO (T := 63) (k0 := 0) (by decide) HX.out.2.2.2.1 HX.out.2.2.2.2.1 hw6 o6 own6 (fun b hb => by
          rcases hat6 with h1 | h1
          · left; unfold blk at hb ⊢; rw [h1] at hb; exact hb
          · right
            unfold blk at hb
            rw [h1] at hb
            simp at hb
            omega) rfl
        have hoa := ownAt_blk HX.out.2.2.2.1
        have bl : Below w.heap.size W w6 := (HS.out.2.2.2.2.2.2.1.mono hwW).trans ((HX.out.2.2.2.2.2.to_below (by have := HS.out.2.2.2.2.2.2.1.size; omega) (by simp; omega)).trans (o6.to_below hw6 (fun b hb => own_lowB HX.out.2.2.2.2.1 b hb)))
        have bl2 := bl.setCell (p := ⟨(w.heap.size + 1 + 1 + 1), 0, none⟩) (by simp; omega) (.slice B6 (n + 1) c6)
        refine ⟨((koB HS.out.2.2.2.2.2.2.1).trans (koO HX.out.2.2.2.2.2 (fun b hb => by simp at hb; subst hb; exact ⟨_, _, HK95.out⟩))).trans PE.1, bl2.mono hz, _, Lib.hid ⟨?_, ?_, ?_, PE.2.2.1, ?_, ?_, HW.out.2.2.2.2.2.2.1.trans bl2⟩⟩
        · exact PE.2.1.blk HX.out.1 (by omega) (by rw [hoa]; exact own_ne HX.out.2.2.2.2.1 HX.out.1 (by decide))
        · exact PE.2.1.blk HX.out.2.1 (by omega) (by rw [hoa]; exact own_ne HX.out.2.2.2.2.1 HX.out.2.1 (by decide))
        · exact PE.2.1.blk HX.out.2.2.1 (by omega) (by rw [hoa]; exact own_ne HX.out.2.2.2.2.1 HX.out.2.2.1 (by decide))
        · rw [List.length_append, HPN.out, List.map_append, List.flatMap_append]
          simpa using PE.2.2.2
        · rw [List.all_append, HS.out.2.2.2.2.2.1]
          simp [HQ.out]
  case done =>
    rintro D xs V hD hxs ⟨v, H⟩ hK
    obtain ⟨ks, k4, k5, k6, ox, hall, hb⟩ := H.out
    obtain ⟨n, hpn⟩ : ∃ n, n = xs.length := ⟨_, rfl⟩
    rw [← hpn] at ox
    obtain ⟨Av, cv, rfl, _, _⟩ := own_lists ox
    have x0 := k6.cell 0
    have xl := k6.lt
    have x4 := k4.cell 0
    have x5 := k5.cell 0
    have l4 := k4.lt
    have l5 := k5.lt
    have f4 := k4.frozen 0
    have f5 := k5.frozen 0
    simp only [List.getElem?_toArray, List.getElem?_cons_zero] at x0 x4 x5
    have HX := Lib.hid (And.intro k4 (And.intro k5 (And.intro ox (And.intro hall (And.intro hb (And.intro hK (And.intro hpn hxs)))))))
    clear ks k4 k5 k6 ox hall hb hK SEQ hpn hxs
    go_wp2
    obtain ⟨Vf, hVf⟩ : ∃ Vf, Vf = (V.setCell ⟨w.heap.size + 1, 0, none⟩ (.slice Av n cv)).setCell ⟨w.heap.size + 1 + 1, 0, none⟩ (.int .i64 0) := ⟨_, rfl⟩
    rw [← hVf]
    have o2 : Only V Vf [w.heap.size + 1, w.heap.size + 1 + 1] := hVf ▸ ((Only.refl V _).set (.inl (by simp)) _).set (.inl (by simp)) _
    have g4 : Blk Vf (w.heap.size + 1) 63 #[.slice Av n cv] := hVf ▸ (HX.out.1.set 0 _).only ((Only.refl _ [w.heap.size + 1 + 1]).set (.inl (by simp)) _) (by simp)
    have g5 : Blk Vf (w.heap.size + 1 + 1) 28 #[.int .i64 0] := hVf ▸ (HX.out.2.1.only ((Only.refl _ [w.heap.size + 1]).set (.inl (by simp)) _) (by simp)).set 0 _
    have own2 : Vf.ownsRow w.heap.size 70 9 (.slice Av n cv) n ((xs.map (bowCv s)).flatMap bwL) := own_only HX.out.2.2.1 o2 (fun b hb hm => by
      simp at hm
      rcases hm with rfl | rfl
      · exact own_ne HX.out.2.2.1 HX.out.1 (by decide) hb
      · exact own_ne HX.out.2.2.1 HX.out.2.1 (by decide) hb)
    have bl : Below w.heap.size wA Vf := hVf ▸ (HX.out.2.2.2.2.1.setCell (p := ⟨w.heap.size + 1, 0, none⟩) (by simp) _).setCell (p := ⟨w.heap.size + 1 + 1, 0, none⟩) (by simp; omega) _
    have hK2 : Vf.heap[D]? = some (.deferred (some [])) := hVf ▸ ((KeepsOthers.setCell _ _ _).same D _ ((KeepsOthers.setCell _ _ _).same D _ HX.out.2.2.2.2.2.1 rfl) rfl)
    have c4 := (put_blk hK2 g4 (.deferred none)).cell 0
    have c5 := (put_blk hK2 g5 (.deferred none)).cell 0
    simp only [List.getElem?_toArray, List.getElem?_cons_zero] at c4 c5
    have hxs := HX.out.2.2.2.2.2.2.2
    have hpn := HX.out.2.2.2.2.2.2.1
    subst hxs
    refine retM1 rfl hK2 (v := .tuple #[.slice Av n cv, .int .i64 0]) (by simp [results, Try.f37, go_sem, c4, c5]) ⟨_, by rw [if_pos HX.out.2.2.2.1], fun _ => by rw [← hpn]; exact ownK own2 (grownBy_putObj' _ D _) (fun r e => by cases e; exact ⟨_, hK2, rfl⟩), fun h => absurd HX.out.2.2.2.1 (by rw [h]; simp), (HB0.out.trans bl).trans (put_below (by omega) _)⟩
  case stop =>
    rintro D cc2 pre V hD hSp ⟨⟨rfl, pr, y, rfl, hy⟩, k4, k5, hb⟩ hK
    have c4 := (put_blk hK k4 (.deferred none)).cell 0
    have c5 := (put_blk hK k5 (.deferred none)).cell 0
    simp only [List.getElem?_toArray, List.getElem?_cons_zero] at c4 c5
    have hall := all_pre hSp hy
    have HX := Lib.hid (And.intro hb hK)
    clear k4 k5 hb hK SEQ
    gi_wp2
    refine retM1 rfl HX.out.2 (v := .tuple #[.slice none 0 0, .int .i64 10]) (by simp [results, Try.f37, go_sem, c4, c5]) ⟨_, by rw [if_neg (by rw [hall]; simp)], fun h => absurd h (by rw [hall]; simp), fun _ => rfl, (HB0.out.trans HX.out.1).trans (put_below (by omega) _)⟩
end Go.Proofs.Ytlacjifnniahhaa
