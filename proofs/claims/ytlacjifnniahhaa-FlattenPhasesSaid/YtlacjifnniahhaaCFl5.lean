/- Part 6 of the proof: RangeB, FlG, FlH, Wide, MixI, MixT, Eq4. -/
import Derived.RangeFuncKeeps
import Derived.RangeFuncCalls
import Derived.RangeFuncLeaves
import Derived.RangeFuncNested
import Derived.RangeFuncBound
import Derived.Deep.Cut
import Derived.Deep.CutBlock
import Derived.RangeFuncFrom
import Derived.Shelf.Abstract
import Derived.Shelf.RegionOpen
import Derived.WalkKit
import Derived.OwnWalkIn
import Derived.TacticsInMore
import Derived.LoopNIn
import Derived.LoopIn
import Derived.Deep.DeepAppendWide
import Derived.Test.YtlacjifnniahhaaCFl4

namespace Go.Proofs.Ytlacjifnniahhaa
open Go Go.RowKit
set_option linter.unusedVariables false
variable {P : Program}

theorem blkB {β : Type} {B p : Nat} {T : TypeId} {cs : Array Value} : OwnFrom B (fun (_ : β) W => Blk W p T cs) := fun s X Y row hs hg hr =>
  (hg.block p hs.lt (fun e => by obtain ⟨_, o, ho, hc⟩ := hr p e.symm; rw [show X.heap[p]? = _ from hs] at ho; cases ho; cases hc)).trans hs
theorem blkBs {β : Type} {B p : Nat} {T : TypeId} {cs : β → Array Value} : OwnFrom B (fun s W => Blk W p T (cs s)) := fun s X Y row hs hg hr => (blkB (β := Unit)) () X Y row hs hg hr
theorem ownB_pure {β : Type} {B : Nat} (p : β → Prop) : OwnFrom B (fun s (_ : World) => p s) := fun _ _ _ _ hs _ _ => hs
theorem kpxB {β : Type} {B nb : Nat} {fp : List Nat} {w0 : World} (h : nb ≤ B) (h2 : nb ≤ w0.heap.size) : OwnFrom B (fun (_ : β) W => KpX nb fp w0 W) := fun s X Y row hs hg hr =>
  hs.trans ⟨hg.os, hg.tape, hg.output, hg.size, fun b hb hf => hg.block b (by have := hs.size; omega) (fun e => by have := (hr b e.symm).1; omega)⟩
theorem belowB {β : Type} {B n0 : Nat} {w0 : World} (h : n0 ≤ B) (h2 : n0 ≤ w0.heap.size) : OwnFrom B (fun (_ : β) W => Below n0 w0 W) := fun s X Y row hs hg hr =>
  hs.trans ⟨hg.os, hg.tape, hg.output, hg.size, fun b hb => hg.block b (by have := hs.size; omega) (fun e => by have := (hr b e.symm).1; omega)⟩
theorem sizeB {β : Type} {B n0 : Nat} : OwnFrom B (fun (_ : β) W => n0 ≤ W.heap.size) := fun s X Y row hs hg hr => Nat.le_trans hs hg.size

theorem retM0 {F : Fence} {n : Nat} {fn : Func} {R : Ending → World → Prop} {a : Act} {w : World} {v : Value} (hd : a.defers = []) (h : (results fn a.tmps).run P w = .ok v w) (hR : R (.returned v) w) : bodyPostM F n P fn R .ret a w := by
  show LeavesInM F n P fn a.tmps R a.defers .returning w
  rw [hd]
  exact ⟨v, h, hR⟩
theorem retM1 {F : Fence} {n : Nat} {fn : Func} {R : Ending → World → Prop} {a : Act} {w : World} {v : Value} {D : Nat} (hd : a.defers = [{ target := .collected D, args := #[] }]) (hK : w.heap[D]? = some (.deferred (some [])))
    (h : (results fn a.tmps).run P (w.putObj D (.deferred none)) = .ok v (w.putObj D (.deferred none))) (hR : R (.returned v) (w.putObj D (.deferred none))) : bodyPostM F n P fn R .ret a w := by
  show LeavesInM F n P fn a.tmps R a.defers .returning w
  rw [hd]
  exact ⟨by simp, .inl ⟨D, _, rfl, run_takeDeferred hK, v, h, hR⟩⟩
theorem put_blk {w : World} {D p : Nat} {T : TypeId} {cs : Array Value} (hK : w.heap[D]? = some (.deferred (some []))) (h : Blk w p T cs) (o : Obj) : Blk (w.putObj D o) p T cs :=
  (World.putObj_heap_other (fun e => by subst e; rw [show w.heap[p]? = _ from h] at hK; cases hK)).trans h
theorem put_below {w : World} {D n0 : Nat} (h : n0 ≤ D) (o : Obj) : Below n0 w (w.putObj D o) := ⟨rfl, rfl, rfl, by simp [World.putObj], fun b hb => World.putObj_heap_other (by omega)⟩

theorem koB {W V : World} (h : Below W.heap.size W V) : KeepsOthers W V := ⟨h.size, fun k o hk _ => (h.block k (Array.getElem?_eq_some_iff.1 hk).1).trans hk⟩
theorem koO {W V : World} {fp : List Nat} (h : Only W V fp) (hf : ∀ b ∈ fp, ∃ T cs, Blk W b T cs) : KeepsOthers W V := ⟨h.size, fun k o hk ho => (h.block k (Array.getElem?_eq_some_iff.1 hk).1 (fun hm => by
  obtain ⟨T, cs, hb⟩ := hf k hm
  rw [show W.heap[k]? = _ from hb] at hk
  cases hk; cases ho)).trans hk⟩

section
variable {α : Type} {g : Operand} {ps : Array Tmp} {assign body : Code} {Q : Exit → Act → World → Prop} {a : Act} {w : World} {gf : Nat} {lb : Array Value}
  {encs : α → Array Value} {C : List α → α → World → Prop} {Kp : World → World → Prop} {S Sp : List α → Prop} {w0 : World}
theorem wpIn_rangeB1 (hg : a.eval g = .func (.func gf) #[] lb) (eg : ∀ args w, (callFunc gf args).run P w = .ok (.enter gf args) w)
    (hseq : SeqC Fence.wide 2 P gf lb encs C Kp S Sp w0) (hKt : ∀ {X Y Z : World}, Kp X Y → Kp Y Z → Kp X Z)
    (hKb : ∀ (W : World) (l : Nat) (o o' : Obj), w.heap.size ≤ l → W.heap[l]? = some o → o.isCells = false → o.isWalk = false → Kp W (W.putObj l o'))
    (hKa : ∀ (W : World) (o : Obj), w.heap.size ≤ W.heap.size → Kp W (W.alloc o))
    (hb0 : Below w0.heap.size w0 w) (hps : ∀ x, (encs x).size = ps.size) (hC : ∀ pre, OwnFrom w.heap.size (C pre))
    (T : TypeId) (cs : α → Array Value) (q p : Nat) (v : α → Value)
    (I : List α → World → Prop) (Ix : Code → List α → World → Prop) (hI : OwnFrom w.heap.size I) (hIx : ∀ c, OwnFrom w.heap.size (Ix c)) (hIs : ∀ pre W, I pre W → w.heap.size ≤ W.heap.size) (h0 : I [] w)
    (hassign : ∀ (l : Nat) (x : α) (W : World) (K : Act → World → Prop), K { tmps := (a.tmps.setIfInBounds q (v x)).setIfInBounds p (.pointer (some ⟨W.heap.size, 0, none⟩)), defers := [] } (W.alloc (.cells (cs x) T)) →
      assign.wpIn (Fence.wide.inRound l) 1 P (Exit.then K (fun _ _ _ => False)) { tmps := (ps.zip (encs x)).foldl (fun t (p, v) => t.setIfInBounds p v) a.tmps, defers := [] } W)
    (hbody : ∀ (l : Nat) (pre : List α) (x : α) (Bd : Nat) (W : World), I pre W → C pre x W → w.heap.size ≤ Bd → Blk W Bd T (cs x) → body.wpIn (Fence.wide.inRound l) 1 P (outC Kp I Ix (pre ++ [x]) W) { tmps := (a.tmps.setIfInBounds q (v x)).setIfInBounds p (.pointer (some ⟨Bd, 0, none⟩)), defers := [] } W)
    (hdone : ∀ (D : Nat) (xs : List α) (W : World), w.heap.size ≤ D → S xs → I xs W → W.heap[D]? = some (.deferred (some [])) →
      Q .normal { a with defers := { target := .collected D, args := #[] } :: a.defers } W)
    (hstop : ∀ (D : Nat) (c : Code) (pre : List α) (W : World), w.heap.size ≤ D → Sp pre → Ix c pre W → W.heap[D]? = some (.deferred (some [])) →
      c.wpIn Fence.wide 3 P Q { a with defers := { target := .collected D, args := #[] } :: a.defers } W) :
    (Code.rangeFunc g ps assign body).wpIn Fence.wide 3 P Q a w := by
  refine wpIn_rangeCA rfl (by omega) hg trivial eg hseq hKt hKb hb0 hps hC I Ix hI hIx h0
    (fun x a' W => ∃ Bd, w.heap.size ≤ Bd ∧ Blk W Bd T (cs x) ∧ a' = { tmps := (a.tmps.setIfInBounds q (v x)).setIfInBounds p (.pointer (some ⟨Bd, 0, none⟩)), defers := [] })
    (fun x a' _ X Y row hs hg hr => by
      obtain ⟨Bd, h1, h2, h3⟩ := hs
      exact ⟨Bd, h1, (blkB (β := Unit)) () X Y row h2 hg hr, h3⟩)
    ?_ ?_ hdone hstop
  · intro l pre x W K hi hc hK
    refine hassign l x W K (hK _ _ (below_a1 _ _) (hKa _ _ (hIs _ _ hi)) (hI.alloc _ hi) ((hC pre).alloc _ hc) ⟨W.heap.size, hIs _ _ hi, Blk.new _ _ _, rfl⟩)
  · rintro l pre x a' W hi hc ⟨Bd, h1, h2, rfl⟩
    exact hbody l pre x Bd W hi hc h1 h2
theorem wpIn_rangeB2 (hg : a.eval g = .func (.func gf) #[] lb) (eg : ∀ args w, (callFunc gf args).run P w = .ok (.enter gf args) w)
    (hseq : SeqC Fence.wide 2 P gf lb encs C Kp S Sp w0) (hKt : ∀ {X Y Z : World}, Kp X Y → Kp Y Z → Kp X Z)
    (hKb : ∀ (W : World) (l : Nat) (o o' : Obj), w.heap.size ≤ l → W.heap[l]? = some o → o.isCells = false → o.isWalk = false → Kp W (W.putObj l o'))
    (hKa : ∀ (W : World) (o : Obj), w.heap.size ≤ W.heap.size → Kp W (W.alloc o))
    (hb0 : Below w0.heap.size w0 w) (hps : ∀ x, (encs x).size = ps.size) (hC : ∀ pre, OwnFrom w.heap.size (C pre))
    (T1 T2 : TypeId) (cs1 cs2 : α → Array Value) (q1 p1 q2 p2 : Nat) (v1 v2 : α → Value)
    (I : List α → World → Prop) (Ix : Code → List α → World → Prop) (hI : OwnFrom w.heap.size I) (hIx : ∀ c, OwnFrom w.heap.size (Ix c)) (hIs : ∀ pre W, I pre W → w.heap.size ≤ W.heap.size) (h0 : I [] w)
    (hassign : ∀ (l : Nat) (x : α) (W : World) (K : Act → World → Prop), K { tmps := (((a.tmps.setIfInBounds q1 (v1 x)).setIfInBounds q2 (v2 x)).setIfInBounds p1 (.pointer (some ⟨W.heap.size, 0, none⟩))).setIfInBounds p2 (.pointer (some ⟨W.heap.size + 1, 0, none⟩)), defers := [] } ((W.alloc (.cells (cs1 x) T1)).alloc (.cells (cs2 x) T2)) →
      assign.wpIn (Fence.wide.inRound l) 1 P (Exit.then K (fun _ _ _ => False)) { tmps := (ps.zip (encs x)).foldl (fun t (p, v) => t.setIfInBounds p v) a.tmps, defers := [] } W)
    (hbody : ∀ (l : Nat) (pre : List α) (x : α) (Bd : Nat) (W : World), I pre W → C pre x W → w.heap.size ≤ Bd → Blk W Bd T1 (cs1 x) → Blk W (Bd + 1) T2 (cs2 x) → body.wpIn (Fence.wide.inRound l) 1 P (outC Kp I Ix (pre ++ [x]) W) { tmps := (((a.tmps.setIfInBounds q1 (v1 x)).setIfInBounds q2 (v2 x)).setIfInBounds p1 (.pointer (some ⟨Bd, 0, none⟩))).setIfInBounds p2 (.pointer (some ⟨Bd + 1, 0, none⟩)), defers := [] } W)
    (hdone : ∀ (D : Nat) (xs : List α) (W : World), w.heap.size ≤ D → S xs → I xs W → W.heap[D]? = some (.deferred (some [])) →
      Q .normal { a with defers := { target := .collected D, args := #[] } :: a.defers } W)
    (hstop : ∀ (D : Nat) (c : Code) (pre : List α) (W : World), w.heap.size ≤ D → Sp pre → Ix c pre W → W.heap[D]? = some (.deferred (some [])) →
      c.wpIn Fence.wide 3 P Q { a with defers := { target := .collected D, args := #[] } :: a.defers } W) :
    (Code.rangeFunc g ps assign body).wpIn Fence.wide 3 P Q a w := by
  refine wpIn_rangeCA rfl (by omega) hg trivial eg hseq hKt hKb hb0 hps hC I Ix hI hIx h0
    (fun x a' W => ∃ Bd, w.heap.size ≤ Bd ∧ Blk W Bd T1 (cs1 x) ∧ Blk W (Bd + 1) T2 (cs2 x) ∧ a' = { tmps := (((a.tmps.setIfInBounds q1 (v1 x)).setIfInBounds q2 (v2 x)).setIfInBounds p1 (.pointer (some ⟨Bd, 0, none⟩))).setIfInBounds p2 (.pointer (some ⟨Bd + 1, 0, none⟩)), defers := [] })
    (fun x a' _ X Y row hs hg hr => by
      obtain ⟨Bd, h1, h2, h3, h4⟩ := hs
      exact ⟨Bd, h1, (blkB (β := Unit)) () X Y row h2 hg hr, (blkB (β := Unit)) () X Y row h3 hg hr, h4⟩)
    ?_ ?_ hdone hstop
  · intro l pre x W K hi hc hK
    have hs := hIs _ _ hi
    have hs2 : w.heap.size ≤ (W.alloc (.cells (cs1 x) T1)).heap.size := by rw [World.size_alloc]; omega
    have K1 := (Blk.new W T1 (cs1 x)).below (below_a1 _ (.cells (cs2 x) T2))
    have K2 := Blk.new (W.alloc (.cells (cs1 x) T1)) T2 (cs2 x)
    rw [World.size_alloc] at K2
    exact hassign l x W K (hK _ _ (below_a2 _ _ _) (hKt (hKa _ _ hs) (hKa _ _ hs2)) (hI.alloc _ (hI.alloc _ hi)) ((hC pre).alloc _ ((hC pre).alloc _ hc)) ⟨W.heap.size, hs, K1, K2, rfl⟩)
  · rintro l pre x a' W hi hc ⟨Bd, h1, h2, h3, rfl⟩
    exact hbody l pre x Bd W hi hc h1 h2 h3
end
end Go.Proofs.Ytlacjifnniahhaa

namespace Go.Proofs.Ytlacjifnniahhaa
open Go Go.RowKit Go.Shelf
attribute [local go_sem] Oper.semAt_some
set_option linter.unusedVariables false
set_option linter.unusedSimpArgs false

theorem all_pre {α : Type} {p : α → Bool} {pre M : List α} {x : α} (h : pre ++ [x] <+: M) (hf : p x = false) : M.all p = false := by
  obtain ⟨t, rfl⟩ := h
  simp [hf]
set_option maxRecDepth 100000 in
set_option maxHeartbeats 2000000 in
theorem fmay_any (A : Option Addr) (c : Nat) (Ls : List (List Dt)) (w : World) (h : OutF dtL w w.heap.size A Ls) (hs : SmF Ls) : Calls Try.prog 19 #[.slice A Ls.length c] w fun e w' => e = .returned (.int .i64 (mayF Ls)) ∧ Below w.heap.size w w' := by
  obtain ⟨n, hn⟩ : ∃ n, n = Ls.length := ⟨_, rfl⟩
  have hn1 : n ≤ 100000 := by rw [hn]; exact hs.1
  have hc1 := hs.2
  have K0 := Blk.new w 28 #[.int .i64 0]
  have B0 := below_a1 w (.cells #[.int .i64 0] 28)
  obtain ⟨wA, hwA⟩ : ∃ wA, wA = w.alloc (.cells #[.int .i64 0] 28) := ⟨_, rfl⟩
  rw [← hwA] at K0 B0
  have hsz : wA.heap.size = w.heap.size + 1 := by rw [hwA, World.size_alloc]
  have HA := Lib.hid (And.intro hwA (And.intro hsz B0))
  have HK := Lib.hid K0
  have HN := Lib.hid hn
  have HH := Lib.hid (And.intro (h.below B0) hs)
  rw [← hn]
  clear hn hwA hsz B0 K0 h hs
  refine (callsIn_wide (n := 3)).1 ?_
  refine callsIn_of_wp_marks Try.func19 rfl trivial ?_
  simp only [Try.ntmps19, List.size_toArray, List.length_cons, List.length_nil, Nat.reduceAdd, Nat.reduceSub, Array.replicate_succ, Array.replicate_zero, List.push_toArray, List.append_toArray, List.nil_append, List.cons_append]
  refine wpIn_wide.2 ?_
  go_upto_region 1 with fail
  rw [← HA.out.1]
  go_upto_region 3 with fail
  go_loopw [3, 9] (fun s i wr => ∃ k : Nat, k ≤ n ∧ i = .int .i64 k ∧ s = .int .i64 (cntF (Ls.take k) : Nat) ∧ wr = wA) (fun _ i _ => n - (intOf i).toNat)
  case atStart => exact ⟨0, Nat.zero_le _, rfl, rfl, rfl⟩
  case round =>
    obtain ⟨k, hk, rfl, rfl, rfl⟩ := hrel
    by_cases hlt : k < n
    · have d1 : decide ((k : Int) < (n : Int)) = true := by simp; omega
      obtain ⟨L, hL⟩ := at_someF (L := Ls) (k := k) (by rw [← HN.out]; exact hlt)
      obtain ⟨b, o, Ai, ci, rfl, hbl, c0, hE⟩ := HH.out.1.at' k L hL
      have hbl2 : b < wr.heap.size := by have := HA.out.2.1; omega
      have HT := Lib.hid (show cntF (Ls.take (k + 1)) = cntF (Ls.take k) + L.length by rw [take_snocF hL, cntF_snoc])
      have hT1 := cntF_take Ls (k + 1)
      obtain ⟨t0, ht0⟩ : ∃ t0, t0 = cntF (Ls.take k) := ⟨_, rfl⟩
      rw [← ht0] at HT ⊢
      obtain ⟨m, hm⟩ : ∃ m, m = L.length := ⟨_, rfl⟩
      rw [← hm] at HT c0
      have ht2 : t0 + m ≤ 100000 := by have := HT.out; omega
      clear hE hL hT1 ht0 hm
      go_wp2
      go_roundw
      case rel => exact ⟨k + 1, by omega, by go_num, by rw [HT.out]; go_num, trivial⟩
      case measure => simp [intOf]; omega
    · obtain rfl : n = k := by omega
      have d1 : decide ((n : Int) < (n : Int)) = false := by simp
      have HT := Lib.hid (show cntF (Ls.take n) = cntF Ls by rw [List.take_of_length_le (by rw [← HN.out]; exact Nat.le_refl _)])
      rw [HT.out]
      obtain ⟨t0, ht0⟩ : ∃ t0, t0 = cntF Ls := ⟨_, rfl⟩
      rw [← ht0] at hc1 ⊢
      have HT0 := Lib.hid ht0
      have f0 := HK.out.cell 0
      have fl := HK.out.lt
      clear ht0
      have fr := HK.out.frozen 0
      by_cases hbig : 65536 < t0
      · have HR := Lib.hid (show mayF Ls = 3 by unfold mayF; rw [← HT0.out, if_pos hbig])
        go_wp2
        have c0 := (HK.out.set 0 (.int .i64 3)).cell 0
        refine retM0 rfl (v := .int .i64 3) (by simp [results, Try.f19, go_sem, c0]) ⟨by rw [HR.out], ?_⟩
        exact HA.out.2.2.trans (((Only.refl _ [w.heap.size]).set (.inl (by simp)) _).to_below (by rw [HA.out.2.1]; omega) (by simp))
      · have dbig : decide (65536 < (t0 : Int)) = false := by simp; omega
        have HT1 := Lib.hid (show cntF Ls ≤ 65536 by rw [← HT0.out]; omega)
        go_upto_region 9 with fail
        go_wp2_with (go_at_call 48; (with_reducible refine (feach_any A n c _).mono ?_); rintro e w1 ⟨rfl, hw1⟩)
        have B1 : Below wr.heap.size wr w1 := hw1 ▸ below_a1 _ _
        have KX : Blk w1 wr.heap.size 39 #[.slice A n c] := hw1 ▸ Blk.new _ _ _
        have K1 := HK.out.below B1
        obtain ⟨bx, hbx⟩ : ∃ bx, bx = wr.heap.size := ⟨_, rfl⟩
        rw [← hw1]
        rw [← hbx] at KX ⊢
        have hx1 := KX.lt
        have hrb : w.heap.size < bx := by rw [hbx]; exact fl
        have HO := (HH.out.1.below (B1.mono (by have := HA.out.2.1; omega)))
        have kx : w1.cell? ⟨bx, 0, none⟩ = some (.slice A Ls.length c) := by rw [← HN.out]; exact KX.cell 0
        have BW : Below w.heap.size w w1 := HA.out.2.2.trans (B1.mono HA.out.2.2.size)
        have HBW := Lib.hid BW
        clear hw1 hbx B1 KX f0 fl fr
        refine (wpIn_wide (n := 3)).1 ?_
        refine wpIn_rangeB1 (gf := 75) (lb := #[.pointer (some ⟨bx, 0, none⟩)]) rfl (enters_of Try.func75 (by kernel_rfl) rfl)
          (each_stops bx w1.heap.size w.heap.size [] A c Ls w1 kx hx1 (Nat.le_refl _) HO (by have := BW.size; omega) (by simp) HH.out.2) KpX.trans (kpX_b (Nat.le_refl _)) (fun W o h => KpX.of ((Below.refl _ _).alloc h o)) (Below.refl _ _) (fun _ => rfl) (fun pre => ownB_pure _)
          27 (fun x => #[.int .i64 x.1, .int .i64 x.2]) 22 6 (fun x => .agg #[.int .i64 x.1, .int .i64 x.2])
          (fun pre V => pre.all ltF = true ∧ Blk V w.heap.size 28 #[.int .i64 0] ∧ Below w1.heap.size w1 V)
          (fun c pre V => (c = .ret ∧ ∃ pr y, pre = pr ++ [y] ∧ ltF y = false) ∧ Blk V w.heap.size 28 #[.int .i64 10] ∧ Below w.heap.size w1 V)
          (OwnFrom.and (ownB_pure _) (OwnFrom.and blkB (belowB (Nat.le_refl _) (Nat.le_refl _))))
          (fun c => OwnFrom.and (ownB_pure _) (OwnFrom.and blkB (belowB BW.size BW.size)))
          (fun pre V h => h.2.2.size) ⟨rfl, K1, Below.refl _ _⟩ ?assign ?body ?done ?stop
        case assign =>
          intro l x W K hK
          gi_wp2
          simpa using hK
        case body =>
          rintro l pre x Bd W ⟨i1, i2, i3⟩ hC hBd hb
          simp only [List.setIfInBounds_toArray, List.set_cons_zero, List.set_cons_succ]
          have CD := fun V => fmaydot_any x V
          have z0 := hb.cell 0; have z1 := hb.cell 1; have zl := hb.lt; simp only [List.getElem?_toArray, List.getElem?_cons_succ, List.getElem?_cons_zero] at z0 z1
          have HI := Lib.hid (And.intro i1 (And.intro i2 i3))
          cases hx : ltF x <;> rw [hx] at CD
          · have HX := Lib.hid hx
            clear i1 i2 i3 hx hb
            gi_wp2_with (refine ⟨trivial, ?_⟩; gi_at_call 31; (with_reducible refine (CallsIn.inRound l (callsIn_wide.2 (CD _))).mono ?_); rintro e w5 ⟨rfl, b5⟩; have HB5 := Lib.hid b5; have i5 := HI.out.2.1.below b5; have g0 := i5.cell 0; have gl := i5.lt; have gr := i5.frozen 0)
            refine ⟨(koB HB5.out).trans (KeepsOthers.setCell _ _ _), ⟨rfl, pre, x, rfl, HX.out⟩, (HI.out.2.1.below HB5.out).set 0 (.int .i64 10), ?_⟩
            exact (HI.out.2.2.mono BW.size).trans ((HB5.out.mono (by have := HI.out.2.2.size; have := BW.size; omega)).setCell (p := ⟨w.heap.size, 0, none⟩) (by simp) _)
          · have HX := Lib.hid hx
            clear i1 i2 i3 hx hb
            gi_wp2_with (refine ⟨trivial, ?_⟩; gi_at_call 31; (with_reducible refine (CallsIn.inRound l (callsIn_wide.2 (CD _))).mono ?_); rintro e w5 ⟨rfl, b5⟩; have HB5 := Lib.hid b5)
            have hsz := HI.out.2.2.size
            exact ⟨koB HB5.out, KpX.of (HB5.out.mono hsz), by rw [List.all_append, HI.out.1]; simp [HX.out], HI.out.2.1.below HB5.out, HI.out.2.2.trans (HB5.out.mono hsz)⟩
        case done =>
          rintro D xs V hD rfl ⟨i1, i2, i3⟩ hK
          have HR := Lib.hid (show mayF Ls = 0 by unfold mayF; rw [if_neg (by have := HT1.out; omega), if_pos i1])
          have g0 := i2.cell 0
          have gl := i2.lt
          have gr := i2.frozen 0
          have HI := Lib.hid (And.intro i2 (And.intro i3 hK))
          clear i1 i2 i3
          go_wp2
          have hK2 := (KeepsOthers.setCell V ⟨w.heap.size, 0, none⟩ (.int .i64 0)).same D _ HI.out.2.2 rfl
          have c0 := (put_blk hK2 (HI.out.1.set 0 (.int .i64 0)) (.deferred none)).cell 0
          refine retM1 rfl hK2 (v := .int .i64 0) (by simp [results, Try.f19, go_sem, c0]) ⟨by rw [HR.out], ?_⟩
          exact (HBW.out.trans ((HI.out.2.1.mono HBW.out.size).setCell (p := ⟨w.heap.size, 0, none⟩) (by simp) _)).trans (put_below (by have := HBW.out.size; omega) _)
        case stop =>
          rintro D cc pre V hD hSp ⟨⟨rfl, pr, y, rfl, hy⟩, i2, i3⟩ hK
          have HR := Lib.hid (show mayF Ls = 10 by unfold mayF; rw [if_neg (by have := HT1.out; omega), all_pre hSp hy]; rfl)
          have HI := Lib.hid (And.intro i2 (And.intro i3 hK))
          clear i2 i3 hy
          gi_wp2
          have c0 := (put_blk HI.out.2.2 HI.out.1 (.deferred none)).cell 0
          refine retM1 rfl HI.out.2.2 (v := .int .i64 10) (by simp [results, Try.f19, go_sem, c0]) ⟨by rw [HR.out], ?_⟩
          exact (HBW.out.trans HI.out.2.1).trans (put_below (by have := HBW.out.size; omega) _)
end Go.Proofs.Ytlacjifnniahhaa

namespace Go.Proofs.Ytlacjifnniahhaa
open Go Go.RowKit Go.Shelf
attribute [local go_sem] Oper.semAt_some
set_option linter.unusedVariables false
set_option linter.unusedSimpArgs false

theorem lnP_in {X : List (Dt × Dt)} {pre : List (Dt × Dt)} {x : Dt × Dt} (h : X.all ltP = true) (hp : pre ++ [x] <+: X) : pre.all ltP = true ∧ ltF x.1 = true ∧ ltF x.2 = true ∧ pre.length + 1 ≤ X.length := by
  obtain ⟨t, rfl⟩ := hp
  simp only [List.all_append, List.all_cons, List.all_nil, Bool.and_true, Bool.and_eq_true] at h
  have hx := h.1.2
  unfold ltP at hx
  rw [Bool.and_eq_true] at hx
  exact ⟨h.1.1, hx.1, hx.2, by simp⟩
set_option maxRecDepth 100000 in
set_option maxHeartbeats 2000000 in
theorem farea_bad (A : Option Addr) (c : Nat) (Ls : List (List Dt)) (w : World) (h : OutF dtL w w.heap.size A Ls) (hs : SmF Ls) (hb : mayF Ls ≠ 0) : Calls Try.prog 22 #[.slice A Ls.length c] w fun e w' => e = .returned (.tuple #[.int .i64 0, .int .i64 (mayF Ls)]) ∧ Below w.heap.size w w' := by
  have CM := fmay_any A c Ls w h hs
  obtain ⟨e0, he0⟩ : ∃ e0, e0 = mayF Ls := ⟨_, rfl⟩
  rw [← he0] at CM hb ⊢
  have d1 : (e0 != 0) = true := by simpa using hb
  clear he0 h hs
  refine (callsIn_wide (n := 3)).1 ?_
  refine callsIn_of_wp_marks Try.func22 rfl trivial ?_
  simp only [Try.ntmps22, List.size_toArray, List.length_cons, List.length_nil, Nat.reduceAdd, Nat.reduceSub, Array.replicate_succ, Array.replicate_zero, List.push_toArray, List.append_toArray, List.nil_append, List.cons_append]
  refine wpIn_wide.2 ?_
  go_wp2_with (go_at_call 19; (with_reducible refine (CM).mono ?_); rintro e w1 ⟨rfl, b1⟩)
  refine retM0 rfl (v := .tuple #[.int .i64 0, .int .i64 e0]) (by simp [results, Try.f22, go_sem]) ⟨rfl, b1⟩
set_option maxRecDepth 100000 in
set_option maxHeartbeats 2000000 in
theorem farea_ok (A : Option Addr) (c : Nat) (Ls : List (List Dt)) (w : World) (h : OutF dtL w w.heap.size A Ls) (hs : SmF Ls) (hb : mayF Ls = 0) : Calls Try.prog 22 #[.slice A Ls.length c] w fun e w' => e = .returned (.tuple #[.int .i64 (arF (lnA Ls)), .int .i64 0]) ∧ Below w.heap.size w w' := by
  have CM := fmay_any A c Ls w h hs
  rw [hb] at CM
  have hok := mayF_ok hb
  have HM := Lib.hid (And.intro (show (lnA Ls).length ≤ 65536 by rw [lnA_len]; exact hok.1) (lnA_all hok.2))
  have HH := Lib.hid (And.intro h hs)
  obtain ⟨n, hn⟩ : ∃ n, n = Ls.length := ⟨_, rfl⟩
  rw [← hn] at CM ⊢
  have HN := Lib.hid hn
  clear h hs hb hok hn
  refine (callsIn_wide (n := 3)).1 ?_
  refine callsIn_of_wp_marks Try.func22 rfl trivial ?_
  simp only [Try.ntmps22, List.size_toArray, List.length_cons, List.length_nil, Nat.reduceAdd, Nat.reduceSub, Array.replicate_succ, Array.replicate_zero, List.push_toArray, List.append_toArray, List.nil_append, List.cons_append]
  refine wpIn_wide.2 ?_
  go_upto_region 4 with (go_at_call 19; (with_reducible refine (CM).mono ?_); rintro e wm ⟨rfl, bm⟩)
  have HBM := Lib.hid bm
  have KS := Blk.new wm 3 #[.int .i64 0]
  obtain ⟨w1, hw1⟩ : ∃ w1, w1 = (wm.alloc (.cells #[.int .i64 0] 3)).alloc (.cells #[.slice A n c] 39) := ⟨_, rfl⟩
  go_wp2_with (go_at_call 53; (with_reducible refine (flines_any A n c _).mono ?_); rintro e w2 ⟨rfl, hw2⟩)
  have B1 : Below wm.heap.size wm w1 := hw1 ▸ below_a2 _ _ _
  have KS1 : Blk w1 wm.heap.size 3 #[.int .i64 0] := hw1 ▸ KS.below (below_a1 _ _)
  have KX : Blk w1 (wm.heap.size + 1) 39 #[.slice A n c] := by
    have := Blk.new (wm.alloc (.cells #[.int .i64 0] 3)) 39 #[.slice A n c]
    rw [World.size_alloc] at this
    rw [hw1]; exact this
  obtain ⟨sb, hsb⟩ : ∃ sb, sb = wm.heap.size := ⟨_, rfl⟩
  have hx1 := KX.lt
  rw [← hw1]
  rw [← hsb] at KX KS1 hx1 B1 ⊢
  have hws : w.heap.size ≤ sb := by rw [hsb]; exact bm.size
  have BW : Below w.heap.size w w1 := bm.trans (B1.mono hws)
  have HO := HH.out.1.below BW
  have kx : w1.cell? ⟨sb + 1, 0, none⟩ = some (.slice A Ls.length c) := by rw [← HN.out]; exact KX.cell 0
  have HBW := Lib.hid BW
  clear hw1 KS KX B1 hsb bm hw2
  refine (wpIn_wide (n := 3)).1 ?_
  refine wpIn_rangeB2 (gf := 80) (lb := #[.pointer (some ⟨sb + 1, 0, none⟩)]) rfl (enters_of Try.func80 (by kernel_rfl) rfl)
    (lines_stops (sb + 1) w1.heap.size w.heap.size [sb] A c Ls w1 kx hx1 (Nat.le_refl _) HO (by have := BW.size; omega) (by simp; omega) HH.out.2) KpX.trans (kpX_b (Nat.le_refl _)) (fun W o h => KpX.of ((Below.refl _ _).alloc h o)) (Below.refl _ _) (fun _ => rfl) (fun pre => ownB_pure _)
    27 27 (fun x => #[.int .i64 x.1.1, .int .i64 x.1.2]) (fun x => #[.int .i64 x.2.1, .int .i64 x.2.2]) 15 6 16 7 (fun x => .agg #[.int .i64 x.1.1, .int .i64 x.1.2]) (fun x => .agg #[.int .i64 x.2.1, .int .i64 x.2.2])
    (fun pre V => Blk V sb 3 #[.int .i64 (arF pre)] ∧ KpX w1.heap.size [sb] w1 V)
    (fun c pre V => False)
    (OwnFrom.and blkBs (kpxB (Nat.le_refl _) (Nat.le_refl _)))
    (fun c => ownB_pure _)
    (fun pre V h => h.2.size) ⟨KS1, KpX.refl _ _ _⟩ ?assign ?body ?done ?stop
  case assign =>
    intro l x W K hK
    gi_wp2
    simpa using hK
  case body =>
    rintro l pre x Bd W ⟨i1, i2⟩ hC hBd hb1 hb2
    simp only [List.setIfInBounds_toArray, List.set_cons_zero, List.set_cons_succ]
    obtain ⟨h1, h2, h3, h4⟩ := lnP_in HM.out.2 hC
    have lim := arF_lim pre h1
    have cl := crs_lim h2 h3
    have hlen := HM.out.1
    have HE := Lib.hid (show arF (pre ++ [x]) = arF pre + (x.1.1 * x.2.2 - x.2.1 * x.1.2) from arF_snoc pre x)
    have e1 : wrap64 (x.1.1 * x.2.2) = x.1.1 * x.2.2 := wrap_in (by omega)
    have e2 : wrap64 (x.2.1 * x.1.2) = x.2.1 * x.1.2 := wrap_in (by omega)
    have e3 : wrap64 (x.1.1 * x.2.2 - x.2.1 * x.1.2) = x.1.1 * x.2.2 - x.2.1 * x.1.2 := wrap_in (by omega)
    have e4 : wrap64 (arF pre + (x.1.1 * x.2.2 - x.2.1 * x.1.2)) = arF pre + (x.1.1 * x.2.2 - x.2.1 * x.1.2) := wrap_in (by omega)
    have z0 := hb1.cell 0; have z1 := hb1.cell 1; have zl := hb1.lt; simp only [List.getElem?_toArray, List.getElem?_cons_succ, List.getElem?_cons_zero] at z0 z1
    have y0 := hb2.cell 0; have y1 := hb2.cell 1; have yl := hb2.lt; simp only [List.getElem?_toArray, List.getElem?_cons_succ, List.getElem?_cons_zero] at y0 y1
    have g0 := i1.cell 0
    have gl := i1.lt
    have gr := i1.frozen 0
    have HI := Lib.hid (And.intro i1 i2)
    clear i1 i2 h1 h2 h3 h4 lim cl hlen hb1 hb2 hC
    gi_wp2
    refine ⟨KeepsOthers.setCell _ _ _, KpX.only ((Only.refl _ _).set (.inl (by simp)) _) HI.out.2.size, ?_, HI.out.2.trans (KpX.only ((Only.refl _ _).set (.inl (by simp)) _) HI.out.2.size)⟩
    rw [HE.out]
    exact HI.out.1.set 0 _
  case done =>
    rintro D xs V hD rfl ⟨i1, i2⟩ hK
    have g0 := i1.cell 0
    have gl := i1.lt
    have HI := Lib.hid (And.intro i1 (And.intro i2 hK))
    clear i1 i2
    go_wp2
    refine retM1 rfl HI.out.2.2 (v := .tuple #[.int .i64 (arF (lnA Ls)), .int .i64 0]) (by simp [results, Try.f22, go_sem]) ⟨rfl, ?_⟩
    exact (HBW.out.trans (HI.out.2.1.to HBW.out.size (by simp; omega))).trans (put_below (by have := HBW.out.size; omega) _)
  case stop =>
    rintro D cc pre V hD hSp hf hK
    exact hf.elim
theorem farea_any (A : Option Addr) (c : Nat) (Ls : List (List Dt)) (w : World) (h : OutF dtL w w.heap.size A Ls) (hs : SmF Ls) : Calls Try.prog 22 #[.slice A Ls.length c] w fun e w' => e = .returned (.tuple #[.int .i64 (if mayF Ls = 0 then arF (lnA Ls) else 0), .int .i64 (mayF Ls)]) ∧ Below w.heap.size w w' := by
  by_cases hb : mayF Ls = 0
  · rw [if_pos hb, hb]; exact farea_ok A c Ls w h hs hb
  · rw [if_neg hb]; exact farea_bad A c Ls w h hs hb
end Go.Proofs.Ytlacjifnniahhaa

namespace Go.Proofs.Ytlacjifnniahhaa
open Go Go.RowKit

section
variable {P : Program} (w : World)

theorem run_append_src_wide (base : Nat) (t ty e : TypeId) (i : TypeInfo) (z : Value) (size bytes : Nat) (ht : P.underlying t = some (.slice e)) (hi : P.info? e = some i) (hz : i.zero = some z)
    (hsize : i.size = size) (hby : i.bytes = bytes) (hzs : z.cells.size = size) (hsz : 0 < size) (v : Value) (n : Nat) (xs : List Value) (hown : w.ownsRow base e size v n xs)
    (B : Nat) (A : Option Addr) (m c : Nat) (news : List Value) (hr : Lists w B A news) (hl : news.length = m * size) (h1 : ∀ u ∈ news, u.oneCell' = true)
    (h63 : n + m ≤ maxLen) (hbytes : ((n + m) + (n + m) / 4 + 192) * bytes ≤ 281474976710656) (hbase : base ≤ w.heap.size) :
    ∃ v' w', (Builtin.append_ #[t, t] ty #[v, .slice A m c]).run P w = .ok v' w' ∧ w'.ownsRow base e size v' (n + m) (xs ++ news) ∧ w.grownBy w' v.ownBlock := by
  cases A with
  | none =>
    have hn : news = [] := hr.nil rfl
    subst hn
    have hm : m = 0 := by
      have : m * size = 0 := by simpa using hl.symm
      rcases Nat.mul_eq_zero.1 this with h | h
      · exact h
      · omega
    subst hm
    refine ⟨v, w, ?_, by simpa using hown, World.grownBy.refl w _⟩
    rcases hown.2 with ⟨rfl, rfl⟩ | ⟨g, cap, cur, rfl, _, _, hc, _⟩
    · simp [Builtin.append_, run_underlying ht, sizeOf, typeInfo, hi, Builtin.lenOf, Builtin.firstCells]
    · simp [Builtin.append_, run_underlying ht, sizeOf, typeInfo, hi, Builtin.lenOf, Builtin.firstCells, hc, storeCells]
  | some ad =>
    obtain ⟨v', w', hrun, h2, h3, _⟩ := run_append_own_wide (P := P) w base t ty e i z size bytes ht hi hz hsize hby hzs hsz v n xs hown ad m c news hl (hr.cell ad rfl) h1 h63 hbytes hbase
    exact ⟨v', w', hrun, h2, h3⟩

theorem wp_append_src_wide {o : Oper} {a : Act} {K : Act → World → Prop} {Q : Exit → Act → World → Prop} (s x : Operand) (t : TypeId)
    (ho : o.op = .call { callee := .builtin .append, args := #[s, x], argTypes := #[t, t] })
    (base : Nat) (e : TypeId) (i : TypeInfo) (z : Value) (size bytes : Nat) (ht : P.underlying t = some (.slice e)) (hi : P.info? e = some i) (hz : i.zero = some z)
    (hsize : i.size = size) (hby : i.bytes = bytes) (hzs : z.cells.size = size) (hsz : 0 < size)
    (v : Value) (n : Nat) (xs : List Value) (hs : a.eval s = v) (hown : w.ownsRow base e size v n xs)
    (B : Nat) (A : Option Addr) (m c : Nat) (news : List Value) (hx : a.eval x = .slice A m c) (hr : Lists w B A news) (hl : news.length = m * size) (h1 : ∀ u ∈ news, u.oneCell' = true)
    (h63 : n + m ≤ maxLen) (hbytes : ((n + m) + (n + m) / 4 + 192) * bytes ≤ 281474976710656) (hbase : base ≤ w.heap.size)
    (h : ∀ v' w', w'.ownsRow base e size v' (n + m) (xs ++ news) → w.grownBy w' v.ownBlock → K (a.put o.dst v') w') : o.wp P a w K Q := by
  obtain ⟨v', w', hrun, h2, h3⟩ := run_append_src_wide (P := P) w base t o.type e i z size bytes ht hi hz hsize hby hzs hsz v n xs hown B A m c news hr hl h1 h63 hbytes hbase
  unfold Oper.wp execOp
  simp only [ho, resolve, invoke, builtin, Sem.run_bind, Sem.run_pure, Result.andThen_ok, List.map_toArray, List.map_cons, List.map_nil, hs, hx, hrun]
  exact h v' w' h2 h3

theorem wpList_append_src_wide {ops : Array Oper} {rest : List Oper} {o : Oper} {a : Act} {Q : Exit → Act → World → Prop} (hgd : o.guard = none) (s x : Operand) (t : TypeId)
    (ho : o.op = .call { callee := .builtin .append, args := #[s, x], argTypes := #[t, t] })
    (base : Nat) (e : TypeId) (i : TypeInfo) (z : Value) (size bytes : Nat) (ht : P.underlying t = some (.slice e)) (hi : P.info? e = some i) (hz : i.zero = some z)
    (hsize : i.size = size) (hby : i.bytes = bytes) (hzs : z.cells.size = size) (hsz : 0 < size)
    (v : Value) (n : Nat) (xs : List Value) (hs : a.eval s = v) (hown : w.ownsRow base e size v n xs)
    (B : Nat) (A : Option Addr) (m c : Nat) (news : List Value) (hx : a.eval x = .slice A m c) (hr : Lists w B A news) (hl : news.length = m * size) (h1 : ∀ u ∈ news, u.oneCell' = true)
    (h63 : n + m ≤ maxLen) (hbytes : ((n + m) + (n + m) / 4 + 192) * bytes ≤ 281474976710656) (hbase : base ≤ w.heap.size)
    (h : ∀ v' w', w'.ownsRow base e size v' (n + m) (xs ++ news) → w.grownBy w' v.ownBlock → wpList P ops Q rest (a.put o.dst v') w') : wpList P ops Q (o :: rest) a w :=
  wpList_plain hgd fun _ hK => wp_append_src_wide w s x t ho base e i z size bytes ht hi hz hsize hby hzs hsz v n xs hs hown B A m c news hx hr hl h1 h63 hbytes hbase fun v' w' h2 h3 => hK _ _ (h v' w' h2 h3)
end

end Go.Proofs.Ytlacjifnniahhaa

namespace Go.Proofs.Ytlacjifnniahhaa
open Go Go.RowKit
set_option linter.unusedVariables false
section
variable {P : Program} {ops : Array Oper} {Q : Exit → Act → World → Prop} {n r : Nat}
theorem wpIn_region_mix {id : Nat} {a : Act} {w : World} (I : World → Prop) (t : Mx) (hm : P.follows .mixedOrders = true) (hd : noDefer ops = true) (hok : mxOk .any ops t = true) (hQ : ¬ LetsOut Q) (hI : I w.drew)
    (h : MixL P ops (Q .normal) I t a w.drew) : (Code.region id ops true).wpIn (Fence.wide.inRound r) n P Q a w := by
  refine wpIn_region_any hm ?_
  unfold mxOk at hok
  simp only [Bool.and_eq_true, decide_eq_true_eq] at hok
  obtain ⟨⟨h1, h2⟩, h3⟩ := hok
  exact any_in hd hQ _ _ _ _ (PlanF.any (fun i o cs b hi => Region.noSelect_spec h1 i o cs b hi) ops.size t.depth _ a w.drew (DC.none _) h2 hI (MixL.plan t _ a w.drew h3 h))
end
section
variable {P : Program} {ops : Array Oper} {E : Act → World → Prop} {I : World → Prop} {i : Nat} {t0 : Mx} {o : Oper} {a : Act} {w : World}
theorem MixL.appendB (hi : ops[i]? = some o) (hw : Region.wanted o (yielded ops a.tmps) = true) (s x : Operand) (t : TypeId)
    (ho : o.op = .call { callee := .builtin .append, args := #[s, x], argTypes := #[t, t] })
    (base : Nat) (e : TypeId) (info : TypeInfo) (z : Value) (size bytes : Nat) (ht : P.underlying t = some (.slice e)) (hi' : P.info? e = some info) (hz : info.zero = some z)
    (hsize : info.size = size) (hby : info.bytes = bytes) (hzs : z.cells.size = size) (hsz : 0 < size)
    (v : Value) (n : Nat) (xs : List Value) (hs : a.eval s = v) (hown : w.ownsRow base e size v n xs)
    (B : Nat) (A : Option Addr) (m c : Nat) (news : List Value) (hx : a.eval x = .slice A m c) (hr : Lists w B A news) (hl : news.length = m * size) (h1 : ∀ u ∈ news, u.oneCell' = true)
    (h63 : n + m ≤ maxLen) (hbytes : ((n + m) + (n + m) / 4 + 192) * bytes ≤ 281474976710656) (hbase : base ≤ w.heap.size)
    (h : ∀ v' w', w'.ownsRow base e size v' (n + m) (xs ++ news) → w.grownBy w' v.ownBlock → I w' ∧ MixL P ops E I t0 (a.put o.dst v') w') : MixL P ops E I (.one i t0) a w := by
  obtain ⟨v', w', hrun, h2, h3⟩ := run_append_src_wide (P := P) w base t o.type e info z size bytes ht hi' hz hsize hby hzs hsz v n xs hown B A m c news hr hl h1 h63 hbytes hbase
  refine ⟨o, hi, hw, .inl ⟨v', w', ?_, h v' w' h2 h3⟩⟩
  unfold execOp
  simp only [ho, resolve, invoke, builtin, Sem.run_bind, Sem.run_pure, Result.andThen_ok, List.map_toArray, List.map_cons, List.map_nil, hs, hx, hrun]
end
theorem ownK {X Y : World} {row : Option Nat} {base n size : Nat} {e : TypeId} {v : Value} {xs : List Value} (h : X.ownsRow base e size v n xs) (hg : X.grownBy Y row) (hr : ∀ r, row = some r → ∃ o : Obj, X.heap[r]? = some o ∧ o.isCells = false) : Y.ownsRow base e size v n xs := by
  refine ⟨h.1, ?_⟩
  rcases h.2 with h1 | ⟨g, cap, cur, h1, h2, h3, h4⟩
  · exact .inl h1
  · refine .inr ⟨g, cap, cur, h1, h2, ?_, h4⟩
    exact (hg.block g (Array.getElem?_eq_some_iff.1 h3).1 (fun e => by obtain ⟨o, ho, hc⟩ := hr g e.symm; rw [h3] at ho; cases ho; cases hc)).trans h3
/-- Two rows that are owned lie apart. -/
def Apart (u v : Value) : Prop := ∀ b ∈ blk u, b ∉ blk v
theorem Apart.symm {u v : Value} (h : Apart u v) : Apart v u := fun b hb hm => h b hm hb
theorem Apart.nil (v : Value) (n c : Nat) : Apart (.slice none n c) v := fun b hb => by simp [blk, Value.ownBlock] at hb
theorem own_cellsB {w : World} {base n size : Nat} {e : TypeId} {v : Value} {X : List Value} (h : w.ownsRow base e size v n X) : ∀ b ∈ blk v, ∃ cs, Blk w b e cs := by
  intro b hm
  rcases h.2 with ⟨rfl, _⟩ | ⟨g, cap, cur, rfl, _, h2, _⟩
  · simp [blk, Value.ownBlock] at hm
  · have : b = g := by simpa [blk, Value.ownBlock] using hm
    subst this
    exact ⟨cur, h2⟩
theorem own_ltB {w : World} {base n size : Nat} {e : TypeId} {v : Value} {X : List Value} (h : w.ownsRow base e size v n X) : ∀ b ∈ blk v, b < w.heap.size := fun b hb => by
  obtain ⟨cs, hc⟩ := own_cellsB h b hb
  exact hc.lt
theorem own_lowB {w : World} {base n size : Nat} {e : TypeId} {v : Value} {X : List Value} (h : w.ownsRow base e size v n X) : ∀ b ∈ blk v, base ≤ b := by
  intro b hm
  rcases h.2 with ⟨rfl, _⟩ | ⟨g, cap, cur, rfl, h2, _⟩
  · simp [blk, Value.ownBlock] at hm
  · have : b = g := by simpa [blk, Value.ownBlock] using hm
    omega
/-- One of two rows has grown. -/
theorem push_one {V V' : World} {nb n n' m size size2 : Nat} {e e2 : TypeId} {vx vx' vy : Value} {X X' Y : List Value} (hx : V.ownsRow nb e size vx n X) (hy : V.ownsRow nb e2 size2 vy m Y) (hap : Apart vx vy) (own' : V'.ownsRow nb e size vx' n' X') (hg : V.grownBy V' vx.ownBlock)
    (hb : vx'.ownBlock = vx.ownBlock ∨ vx'.ownBlock = some V.heap.size) : V'.ownsRow nb e2 size2 vy m Y ∧ Apart vx' vy ∧ Only V V' (blk vx) := by
  have o : Only V V' (blk vx) := (Only.refl _ _).grown hg (fun b hb => .inl (by simp [blk, hb]))
  refine ⟨own_only hy o (fun b h1 h2 => hap b h2 h1), fun b h1 h2 => ?_, o⟩
  rcases hb with hb | hb
  · refine hap b ?_ h2
    unfold blk at h1 ⊢
    rw [← hb]; exact h1
  · have h3 := own_ltB hy b h2
    have : b = V.heap.size := by
      unfold blk at h1
      rw [hb] at h1
      simpa using h1
    omega
section
variable {P : Program} {ops : Array Oper} {E : Act → World → Prop} {I : World → Prop} {i : Nat} {t0 : Mx} {o : Oper} {a : Act} {w : World}
theorem MixL.appendA (hi : ops[i]? = some o) (hw : Region.wanted o (yielded ops a.tmps) = true) (s x : Operand) (t : TypeId)
    (ho : o.op = .call { callee := .builtin .append, args := #[s, x], argTypes := #[t, t] })
    (base : Nat) (e : TypeId) (info : TypeInfo) (z : Value) (size bytes : Nat) (ht : P.underlying t = some (.slice e)) (hi' : P.info? e = some info) (hz : info.zero = some z)
    (hsize : info.size = size) (hby : info.bytes = bytes) (hzs : z.cells.size = size) (hsz : 0 < size)
    (v : Value) (n : Nat) (xs : List Value) (hs : a.eval s = v) (hown : w.ownsRow base e size v n xs)
    (B : Nat) (A : Option Addr) (m c : Nat) (news : List Value) (hx : a.eval x = .slice A m c) (hr : Lists w B A news) (hl : news.length = m * size) (h1 : ∀ u ∈ news, u.oneCell' = true)
    (h63 : n + m ≤ maxLen) (hbytes : (n + m) * bytes ≤ 140737488355328) (hbase : base ≤ w.heap.size)
    (h : ∀ v' w', w'.ownsRow base e size v' (n + m) (xs ++ news) → w.grownBy w' v.ownBlock → (v'.ownBlock = v.ownBlock ∨ v'.ownBlock = some w.heap.size) → I w' ∧ MixL P ops E I t0 (a.put o.dst v') w') : MixL P ops E I (.one i t0) a w := by
  obtain ⟨v', w', hrun, h2, h3, h4⟩ := run_append_src (P := P) w base t o.type e info z size bytes ht hi' hz hsize hby hzs hsz v n xs hown B A m c news hr hl h1 h63 hbytes hbase
  refine ⟨o, hi, hw, .inl ⟨v', w', ?_, h v' w' h2 h3 h4⟩⟩
  unfold execOp
  simp only [ho, resolve, invoke, builtin, Sem.run_bind, Sem.run_pure, Result.andThen_ok, List.map_toArray, List.map_cons, List.map_nil, hs, hx, hrun]
theorem StepO.storeB {K : Value → World → Prop} {w1 : World} (hw : Region.wanted o (yielded ops a.tmps) = true) (h : (execOp a.eval o).run P w = .ok .skip w1) (hK : K undef w1) : StepO P ops o a w K := ⟨hw, .inr (.inr ⟨w1, h, hK⟩)⟩
end
theorem lists_newB (w : World) (v : Value) (T : TypeId) : Lists (w.alloc (.cells #[v] T)) (w.heap.size + 1) (some ⟨w.heap.size, 0, none⟩) [v] :=
  ⟨fun ha => (nomatch ha), fun a ha j u hu => by
    cases ha
    have : j = 0 := by
      have := (List.getElem?_eq_some_iff.1 hu).1
      simp at this; omega
    subst this
    simp at hu; subst hu
    rw [addr_plain, World.cell?_alloc_new]; rfl, fun a ha _ => by cases ha; simp⟩
theorem info_partsB {o : Option TypeInfo} {z : Option Value} {n b : Nat} (h : o.map (fun i => (i.zero, i.size, i.bytes)) = some (z, n, b)) : ∃ i, o = some i ∧ i.zero = z ∧ i.size = n ∧ i.bytes = b := by
  cases o with
  | none => cases h
  | some i => simp at h; exact ⟨i, rfl, h.1, h.2.1, h.2.2⟩
theorem only_drew (w : World) (fp : List Nat) : Only w w.drew fp := ⟨rfl, rfl, rfl, Nat.le_refl _, fun _ _ _ => rfl⟩
theorem only_alloc {w V : World} {fp : List Nat} (h : Only w V fp) (o : Obj) : Only w (V.alloc o) fp := ⟨h.os, h.tape, h.output, by rw [World.size_alloc]; have := h.size; omega, fun b hb hf => ((below_a1 V o).block b (by have := h.size; omega)).trans (h.block b hb hf)⟩
theorem only_more {w V V' : World} {fp fp2 : List Nat} (h : Only w V fp) (k : Only V V' fp2) (hs : ∀ b ∈ fp2, b ∈ fp ∨ w.heap.size ≤ b) : Only w V' fp := ⟨k.os.trans h.os, k.tape.trans h.tape, k.output.trans h.output, Nat.le_trans h.size k.size, fun b hb hf => (k.block b (by have := h.size; omega) (fun hm => by rcases hs b hm with h1 | h1; exact hf h1; omega)).trans (h.block b hb hf)⟩
/-- Two rows in boxes have both grown: the round's end. -/
theorem push_end {W V w1 : World} {nb xb yb n n' : Nat} {T e : TypeId} {vx vy vx' vy' : Value} {X Y X' Y' : List Value} (hne : e ≠ T) (hxy : xb ≠ yb) (kx : Blk W xb T #[vx]) (ky : Blk W yb T #[vy])
    (ox : W.ownsRow nb e 1 vx n X) (oy : W.ownsRow nb e 1 vy n Y) (hkp : KpX nb [xb, yb] w1 W) (hnb : nb ≤ W.heap.size) (o : Only W V (blk vx ++ blk vy))
    (ox' : V.ownsRow nb e 1 vx' n' X') (oy' : V.ownsRow nb e 1 vy' n' Y') (hap' : Apart vx' vy') {Vf : World} (hVf : Vf = (V.setCell ⟨xb, 0, none⟩ vx').setCell ⟨yb, 0, none⟩ vy') :
    KeepsOthers W Vf ∧ KpX nb [xb, yb] W Vf ∧ (Blk Vf xb T #[vx'] ∧ Blk Vf yb T #[vy'] ∧ Vf.ownsRow nb e 1 vx' n' X' ∧ Vf.ownsRow nb e 1 vy' n' Y' ∧ Apart vx' vy' ∧ KpX nb [xb, yb] w1 Vf) := by
  have hx : xb ∉ blk vx ++ blk vy := by rw [List.mem_append, not_or]; exact ⟨own_ne ox kx hne, own_ne oy kx hne⟩
  have hy : yb ∉ blk vx ++ blk vy := by rw [List.mem_append, not_or]; exact ⟨own_ne ox ky hne, own_ne oy ky hne⟩
  have kxV := kx.only o hx
  have kyV := ky.only o hy
  have o2 : Only V Vf [xb, yb] := by rw [hVf]; exact ((Only.refl V [xb, yb]).set (.inl (by simp)) vx').set (.inl (by simp)) vy'
  have oF : Only W Vf (blk vx ++ blk vy ++ [xb, yb]) := only_more ⟨o.os, o.tape, o.output, o.size, fun b hb hf => o.block b hb (fun hm => hf (List.mem_append_left _ hm))⟩ o2 (fun b hb => .inl (List.mem_append_right _ hb))
  have kp : KpX nb [xb, yb] W Vf := ⟨oF.os, oF.tape, oF.output, oF.size, fun b hb hf => oF.block b (by omega) (fun hm => by
    rw [List.mem_append, List.mem_append] at hm
    rcases hm with (hm | hm) | hm
    · have := own_lowB ox b hm; omega
    · have := own_lowB oy b hm; omega
    · exact hf hm)⟩
  have b1 : Blk Vf xb T #[vx'] := by
    rw [hVf]
    exact (show Blk (V.setCell ⟨xb, 0, none⟩ vx') xb T #[vx'] from kxV.set 0 vx').only ((Only.refl _ [yb]).set (.inl (by simp)) vy') (by simp; exact hxy)
  have b2 : Blk Vf yb T #[vy'] := by
    rw [hVf]
    exact (show Blk (V.setCell ⟨xb, 0, none⟩ vx') yb T #[vy] from kyV.only ((Only.refl _ [xb]).set (.inl (by simp)) vx') (by simp; exact fun e => hxy e.symm)).set 0 vy'
  refine ⟨koO oF (fun b hb => ?_), kp, b1, b2, own_only ox' o2 (fun b hb hm => ?_), own_only oy' o2 (fun b hb hm => ?_), hap', hkp.trans kp⟩
  · rw [List.mem_append, List.mem_append] at hb
    rcases hb with (hb | hb) | hb
    · obtain ⟨cs, h⟩ := own_cellsB ox b hb; exact ⟨_, _, h⟩
    · obtain ⟨cs, h⟩ := own_cellsB oy b hb; exact ⟨_, _, h⟩
    · simp at hb
      rcases hb with rfl | rfl
      · exact ⟨_, _, kx⟩
      · exact ⟨_, _, ky⟩
  · simp at hm
    rcases hm with rfl | rfl
    · exact own_ne ox' kxV hne hb
    · exact own_ne ox' kyV hne hb
  · simp at hm
    rcases hm with rfl | rfl
    · exact own_ne oy' kxV hne hb
    · exact own_ne oy' kyV hne hb
end Go.Proofs.Ytlacjifnniahhaa

namespace Go.Proofs.Ytlacjifnniahhaa
open Go Go.RowKit
set_option linter.unusedVariables false

section
variable {P : Program} {ops : Array Oper} {Q : Exit → Act → World → Prop} {md : Region.Mode} {I : World → Prop}
inductive PlanT (P : Program) (md : Region.Mode) (ops : Array Oper) (Q : Exit → Act → World → Prop) (I : World → Prop) (y : Nat) : Nat → Array Bool → Act → World → Prop
  | stop {r : Nat} {listed : Array Bool} {a : Act} {w : World} (hr : Region.ready md ops listed = [y]) (h : ∀ fuel, r ≤ fuel → DC md ops (listed.setIfInBounds y true) → wpOp P ops Q y (wpAny P md ops Q fuel (listed.setIfInBounds y true)) a w) : PlanT P md ops Q I y (r + 1) listed a w
  | take {n : Nat} {listed : Array Bool} {a : Act} {w : World} (i : Nat) (o : Oper) (v : Value) (hi : ops[i]? = some o) (hny : i ≠ y) (hf : Region.free md ops listed i = true) (hr : i ∈ Region.ready md ops listed)
      (hs : StepI P ops I o v a) (h : PlanT P md ops Q I y n (listed.setIfInBounds i true) (a.put o.dst v) w) : PlanT P md ops Q I y (n + 1) listed a w
  | fork {n : Nat} {listed : Array Bool} {a : Act} {w : World} (o : Nat → Oper) (K : Nat → Value → World → Prop) (hne : Region.ready md ops listed ≠ []) (hny : y ∉ Region.ready md ops listed) (hi : ∀ i, i ∈ Region.ready md ops listed → ops[i]? = some (o i))
      (hs : ∀ i, i ∈ Region.ready md ops listed → StepO P ops (o i) a w (K i)) (hI : ∀ i, i ∈ Region.ready md ops listed → ∀ v w', K i v w' → I w')
      (h : ∀ i, i ∈ Region.ready md ops listed → ∀ v w', K i v w' → PlanT P md ops Q I y n (listed.setIfInBounds i true) (a.put (o i).dst v) w') : PlanT P md ops Q I y (n + 1) listed a w

theorem PlanT.first (hns : ∀ (i : Nat) (o : Oper) cs b, ops[i]? = some o → o.op ≠ .select cs b) {y n : Nat} {listed : Array Bool} {a : Act} {w : World} (h : PlanT P md ops Q I y n listed a w) : ∀ j, j ∈ Region.ready md ops listed → j ≠ y →
    ∃ m oj, n = m + 1 ∧ ops[j]? = some oj ∧ ((∃ u, StepI P ops I oj u a ∧ PlanT P md ops Q I y m (listed.setIfInBounds j true) (a.put oj.dst u) w) ∨
      (∃ K : Value → World → Prop, StepO P ops oj a w K ∧ (∀ v w', K v w' → I w') ∧ ∀ v w', K v w' → PlanT P md ops Q I y m (listed.setIfInBounds j true) (a.put oj.dst v) w')) := by
  induction h with
  | stop hr h => intro j hj hne; rw [hr] at hj; exact absurd (by simpa using hj) hne
  | fork o K hne hny hi hs hI h =>
    intro j hj _
    exact ⟨_, o j, rfl, hi j hj, .inr ⟨K j, hs j hj, hI j hj, h j hj⟩⟩
  | @take n listed a w i o v hi hny hf hr hs h ih =>
    intro j hj hjl
    by_cases hji : j = i
    · subst hji; exact ⟨_, o, rfl, hi, .inl ⟨v, hs, h⟩⟩
    · obtain ⟨m, oj, rfl, hoj, hh⟩ := ih j (ready_mono hj hji) hjl
      obtain ⟨hjun, oj', hoj', hall⟩ := mem_ready.1 hj
      obtain rfl : oj' = oj := by rw [hoj] at hoj'; exact (Option.some.inj hoj').symm
      have hnot : ∀ e ∈ oj'.after, Region.binds md e = true → e.on ≠ i := fun e he hb heq => by
        have h1 := hall e he hb
        have h0 := (mem_ready.1 hr).1
        rw [heq] at h1
        rcases Nat.lt_or_ge i listed.size with h' | h'
        · simp [h'] at h0 h1; rw [h0] at h1; cases h1
        · simp [Array.getElem?_eq_none h'] at h1
      obtain ⟨h1, h2, h3⟩ := Oper.apart_spec (Region.free_spec hi hf j oj' hoj hji hjun hnot)
      refine ⟨m + 1, oj', rfl, hoj, ?_⟩
      have hst : ∀ u, StepI P ops I o v (a.put oj'.dst u) := fun u => hs.move (put_agree h3 a u)
      rcases hh with ⟨u, hsj, hp⟩ | ⟨K, hsj, hKI, hp⟩
      · refine .inl ⟨u, hsj.move fun t ht => (put_agree h1 a v t ht).symm, ?_⟩
        refine PlanT.take i o v hi hny (free_set hf) (ready_mono hr (Ne.symm hji)) (hst u) ?_
        rw [Array.setIfInBounds_comm _ _ hji, ← Act.put_comm a v u h2]
        exact hp
      · refine .inr ⟨K, hsj.move (hns j oj' · · hoj) fun t ht => (put_agree h1 a v t ht).symm, hKI, fun u w' hK => ?_⟩
        refine PlanT.take i o v hi hny (free_set hf) (ready_mono hr (Ne.symm hji)) (hst u) ?_
        rw [Array.setIfInBounds_comm _ _ hji, ← Act.put_comm a v u h2]
        exact hp u w' hK

theorem PlanT.any {y : Nat} (hL : Alone md ops y) (hns : ∀ (i : Nat) (o : Oper) cs b, ops[i]? = some o → o.op ≠ .select cs b) : ∀ (fuel n : Nat) (listed : Array Bool) (a : Act) (w : World), DC md ops listed → n ≤ fuel → I w → PlanT P md ops Q I y n listed a w → wpAny P md ops Q fuel listed a w
  | 0, n, listed, a, w, _, hn, hI, h => by
    cases h with
    | stop => omega
    | take => omega
    | fork => omega
  | fuel + 1, n, listed, a, w, hd, hn, hI, h => by
    refine ⟨fun hr => ?_, fun j hj => ?_⟩
    · cases h with
      | stop hr' => rw [hr] at hr'; cases hr'
      | take i o v hi hny hf hr' => rw [hr] at hr'; cases hr'
      | fork o K hne => exact absurd hr hne
    · by_cases hjy : j = y
      · subst hjy
        cases h with
        | stop hr h => exact h fuel (by omega) (hd.set hj)
        | take i o v hi hny hf hr' => exact absurd (hL listed hd hj i hr') hny
        | fork o K hne hny => exact absurd hj hny
      · obtain ⟨m, oj, rfl, hoj, hh⟩ := h.first hns j hj hjy
        rcases hh with ⟨u, hsj, hp⟩ | ⟨K, hsj, hKI, hp⟩
        · have hrec := PlanT.any hL hns fuel m _ _ w (hd.set hj) (by omega) hI hp
          unfold wpOp
          simp only [hoj]
          rcases hsj a w (fun _ _ => rfl) hI with ⟨hw, rfl⟩ | ⟨hw, hrun⟩
          · rw [hw]; exact hrec
          · rw [hw, if_pos rfl]
            refine .inl ?_
            unfold Oper.wp
            rw [hrun]
            exact hrec
        · exact StepO.wpOp hoj (hsj.mono fun v w' hK => PlanT.any hL hns fuel m _ _ w' (hd.set hj) (by omega) (hKI v w' hK) (hp v w' hK))
theorem PlanT.more {y n m : Nat} {listed : Array Bool} {a : Act} {w : World} (h : PlanT P md ops Q I y n listed a w) : n ≤ m → PlanT P md ops Q I y m listed a w := by
  induction h generalizing m with
  | @stop r listed a w hr h =>
    intro hm
    obtain ⟨k, rfl⟩ : ∃ k, m = k + 1 := ⟨m - 1, by omega⟩
    exact .stop hr fun fuel hf hd => h fuel (by omega) hd
  | take i o v hi hny hf hr hs h ih =>
    intro hm
    obtain ⟨k, rfl⟩ : ∃ k, m = k + 1 := ⟨m - 1, by omega⟩
    exact .take i o v hi hny hf hr hs (ih (by omega))
  | fork o K hne hny hi hs hI h ih =>
    intro hm
    obtain ⟨k, rfl⟩ : ∃ k, m = k + 1 := ⟨m - 1, by omega⟩
    exact .fork o K hne hny hi hs hI fun i hi v w' hK => ih i hi v w' hK (by omega)
def mxGoT (md : Region.Mode) (ops : Array Oper) (y : Nat) (rest : List (Nat × Bool)) : Mx → Array Bool → Bool
  | .leaf, listed => (Region.ready md ops listed == [y]) && chainGo md ops ops.size rest (listed.setIfInBounds y true)
  | .q i t, listed => (i != y) && Region.free md ops listed i && (Region.ready md ops listed).contains i && mxGoT md ops y rest t (listed.setIfInBounds i true)
  | .one i t, listed => (i != y) && (Region.ready md ops listed == [i]) && mxGoT md ops y rest t (listed.setIfInBounds i true)
  | .two i j t u, listed => (i != y) && (j != y) && (Region.ready md ops listed == [i, j]) && (i != j) && mxGoT md ops y rest t (listed.setIfInBounds i true) && mxGoT md ops y rest u (listed.setIfInBounds j true)
def EndT (P : Program) (ops : Array Oper) (Q : Exit → Act → World → Prop) (y : Nat) (rest : List (Nat × Bool)) (a : Act) (w : World) : Prop :=
  ∃ o, ops[y]? = some o ∧ StepO P ops o a w fun v w' => ChainL P ops (Q .normal) (fun _ => True) rest (a.put o.dst v) w'
theorem MixL.planT {y : Nat} {rest : List (Nat × Bool)} (hns : ∀ (i : Nat) (o : Oper) cs b, ops[i]? = some o → o.op ≠ .select cs b) : ∀ (t : Mx) (listed : Array Bool) (a : Act) (w : World), mxGoT md ops y rest t listed = true → MixL P ops (EndT P ops Q y rest) I t a w → PlanT P md ops Q I y (t.depth + (rest.length + 1)) listed a w
  | .leaf, listed, a, w, hg, h => by
    simp only [mxGoT, Bool.and_eq_true, beq_iff_eq] at hg
    obtain ⟨o, ho, hs⟩ := h
    rw [show Mx.leaf.depth + (rest.length + 1) = rest.length + 1 by simp [Mx.depth]]
    refine .stop hg.1 fun fuel hfu hdc => StepO.wpOp ho (hs.mono fun v w' hK => ?_)
    exact PlanC.any alone_none hns fuel (rest.length + 0) _ _ w' hdc (by omega) trivial (ChainL.plan (fun h => absurd h (Nat.lt_irrefl _)) (fun a w h => by rw [if_neg (Nat.lt_irrefl _)]; exact h) rest _ _ w' hg.2 hK)
  | .q i t, listed, a, w, hg, h => by
    simp only [mxGoT, Bool.and_eq_true, bne_iff_ne, ne_eq] at hg
    obtain ⟨o, v, hi, hs, hr⟩ := h
    rw [show (Mx.q i t).depth + (rest.length + 1) = t.depth + (rest.length + 1) + 1 by simp [Mx.depth]; omega]
    exact .take i o v hi hg.1.1.1 hg.1.1.2 (by simpa using hg.1.2) hs (MixL.planT hns t _ _ _ hg.2 hr)
  | .one i t, listed, a, w, hg, h => by
    simp only [mxGoT, Bool.and_eq_true, beq_iff_eq, bne_iff_ne, ne_eq] at hg
    obtain ⟨o, hi, hs⟩ := h
    rw [show (Mx.one i t).depth + (rest.length + 1) = t.depth + (rest.length + 1) + 1 by simp [Mx.depth]; omega]
    refine .fork (fun _ => o) (fun _ => fun v w' => I w' ∧ MixL P ops (EndT P ops Q y rest) I t (a.put o.dst v) w') (by rw [hg.1.2]; simp) (by rw [hg.1.2]; simp; exact fun e => hg.1.1 e.symm) ?_ ?_ ?_ ?_
    all_goals
      intro k hk
      rw [hg.1.2] at hk
      obtain rfl : k = i := by simpa using hk
    · exact hi
    · exact hs
    · exact fun v w' hK => hK.1
    · exact fun v w' hK => MixL.planT hns t _ _ _ hg.2 hK.2
  | .two i j t u, listed, a, w, hg, h => by
    simp only [mxGoT, Bool.and_eq_true, beq_iff_eq, bne_iff_ne, ne_eq] at hg
    obtain ⟨⟨⟨⟨⟨hy1, hy2⟩, hr⟩, hne⟩, h1⟩, h2⟩ := hg
    obtain ⟨⟨o, hi, hs⟩, ⟨o', hj, hs'⟩⟩ := h
    rw [show (Mx.two i j t u).depth + (rest.length + 1) = max t.depth u.depth + (rest.length + 1) + 1 by simp [Mx.depth]; omega]
    refine .fork (fun k => if k = i then o else o') (fun k => if k = i then (fun v w' => I w' ∧ MixL P ops (EndT P ops Q y rest) I t (a.put o.dst v) w') else (fun v w' => I w' ∧ MixL P ops (EndT P ops Q y rest) I u (a.put o'.dst v) w')) (by rw [hr]; simp) (by rw [hr]; simp; exact ⟨fun e => hy1 e.symm, fun e => hy2 e.symm⟩) ?_ ?_ ?_ ?_
    all_goals
      intro k hk
      rw [hr] at hk
      have hk2 : k = i ∨ k = j := by simpa using hk
      rcases hk2 with rfl | rfl
    · simpa using hi
    · rw [if_neg (Ne.symm hne)]; exact hj
    · simp only [if_true]; exact hs
    · simp only [if_neg (Ne.symm hne)]; exact hs'
    · simp only [if_true]; exact fun v w' hK => hK.1
    · simp only [if_neg (Ne.symm hne)]; exact fun v w' hK => hK.1
    · simp only [if_true]; exact fun v w' hK => (MixL.planT hns t _ _ _ h1 hK.2).more (by omega)
    · simp only [if_neg (Ne.symm hne)]; exact fun v w' hK => (MixL.planT hns u _ _ _ h2 hK.2).more (by omega)
def mxOkT (md : Region.Mode) (ops : Array Oper) (t : Mx) (y : Nat) (rest : List (Nat × Bool)) : Bool := Region.noSelect ops && decide (t.depth + (rest.length + 1) ≤ ops.size) && mxGoT md ops y rest t (Array.replicate ops.size false) && aloneAt md ops y
theorem mixT_any {a : Act} {w : World} (I : World → Prop) (t : Mx) (y : Nat) (rest : List (Nat × Bool)) (hok : mxOkT md ops t y rest = true) (hI : I w) (h : MixL P ops (EndT P ops Q y rest) I t a w) : wpAny P md ops Q ops.size (Array.replicate ops.size false) a w := by
  unfold mxOkT at hok
  simp only [Bool.and_eq_true, decide_eq_true_eq] at hok
  obtain ⟨⟨⟨h1, h2⟩, h3⟩, h4⟩ := hok
  have hns := fun (i : Nat) (o : Oper) cs b (hi : ops[i]? = some o) => Region.noSelect_spec h1 i o cs b hi
  exact PlanT.any (alone_at h4) hns ops.size (t.depth + (rest.length + 1)) _ a w (DC.none _) h2 hI (MixL.planT hns t _ a w h3 h)
theorem wp_region_mixT {id : Nat} {a : Act} {w : World} (I : World → Prop) (t : Mx) (y : Nat) (rest : List (Nat × Bool)) (hm : P.follows .mixedOrders = true) (hok : mxOkT .any ops t y rest = true) (hI : I w.drew)
    (h : MixL P ops (EndT P ops Q y rest) I t a w.drew) : (Code.region id ops true).wp P Q a w := wp_region_any hm (mixT_any I t y rest hok hI h)
theorem wpIn_region_mixT {n r id : Nat} {a : Act} {w : World} (I : World → Prop) (t : Mx) (y : Nat) (rest : List (Nat × Bool)) (hm : P.follows .mixedOrders = true) (hd : noDefer ops = true) (hok : mxOkT .any ops t y rest = true) (hQ : ¬ LetsOut Q) (hI : I w.drew)
    (h : MixL P ops (EndT P ops Q y rest) I t a w.drew) : (Code.region id ops true).wpIn (Fence.wide.inRound r) n P Q a w :=
  wpIn_region_any hm (any_in hd hQ _ _ _ _ (mixT_any I t y rest hok hI h))
end
end Go.Proofs.Ytlacjifnniahhaa

namespace Go.Proofs.Ytlacjifnniahhaa
open Go.RowKit

/-- are two quadruples the same? -/
def eq4 (a b c d a' b' c' d' : Int) : Bool := a == a' && b == b' && c == c' && d == d'

theorem eqB_run (a b c d a' b' c' d' : Int) (w : World) :
    (binOp .eql 48 (.agg #[.int .i64 a, .int .i64 b, .int .i64 c, .int .i64 d]) (.agg #[.int .i64 a', .int .i64 b', .int .i64 c', .int .i64 d'])).run Try.prog w = .ok (.bool (eq4 a b c d a' b' c' d')) w := by
  have hS : Try.prog.underlying 48 = some (.struct (Try.prog.fieldsOf 48)) := by kernel_rfl
  have hp : Try.prog.stoodInHeld 48 = false := by kernel_rfl
  have u3 := Try.underlying3
  have a3 := Try.isAgg3
  have z3 := Try.sizeOf3
  rw [run_eql_struct, show (10000 : Nat) = 9999 + 1 from rfl, run_equalIn_agg w 9999 48 _ _ hS hp]
  simp only [Program.fieldsOf, Try.underlying48]
  unfold eq4
  go_simp
  by_cases h1 : a = a' <;> by_cases h2 : b = b' <;> by_cases h3 : c = c' <;> by_cases h4 : d = d' <;> simp [h1, h2, h3, h4]

theorem eqB_guard (a b c d a' b' c' d' : Int) (x y : Operand) (w : World) :
    (eqGuard .eql 48 x y (.agg #[.int .i64 a, .int .i64 b, .int .i64 c, .int .i64 d]) (.agg #[.int .i64 a', .int .i64 b', .int .i64 c', .int .i64 d'])).run Try.prog w = .ok () w :=
  run_eqGuard_agg w .eql 48 x y _ _ (by kernel_rfl)

end Go.Proofs.Ytlacjifnniahhaa
