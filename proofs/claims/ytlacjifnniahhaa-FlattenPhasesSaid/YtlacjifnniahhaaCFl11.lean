/- Part 12 of the proof: FlM, FlN, OuM, OuR, OuP, OuB. -/
import Derived.Deep.Cut
import Derived.Deep.CutBlock
import Derived.RangeFuncKeeps
import Derived.RangeFuncCalls
import Derived.RangeFuncLeaves
import Derived.RangeFuncFrom
import Derived.RangeFuncNested
import Derived.RangeFuncBound
import Derived.Shelf.Abstract
import Derived.Shelf.RegionOpen
import Derived.WalkKit
import Derived.OwnWalkIn
import Derived.TacticsInMore
import Derived.LoopNIn
import Derived.LoopIn
import Derived.Maps.OwnIn
import Derived.Lib.Hide
import Derived.Test.YtlacjifnniahhaaCFl10

namespace Go.Proofs.Ytlacjifnniahhaa
open Go Go.RowKit Go.Shelf
attribute [local go_sem] Oper.semAt_some
set_option linter.unusedVariables false
set_option linter.unusedSimpArgs false

def ptsW (c : Bw) : List Dt := (List.range (pcW c).toNat).map fun (k : Nat) => atW c ((k : Int) + 1) ((pcW c).toNat : Int)
def dotsB (Bs : List Bw) : List Dt := Bs.flatMap ptsW
theorem pcW_nn (c : Bw) : 0 ≤ pcW c := by
  unfold pcW
  split
  · have := pcs_in (need c); omega
  · omega
theorem ptsW_len (c : Bw) : (ptsW c).length = (pcW c).toNat := by simp [ptsW]
theorem ptsW_next {c : Bw} {pre : List Dt} (h : pre = (ptsW c).take pre.length) (hl : pre.length < (pcW c).toNat) : pre ++ [atW c ((pre.length : Int) + 1) ((pcW c).toNat : Int)] = (ptsW c).take (pre.length + 1) := by
  have hx : (ptsW c)[pre.length]? = some (atW c ((pre.length : Int) + 1) ((pcW c).toNat : Int)) := by
    unfold ptsW
    rw [List.getElem?_map, List.getElem?_range hl]; rfl
  rw [take_snocF hx, ← h]
theorem dotsB_take {Bs : List Bw} {k : Nat} {c : Bw} (h : Bs[k]? = some c) : dotsB (Bs.take (k + 1)) = dotsB (Bs.take k) ++ ptsW c := by
  unfold dotsB
  rw [take_snocF h]; simp
theorem dotsB_pre {Bs : List Bw} {k j : Nat} {c : Bw} (h : Bs[k]? = some c) : dotsB (Bs.take k) ++ (ptsW c).take j <+: dotsB Bs := by
  have e : Bs = Bs.take k ++ c :: Bs.drop (k + 1) := by
    obtain ⟨hk, he⟩ := List.getElem?_eq_some_iff.1 h
    rw [← he, ← List.drop_eq_getElem_cons hk, List.take_append_drop]
  refine ⟨(ptsW c).drop j ++ dotsB (Bs.drop (k + 1)), ?_⟩
  conv => rhs; rw [e]
  unfold dotsB
  rw [List.flatMap_append, List.flatMap_cons]
  rw [List.append_assoc, ← List.append_assoc (List.take j (ptsW c)), List.take_append_drop]
theorem fdotsof_any (A : Option Addr) (n c : Nat) (w : World) : Calls Try.prog 41 #[.slice A n c] w fun e w' => e = .returned (.func (.func 68) #[] #[.pointer (some ⟨w.heap.size, 0, none⟩)]) ∧ w' = w.alloc (.cells #[.slice A n c] 63) := by
  go_enter Try.func41, Try.ntmps41
  go_wp2
  go_ret
  exact ⟨rfl, rfl⟩
theorem bwInfo9 : (Try.prog.info? 70).map (·.size) = some 9 := by kernel_rfl
/-- Between two rounds of the loop over bows. -/
def DI (J : List Dt → World → Prop) (Bs : List Bw) (l Bx wz n nb sb : Nat) (sl : Value) (W1 : World) (a' : Act) (w' : World) : Prop := ∃ (k : Nat) (Ds : List Nat) (u4 u5 u9 u10 u11 u12 u13 u14 u15 u16 u17 u18 u19 : Value),
  k ≤ n ∧ a' = { tmps := #[.func (.yield l) #[] #[], .pointer (some ⟨Bx, 0, none⟩), .pointer (some ⟨wz, 0, none⟩), undef, u4, u5, sl, .int .i64 n, .int .i64 k, u9, u10, u11, u12, u13, u14, u15, u16, u17, u18, u19], defers := mkOf Ds } ∧ Hid (Mks wz Ds w' ∧ J (dotsB (Bs.take k)) w' ∧ KpO nb sb W1 w')
set_option maxRecDepth 100000 in
set_option maxHeartbeats 4000000 in
theorem dotsof_stops (Bx k0 nb sb B : Nat) (A : Option Addr) (cp : Nat) (Bs : List Bw) (w0 : World) (hbx : w0.cell? ⟨Bx, 0, none⟩ = some (.slice A Bs.length cp)) (hL : Lists w0 B A (Bs.flatMap bwL)) (hB : B ≤ nb) (hBx : Bx < nb) (hnb : nb ≤ w0.heap.size) (hk0 : k0 = w0.heap.size + 2)
    (hfree : ∀ b, b < B ∨ b = Bx → b ≠ sb ∧ b ∉ ownAt sb w0) (hsb : sb < w0.heap.size) (hO : ∀ b ∈ ownAt sb w0, b < w0.heap.size) (hm : Bs.length ≤ 1000000) :
    SeqD Fence.wide 2 Try.prog 68 #[.pointer (some ⟨Bx, 0, none⟩)] (fun x : Dt => #[.agg #[.int .i64 x.1, .int .i64 x.2]]) (fun pre x _ => pre ++ [x] <+: dotsB Bs) (KpP k0 nb sb) (fun xs => xs = dotsB Bs) (fun pre => pre <+: dotsB Bs) w0 := by
  intro l J Jx W hW hz hJ hJx hY h0
  obtain ⟨W1, hW1⟩ : ∃ W1, W1 = W.alloc (.cells #[.func (.yield l) #[] #[]] 59) := ⟨_, rfl⟩
  have B1 : Below W.heap.size W W1 := hW1 ▸ below_a1 _ _
  have KY : Blk W1 W.heap.size 59 #[.func (.yield l) #[] #[]] := hW1 ▸ Blk.new _ _ _
  have hw1s : W1.heap.size = W.heap.size + 1 := by rw [hW1, World.size_alloc]
  have hj1 : J [] W1 := hW1 ▸ hJ.alloc _ h0
  have hWs := hW.size
  have b01 := hW.trans (B1.mono hWs)
  have how : ownAt sb W1 = ownAt sb w0 := ownAt_below b01 hsb
  have hO1 : ∀ b ∈ ownAt sb W1, b < w0.heap.size := fun b hb => by rw [how] at hb; exact hO b hb
  have HRD := Lib.hid (show ∀ V : World, KpO nb sb W1 V → ∀ b i, (b < B ∨ b = Bx) → V.cell? ⟨b, i, none⟩ = w0.cell? ⟨b, i, none⟩ from fun V hV b i hb => World.cell?_of_block (a := ⟨b, i, none⟩) ((hV.low b (by omega) (by omega) (hfree b hb).1 (by rw [how]; exact (hfree b hb).2)).trans (b01.block b (by omega))))
  have HKY := Lib.hid (show ∀ V : World, KpO nb sb W1 V → Blk V W.heap.size 59 #[.func (.yield l) #[] #[]] from fun V hV => hV.blk KY (by omega) (fun hm => by have := hO1 _ hm; omega))
  have HLT := Lib.hid (show ∀ V : World, KpO nb sb W1 V → ∀ b ∈ ownAt sb V, b < V.heap.size from fun V hV => hV.lt (fun b hb => by have := hO1 b hb; omega))
  have HL := Lib.hid hL
  have hcx := (HRD.out W1 (KpO.refl _ _ _) Bx 0 (.inr rfl)).trans hbx
  obtain ⟨n, hnn⟩ : ∃ n, n = Bs.length := ⟨_, rfl⟩
  rw [← hnn] at hcx hm
  have HN := Lib.hid hnn
  have HA := Lib.hid hW1
  have hbxl : Bx < W1.heap.size := by omega
  have hk1 : k0 ≤ W.heap.size := by omega
  have hs1 : sb < W1.heap.size := by omega
  have hn1 : nb ≤ W1.heap.size := by omega
  have hsW : sb < W.heap.size := by omega
  clear hW1 hnn hL hbx hO1 how hO hfree KY B1 b01 hW h0 hk0 hsb hnb hWs
  refine (callsIn_wide (n := 2)).2 ((callsIn_wide (n := 3)).1 ?_)
  refine callsIn_of_wp_marks Try.func68 rfl trivial ?_
  simp only [Try.ntmps68, List.size_toArray, List.length_cons, List.length_nil, Nat.reduceAdd, Nat.reduceSub, Array.replicate_succ, Array.replicate_zero, List.push_toArray, List.append_toArray, List.nil_append, List.cons_append]
  refine wpIn_wide.2 ?_
  go_upto_region 1 with fail
  rw [← HA.out]
  go_upto_region 2 with fail
  refine wp_loop (DI J Bs l Bx W.heap.size n nb sb (.slice A n cp) W1) (fun a' _ => n - (intOf (a'.tmps.getD 8 undef)).toNat) ?_ ?_
  · exact ⟨0, [], _, _, _, _, _, _, _, _, _, _, _, _, _, Nat.zero_le _, rfl, Lib.hid ⟨Mks.nil _ _, hj1, KpO.refl _ _ _⟩⟩
  · rintro a0 wr ⟨k, Ds, u4, u5, u9, u10, u11, u12, u13, u14, u15, u16, u17, u18, u19, hk, rfl, HREL⟩
    obtain ⟨hms, hJk, hb⟩ := HREL.out
    have HMS := Lib.hid hms
    clear hms
    clear hcx hj1
    have hsz := hb.size
    by_cases hlt : k < n
    · have d1 : decide ((k : Int) < (n : Int)) = true := by simp; omega
      obtain ⟨c, hc⟩ := at_someF (L := Bs) (k := k) (by rw [← HN.out]; exact hlt)
      obtain ⟨fb, fo, hA, hfb, hfc⟩ := lists_flat (sz := 9) (fun _ => rfl) (by omega) HL.out hc
      subst hA
      have hr : wr.rangeAt fb (fo + k * 9) (bwL c) := fun j v hv => (HRD.out wr hb fb _ (.inl hfb)).trans (hfc j v hv)
      have hfl : fb < wr.heap.size := by omega
      have HC := Lib.hid hc
      have HX := Lib.hid (dotsB_take hc)
      have HP := Lib.hid (fun j => dotsB_pre (j := j) hc)
      have HJk := Lib.hid hJk
      have HB := Lib.hid hb
      have HNB := Lib.hid (Blk.new wr 70 #[.int .i64 0, .int .i64 0, .int .i64 0, .int .i64 0, .int .i64 0, .int .i64 0, .int .i64 0, .int .i64 0, .int .i64 0])
      have CDD := fun V => dots_any c V
      unfold bwV at CDD
      clear hc hfc hJk hb
      go_upto_region 4 with (first
        | (refine wpList_load_mid rfl 70 (.tmp 10) (by with_reducible rfl) fb (fo + k * 9) (by rfl) (bwL c) _ hr Try.underlying70 rfl bwInfo9 ?_)
        | (refine wpList_store_row rfl 70 (.tmp 4) (.tmp 11) (by with_reducible rfl) wr.heap.size #[.int .i64 c.k, .int .i64 c.xa, .int .i64 c.ya, .int .i64 c.xb, .int .i64 c.yb, .int .i64 c.xc, .int .i64 c.yc, .int .i64 c.xd, .int .i64 c.yd] (by rfl) (by rfl) 70 #[.int .i64 0, .int .i64 0, .int .i64 0, .int .i64 0, .int .i64 0, .int .i64 0, .int .i64 0, .int .i64 0, .int .i64 0] (by exact HNB.out) bwInfo9 rfl (by simp [Value.oneCell']) ?_))
      obtain ⟨w2, hw2⟩ : ∃ w2, w2 = (wr.alloc (.cells #[.int .i64 0, .int .i64 0, .int .i64 0, .int .i64 0, .int .i64 0, .int .i64 0, .int .i64 0, .int .i64 0, .int .i64 0] 70)).setRow wr.heap.size #[.int .i64 c.k, .int .i64 c.xa, .int .i64 c.ya, .int .i64 c.xb, .int .i64 c.yb, .int .i64 c.xc, .int .i64 c.yc, .int .i64 c.xd, .int .i64 c.yd] := ⟨_, rfl⟩
      rw [← hw2]
      have B2 : Below wr.heap.size wr w2 := hw2 ▸ below_setRow (g := wr.heap.size) (below_a1 _ _) (Nat.le_refl _) _
      have K2 : Blk w2 wr.heap.size 70 #[.int .i64 c.k, .int .i64 c.xa, .int .i64 c.ya, .int .i64 c.xb, .int .i64 c.yb, .int .i64 c.xc, .int .i64 c.yc, .int .i64 c.xd, .int .i64 c.yd] := by rw [hw2]; exact blk_row HNB.out _
      have c0 := K2.cell 0; have c1 := K2.cell 1; have c2 := K2.cell 2; have c3 := K2.cell 3; have c4 := K2.cell 4; have c5 := K2.cell 5; have c6 := K2.cell 6; have c7 := K2.cell 7; have c8 := K2.cell 8; have cl := K2.lt; simp only [List.getElem?_toArray, List.getElem?_cons_succ, List.getElem?_cons_zero] at c0 c1 c2 c3 c4 c5 c6 c7 c8
      clear hw2 K2 hr hfl
      go_wp2_with (go_at_call 69; (with_reducible refine (CDD _).mono ?_); rintro e w3 ⟨rfl, K3, b3⟩)
      obtain ⟨bb, hbb⟩ : ∃ bb, bb = w2.heap.size := ⟨_, rfl⟩
      rw [← hbb] at K3 ⊢
      have B3 := B2.trans (b3.mono B2.size)
      have hB2s := B2.size
      have kp3 : KpO nb sb wr w3 := KpO.of B3 (by omega) (by omega)
      have KB3 := HB.out.trans kp3
      have hj3 : J (dotsB (Bs.take k)) w3 := stays_own hJ _ _ _ HJk.out B3
      have hs3 := B3.size
      have hbl := K3.lt
      have HK3 := Lib.hid (And.intro KB3 (And.intro hj3 (kfB B3 W.heap.size)))
      have HBB := Lib.hid (show bb ≠ sb ∧ bb ∉ ownAt sb w3 from ⟨by omega, fun hm => by
        rw [ownAt_below B3 (by omega)] at hm
        have := HLT.out wr HB.out bb hm
        omega⟩)
      clear c0 c1 c2 c3 c4 c5 c6 c7 c8 cl B2 B3 b3 kp3 KB3 hj3 CDD hbb
      obtain ⟨N, hN⟩ : ∃ N, N = (pcW c).toNat := ⟨_, rfl⟩
      have hNN : pcW c = (N : Int) := by
        have := pcW_nn c
        omega
      refine (wpIn_wide (n := 3)).1 ?_
      refine wpIn_rangeD1 (gf := 91) (lb := #[.pointer (some ⟨bb, 0, none⟩)]) rfl (enters_of Try.func91 (by kernel_rfl) rfl)
        (dots_stopsO bb nb sb N c w3 K3 (by omega) (HLT.out w3 HK3.out.1) (by omega) hNN).toD KpO.trans (fun X o o' hX ho h1 h2 => kpO_b (by omega) (by omega) X _ o o' (Nat.le_succ _) ho h1 h2) (fun X o hX => KpO.of (below_a1 X o) (by omega) (by omega)) (Below.refl _ _) (Nat.le_refl _) (fun _ => rfl) (fun pre => ownB_pure _)
        27 (fun x => #[.int .i64 x.1, .int .i64 x.2]) 14 5 (fun x => .agg #[.int .i64 x.1, .int .i64 x.2])
        (fun pre V => J (dotsB (Bs.take k) ++ pre) V ∧ pre = (ptsW c).take pre.length ∧ KpO nb sb w3 V ∧ KeepsFrom W.heap.size w3 V)
        (fun cc pre V => cc = .ret ∧ Jx (dotsB (Bs.take k) ++ pre) V ∧ dotsB (Bs.take k) ++ pre <+: dotsB Bs ∧ KeepsFrom W.heap.size w3 V)
        (OwnFrom.and (fun pre X Y row hs hg hr => hJ _ X Y row hs hg (fun r e => ⟨Nat.le_trans (by omega) (hr r e).1, (hr r e).2⟩)) (OwnFrom.and (ownB_pure _) (OwnFrom.and (kpO_own (by omega) (by omega) (by omega)) (kf_own (Nat.le_refl _)))))
        (fun cc => OwnFrom.and (ownB_pure _) (OwnFrom.and (fun pre X Y row hs hg hr => hJx _ X Y row hs hg (fun r e => ⟨Nat.le_trans (by omega) (hr r e).1, (hr r e).2⟩)) (OwnFrom.and (ownB_pure _) (kf_own (Nat.le_refl _)))))
        (fun pre V h => h.2.2.1.size) ⟨by rw [List.append_nil]; exact HK3.out.2.1, by simp, KpO.refl _ _ _, KeepsFrom.refl _ _⟩ ?assign ?body ?done ?stop
      case assign =>
        intro l2 x V K hK
        gi_wp2
        simpa using hK
      case body =>
        rintro l2 pre x Bd V ⟨i1, i2, i3, i4⟩ ⟨hC1, hC2⟩ hBd hb
        simp only [List.setIfInBounds_toArray, List.set_cons_zero, List.set_cons_succ]
        have hnx : pre ++ [x] = (ptsW c).take (pre.length + 1) := by
          rw [hC2, hN]
          exact ptsW_next i2 (by rw [← hN]; exact hC1)
        have hpx : dotsB (Bs.take k) ++ pre ++ [x] <+: dotsB Bs := by
          rw [List.append_assoc, hnx]; exact HP.out _
        obtain ⟨fn, tmps, assign, body, hy, hRd⟩ := hY _ x V i1 hpx
        have HI := Lib.hid (And.intro i3 (And.intro hpx (And.intro hnx i4)))
        have ky := HKY.out V (HK3.out.1.trans i3)
        have y0 := ky.cell 0
        have yl := ky.lt
        simp only [List.getElem?_toArray, List.getElem?_cons_zero] at y0
        have z0 := hb.cell 0; have z1 := hb.cell 1; have zl := hb.lt; simp only [List.getElem?_toArray, List.getElem?_cons_succ, List.getElem?_cons_zero] at z0 z1
        clear i1 i2 i3 i4 hC1 hC2 hnx hpx ky hb
        gi_wp2
        refine (roundIn_any (Wd.inRound l2) _ (show RoundIn Fence.wide (2 - 1) _ _ _ _ _ _ _ _ from hRd)).mono ?_
        rintro e V2 (⟨rfl, hJ3, lv⟩ | ⟨rfl, hJx3, lv⟩)
        · gi_wp2
          have hkf : KeepsFrom W.heap.size V V2 := kf_mono lv.kf hk1
          exact ⟨kf_mono hkf (by omega), lv.o, by rw [← List.append_assoc]; exact hJ3, by
            have e := HI.out.2.2.1
            have el := congrArg List.length e
            rw [el]
            conv => lhs; rw [e]
            rw [List.length_take]
            have : pre.length + 1 ≤ (ptsW c).length := by
              rw [List.length_append, List.length_take] at el
              simp at el
              omega
            rw [Nat.min_eq_left this], HI.out.1.trans lv.o, kf_trans HI.out.2.2.2 hkf⟩
        · gi_wp2
          have hkf : KeepsFrom W.heap.size V V2 := kf_mono lv (by omega)
          exact ⟨kf_mono hkf (by omega), rfl, by rw [← List.append_assoc]; exact hJx3, by rw [← List.append_assoc]; exact HI.out.2.1, kf_trans HI.out.2.2.2 hkf⟩
      case done =>
        rintro D xs V hD hxs ⟨i1, i2, i3, i4⟩ hK
        have hxx : xs = ptsW c := by
          rw [i2, hxs, List.take_of_length_le (by rw [ptsW_len, hN]; exact Nat.le_refl _)]
        subst hxx
        have HI := Lib.hid (And.intro i1 (And.intro (HK3.out.1.trans i3) (And.intro i4 hK)))
        clear i1 i2 i3 i4
        go_wp2
        refine ⟨⟨k + 1, D :: Ds, _, _, _, _, _, _, _, _, _, _, _, _, _, by omega, by rfl, Lib.hid ⟨?_, by rw [HX.out]; exact HI.out.1, HI.out.2.1⟩⟩, by simp [intOf]; omega⟩
        exact ((HMS.out.keep HK3.out.2.2).keep HI.out.2.2.1).cons (by omega) HI.out.2.2.2 (fun hm => by
          have := HMS.out.lt D hm
          omega)
      case stop =>
        rintro D cc pre V hD hSp ⟨rfl, i1, i2, i3⟩ hK
        have HM2 := ((HMS.out.keep HK3.out.2.2).keep i3).cons (by omega : W.heap.size ≤ D) hK (fun hm => by
          have := HMS.out.lt D hm
          omega)
        gi_wp2
        exact retMs (Ds := D :: Ds) (T := fun U => Jx (dotsB (Bs.take k) ++ pre) U) rfl HM2 i1 (fun U E hE ho hT => hJx.putObj _ hT hE ho rfl) (fun U hU => ⟨.tuple #[], by simp [results, Try.f68, go_sem], ⟨_, rfl⟩, .inr ⟨_, i2, hU⟩⟩)
    · have d1 : decide ((k : Int) < (n : Int)) = false := by simp; omega
      have HT := Lib.hid (show Bs.take k = Bs from List.take_of_length_le (by have := HN.out; omega))
      rw [HT.out] at hJk
      go_wp2
      exact retMs0 (Ds := Ds) (T := fun U => J (dotsB Bs) U) rfl HMS.out hJk (fun U E hE ho hT => hJ.putObj _ hT hE ho rfl) (fun U hU => ⟨.tuple #[], by simp [results, Try.f68, go_sem], ⟨_, rfl⟩, .inl ⟨_, rfl, hU⟩⟩)
end Go.Proofs.Ytlacjifnniahhaa

namespace Go.Proofs.Ytlacjifnniahhaa
open Go Go.RowKit Go.Shelf
attribute [local go_sem] Oper.semAt_some
set_option linter.unusedVariables false
set_option linter.unusedSimpArgs false

/-- A row in a box has grown. -/
theorem push_endO {W V : World} {nb sb n n' sz k0 : Nat} {T e : TypeId} {vx vx' : Value} {X X' : List Value} (hne : e ≠ T) (kx : Blk W sb T #[vx]) (ox : W.ownsRow nb e sz vx n X) (hnb : nb ≤ W.heap.size) (o : Only W V (blk vx))
    (ox' : V.ownsRow nb e sz vx' n' X') (hb : ∀ b ∈ blk vx', b ∈ blk vx ∨ W.heap.size ≤ b) {Vf : World} (hVf : Vf = V.setCell ⟨sb, 0, none⟩ vx') : KeepsOthers W Vf ∧ KpO nb sb W Vf ∧ Blk Vf sb T #[vx'] ∧ Vf.ownsRow nb e sz vx' n' X' := by
  have hx : sb ∉ blk vx := own_ne ox kx hne
  have kxV := kx.only o hx
  have o2 : Only V Vf [sb] := by rw [hVf]; exact (Only.refl V [sb]).set (.inl (by simp)) vx'
  have oF : Only W Vf (blk vx ++ [sb]) := only_more ⟨o.os, o.tape, o.output, o.size, fun b hb hf => o.block b hb (fun hm => hf (List.mem_append_left _ hm))⟩ o2 (fun b hb => .inl (List.mem_append_right _ hb))
  have b1 : Blk Vf sb T #[vx'] := by rw [hVf]; exact kxV.set 0 vx'
  have oR := own_only ox' o2 (fun b hb hm => by simp at hm; subst hm; exact own_ne ox' kxV hne hb)
  refine ⟨koO oF (fun b hb => ?_), ⟨oF.os, oF.tape, oF.output, oF.size, fun b p hs hf hp _ => (oF.block b (Array.getElem?_eq_some_iff.1 hp).1 (fun hm => ?_)).trans hp, fun b hb' => ?_, fun b _ hl hs hf => oF.block b hl (fun hm => ?_)⟩, b1, oR⟩
  · rw [List.mem_append] at hb
    rcases hb with hb | hb
    · obtain ⟨cs, h⟩ := own_cellsB ox b hb; exact ⟨_, _, h⟩
    · simp at hb; subst hb; exact ⟨_, _, kx⟩
  · rw [List.mem_append] at hm
    rw [ownAt_blk kx] at hf
    rcases hm with hm | hm
    · exact hf hm
    · simp at hm; exact hs hm
  · rw [ownAt_blk b1] at hb'
    rw [ownAt_blk kx]
    rcases hb b hb' with h1 | h1
    · exact .inl h1
    · exact .inr ⟨h1, own_ltB oR b hb'⟩
  · rw [List.mem_append] at hm
    rw [ownAt_blk kx] at hf
    rcases hm with hm | hm
    · exact hf hm
    · simp at hm; exact hs hm
set_option maxRecDepth 100000 in
set_option maxHeartbeats 4000000 in
theorem appseq_any (Bx : Nat) (A : Option Addr) (cp : Nat) (Bs : List Bw) (w : World) (hbx : w.cell? ⟨Bx, 0, none⟩ = some (.slice A Bs.length cp)) (hL : Lists w w.heap.size A (Bs.flatMap bwL)) (hBx : Bx < w.heap.size) (hm : Bs.length ≤ 1000000) (hd : (dotsB Bs).length ≤ 1000000) : Calls Try.prog 67 #[.slice none 0 0, (.func (.func 68) #[] #[.pointer (some ⟨Bx, 0, none⟩)])] w fun e w' => ∃ r, e = .returned r ∧ w'.ownsRow w.heap.size 27 2 r (dotsB Bs).length ((dotsB Bs).flatMap dtL) ∧ Below w.heap.size w w' := by
  obtain ⟨i1, hi1, hz1, hs1, hy1⟩ := info_partsB dtInfoB
  have HI1 := Lib.hid (And.intro hi1 (And.intro hz1 (And.intro hs1 hy1)))
  have B0 := below_a1 w (.cells #[.slice none 0 0] 61)
  have K0 := Blk.new w 61 #[.slice none 0 0]
  obtain ⟨wA, hwA⟩ : ∃ wA, wA = w.alloc (.cells #[.slice none 0 0] 61) := ⟨_, rfl⟩
  rw [← hwA] at B0 K0
  have HA := Lib.hid hwA
  have hsA : wA.heap.size = w.heap.size + 1 := by rw [hwA, World.size_alloc]
  have hoA : ownAt w.heap.size wA = [] := by rw [ownAt_blk K0]; simp [blk, Value.ownBlock]
  have HB := Lib.hid B0
  have kbx := (B0.cell (p := ⟨Bx, 0, none⟩) hBx).trans hbx
  have hLA := hL.below B0
  obtain ⟨sb, hsb⟩ : ∃ sb, sb = w.heap.size := ⟨_, rfl⟩
  have HD := Lib.hid hd
  have SEQ := dotsof_stops Bx (wA.heap.size + 2) w.heap.size w.heap.size w.heap.size A cp Bs wA kbx hLA (Nat.le_refl _) hBx (by omega) rfl (fun b hb => ⟨by omega, by rw [hoA]; simp⟩) (by omega) (by rw [hoA]; simp) hm
  clear hwA hbx hL kbx hLA hd
  refine (callsIn_wide (n := 3)).1 ?_
  refine callsIn_of_wp_marks Try.func67 rfl trivial ?_
  simp only [Try.ntmps67, List.size_toArray, List.length_cons, List.length_nil, Nat.reduceAdd, Nat.reduceSub, Array.replicate_succ, Array.replicate_zero, List.push_toArray, List.append_toArray, List.nil_append, List.cons_append]
  refine wpIn_wide.2 ?_
  go_upto_region 1 with fail
  rw [← HA.out]
  go_wp2
  refine (wpIn_wide (n := 3)).1 ?_
  refine wpIn_rangeD1 (gf := 68) (lb := #[.pointer (some ⟨Bx, 0, none⟩)]) rfl (enters_of Try.func68 (by kernel_rfl) rfl)
    SEQ KpP.trans (fun X o o' hX ho h1 h2 => ⟨kpO_b (w := wA) (by omega) (by omega) X _ o o' (Nat.le_succ _) ho h1 h2, ⟨by simp [World.putObj], fun k p hk hp hc => (World.putObj_heap_other (by omega)).trans hp⟩⟩) (fun X o hX => ⟨KpO.of (below_a1 X o) (by omega) (by omega), kfB (below_a1 X o) _⟩) (Below.refl _ _) (Nat.le_refl _) (fun _ => rfl) (fun pre => ownB_pure _)
    27 (fun x => #[.int .i64 x.1, .int .i64 x.2]) 7 5 (fun x => .agg #[.int .i64 x.1, .int .i64 x.2])
    (fun pre V => ∃ v, Hid (Blk V w.heap.size 61 #[v] ∧ V.ownsRow w.heap.size 27 2 v pre.length (pre.flatMap dtL) ∧ KpO w.heap.size w.heap.size wA V))
    (fun cc pre V => False)
    (by
      rintro pre X Y row ⟨v, H⟩ hg hr
      obtain ⟨a, b, c⟩ := H.out
      exact ⟨v, Lib.hid ⟨(blkB (β := Unit)) () X Y row a hg hr, ownK b hg (fun r e => (hr r e).2), (kpO_own (β := Unit) (by omega) (by omega) (by omega)) () X Y row c hg hr⟩⟩)
    (fun cc => ownB_pure _) (fun pre V h => by obtain ⟨v, H⟩ := h; exact H.out.2.2.size) ⟨_, Lib.hid ⟨K0, World.ownsRow_nil _ _ _ _, KpO.refl _ _ _⟩⟩ ?assign ?body ?done ?stop
  case assign =>
    intro l x W K hK
    gi_wp2
    simpa using hK
  case body =>
    rintro l pre x Bd W ⟨v, H⟩ hC hBd hb
    obtain ⟨kx, ox, hkp⟩ := H.out
    simp only [List.setIfInBounds_toArray, List.set_cons_zero, List.set_cons_succ]
    obtain ⟨n, hpn⟩ : ∃ n, n = pre.length := ⟨_, rfl⟩
    rw [← hpn] at ox
    have HPN := Lib.hid hpn.symm
    have hn1 : n + 1 ≤ 1000000 := by
      have h1 := hC.length_le
      rw [List.length_append] at h1
      simp at h1
      have := HD.out
      omega
    obtain ⟨Ax, cx, rfl, lx, _⟩ := own_lists ox
    have hW := hkp.size
    have x0 := kx.cell 0
    have xl := kx.lt
    simp only [List.getElem?_toArray, List.getElem?_cons_zero] at x0
    have z0 := hb.cell 0; have z1 := hb.cell 1; have zl := hb.lt; simp only [List.getElem?_toArray, List.getElem?_cons_succ, List.getElem?_cons_zero] at z0 z1
    have HX := Lib.hid (And.intro kx (And.intro ox hkp))
    clear hpn kx ox hkp lx hC hb SEQ
    gi_wp2_with (gi_at_builtin; refine wpListIn_append_own_at (w := W.alloc (.cells #[.int .i64 x.1, .int .i64 x.2] 27)) rfl (.tmp 8) (.tmp 10) 61 rfl w.heap.size 27 i1 (.agg #[.int .i64 0, .int .i64 0]) 2 16 Try.underlying61 HI1.out.1 HI1.out.2.1 HI1.out.2.2.1 HI1.out.2.2.2 rfl (by decide) _ n _ rfl (own_stayF HX.out.2.1 (below_a1 _ _)) ⟨W.heap.size, 0, none⟩ 1 1 [.int .i64 x.1, .int .i64 x.2] rfl rfl ((lists_row W [.int .i64 x.1, .int .i64 x.2] 27).cell _ rfl) (fun u hu => by simp at hu; rcases hu with rfl | rfl <;> rfl) (by simp only [maxLen]; omega) (by omega) (by simp; omega) ?_; intro v6 w6 own6 hg6 hnil6 hat6; obtain ⟨B6, c6, rfl, _, _⟩ := own_lists own6; have o6 : Only W w6 (blk (.slice Ax n cx)) := (only_alloc (Only.refl _ _) _).grown hg6 (fun b hb => .inl (by have h9 : (Value.slice Ax n cx).ownBlock = some b := hb; unfold blk; rw [h9]; simp)); have hf6 := (HX.out.1.only o6 (own_ne HX.out.2.1 HX.out.1 (by decide))).frozen 0; have hc6 := (HX.out.1.only o6 (own_ne HX.out.2.1 HX.out.1 (by decide))).cell 0)
    have PE := push_endO (T := 61) (k0 := 0) (by decide) HX.out.1 HX.out.2.1 (by omega) o6 own6 (fun b hb => by
      rcases hat6 with h1 | h1
      · left; unfold blk at hb ⊢; rw [h1] at hb; exact hb
      · right
        unfold blk at hb
        rw [h1] at hb
        simp at hb
        omega) rfl
    exact ⟨PE.1.from _, ⟨PE.2.1, PE.1.from _⟩, _, Lib.hid ⟨PE.2.2.1, by
      rw [List.length_append, HPN.out, List.flatMap_append]
      have := PE.2.2.2
      simpa [dtL] using this, HX.out.2.2.trans PE.2.1⟩⟩
  case done =>
    rintro D xs V hD rfl ⟨v, H⟩ hK
    obtain ⟨kx, ox, hkp⟩ := H.out
    obtain ⟨Ax, cx, rfl, lx, _⟩ := own_lists ox
    have x0 := kx.cell 0
    have xl := kx.lt
    simp only [List.getElem?_toArray, List.getElem?_cons_zero] at x0
    have BV : Below w.heap.size wA V := ⟨hkp.os, hkp.tape, hkp.output, hkp.size, fun b hb => hkp.low b hb (by omega) (by omega) (by rw [hoA]; simp)⟩
    have HX := Lib.hid (And.intro ox (And.intro (HB.out.trans BV) hK))
    clear kx ox hkp lx BV SEQ
    go_wp2
    refine retM1 rfl HX.out.2.2 (v := .slice Ax (dotsB Bs).length cx) (by simp [results, Try.f67, go_sem]) ⟨_, rfl, ownK HX.out.1 (grownBy_putObj' _ D _) (fun r e => by cases e; exact ⟨_, HX.out.2.2, rfl⟩), HX.out.2.1.trans (put_below (by omega) _)⟩
  case stop =>
    rintro D cc pre V hD hSp hf hK
    exact hf.elim
set_option maxRecDepth 100000 in
theorem collect_any (Bx : Nat) (A : Option Addr) (cp : Nat) (Bs : List Bw) (w : World) (hbx : w.cell? ⟨Bx, 0, none⟩ = some (.slice A Bs.length cp)) (hL : Lists w w.heap.size A (Bs.flatMap bwL)) (hBx : Bx < w.heap.size) (hm : Bs.length ≤ 1000000) (hd : (dotsB Bs).length ≤ 1000000) : Calls Try.prog 40 #[(.func (.func 68) #[] #[.pointer (some ⟨Bx, 0, none⟩)])] w fun e w' => ∃ r, e = .returned r ∧ w'.ownsRow w.heap.size 27 2 r (dotsB Bs).length ((dotsB Bs).flatMap dtL) ∧ Below w.heap.size w w' := by
  have CA := appseq_any Bx A cp Bs w hbx hL hBx hm hd
  clear hbx hL hBx hm hd
  go_enter Try.func40, Try.ntmps40
  go_wp2_with (go_at_call 67; (with_reducible refine (CA).mono ?_); rintro e w1 ⟨r, rfl, o1, b1⟩)
  go_ret
  exact ⟨_, rfl, o1, b1⟩
end Go.Proofs.Ytlacjifnniahhaa

namespace Go.Proofs.Ytlacjifnniahhaa
open Go Go.RowKit

abbrev Pt := Int × Int × Int
def ptV (p : Pt) : Value := .agg #[.int .i64 p.1, .int .i64 p.2.1, .int .i64 p.2.2]
def ptCells : List Pt → List Value
  | [] => []
  | p :: r => .int .i64 p.1 :: .int .i64 p.2.1 :: .int .i64 p.2.2 :: ptCells r
theorem ptCells_len : ∀ L : List Pt, (ptCells L).length = L.length * 3
  | [] => rfl
  | _ :: r => by simp only [ptCells, List.length_cons, ptCells_len r]; omega
theorem ptCells_append : ∀ L M : List Pt, ptCells (L ++ M) = ptCells L ++ ptCells M
  | [], _ => rfl
  | _ :: r, M => by simp only [List.cons_append, ptCells, ptCells_append r M]
theorem ptCells_at : ∀ (L : List Pt) (k : Nat) (p : Pt), L[k]? = some p → (ptCells L)[k * 3]? = some (.int .i64 p.1) ∧ (ptCells L)[k * 3 + 1]? = some (.int .i64 p.2.1) ∧ (ptCells L)[k * 3 + 2]? = some (.int .i64 p.2.2)
  | [], k, p, h => by simp at h
  | q :: r, 0, p, h => by
    simp at h; subst h
    exact ⟨rfl, rfl, rfl⟩
  | q :: r, k + 1, p, h => by
    have := ptCells_at r k p (by simpa using h)
    rw [show (k + 1) * 3 = k * 3 + 3 by omega]
    simpa only [ptCells, List.getElem?_cons_succ] using this
theorem ptCells_one : ∀ L : List Pt, ∀ u ∈ ptCells L, u.oneCell' = true
  | [], u, h => by simp [ptCells] at h
  | q :: r, u, h => by
    simp only [ptCells, List.mem_cons] at h
    rcases h with rfl | rfl | rfl | h
    · rfl
    · rfl
    · rfl
    · exact ptCells_one r u h
theorem lists_pt {w : World} {B : Nat} {A : Option Addr} {L : List Pt} (h : Lists w B A (ptCells L)) {k : Nat} {p : Pt} (hk : L[k]? = some p) :
    ∃ b o, A = some ⟨b, o, none⟩ ∧ b < B ∧ w.cell? ⟨b, o + k * 3, none⟩ = some (.int .i64 p.1) ∧ w.cell? ⟨b, o + k * 3 + 1, none⟩ = some (.int .i64 p.2.1) ∧ w.cell? ⟨b, o + k * 3 + 2, none⟩ = some (.int .i64 p.2.2) := by
  obtain ⟨h1, h2, h3⟩ := ptCells_at L k p hk
  obtain ⟨b, o, rfl, hb, hc⟩ := h.plain (by intro e; rw [e] at h1; simp at h1)
  exact ⟨b, o, rfl, hb, hc _ _ h1, hc _ _ h2, hc _ _ h3⟩
theorem at_some {α : Type} {L : List α} {k : Nat} (h : k < L.length) : ∃ x, L[k]? = some x := ⟨L[k]'h, List.getElem?_eq_getElem _⟩

/-- The point at a place of the ring. -/
def ringP (L : List Pt) (i : Int) : Pt := L.getD (i % L.length).toNat (0, 0, 0)
theorem ringP_at {L : List Pt} {i : Int} {m : Nat} {p : Pt} (h : i % L.length = m) (hp : L[m]? = some p) : ringP L i = p := by
  unfold ringP; rw [h]; simp [List.getD, hp]
theorem ringP_nat {L : List Pt} {k : Nat} {p : Pt} (hp : L[k]? = some p) : ringP L (k : Int) = p := by
  have hk : k < L.length := (List.getElem?_eq_some_iff.1 hp).1
  exact ringP_at (m := k) (by rw [Int.emod_eq_of_lt (by omega) (by omega)]) hp
theorem ringP_add (L : List Pt) (i : Int) : ringP L (i + L.length) = ringP L i := by unfold ringP; rw [Int.add_emod_right]
theorem ringP_sub (L : List Pt) (i : Int) : ringP L (i - L.length) = ringP L i := by unfold ringP; rw [Int.sub_emod_right]
theorem ring_some {L : List Pt} (h : 0 < L.length) (i : Int) : ∃ m : Nat, i % L.length = m ∧ m < L.length ∧ L[m]? = some (ringP L i) := by
  have h1 := Int.emod_nonneg i (show (L.length : Int) ≠ 0 by omega)
  have h2 := Int.emod_lt_of_pos i (show (0 : Int) < L.length by omega)
  refine ⟨(i % L.length).toNat, by omega, by omega, ?_⟩
  obtain ⟨x, hx⟩ := at_some (L := L) (k := (i % L.length).toNat) (by omega)
  rw [hx]; congr 1
  exact (ringP_at (by omega) hx).symm

end Go.Proofs.Ytlacjifnniahhaa

namespace Go.Proofs.Ytlacjifnniahhaa
open Go Go.RowKit

set_option maxRecDepth 100000 in
theorem ring_any (B : Nat) (A : Option Addr) (c : Nat) (L : List Pt) (a : Int) (w : World) (hB : B ≤ w.heap.size) (h : Lists w B A (ptCells L)) (h0 : 0 < L.length) (hn : L.length ≤ 10000000) (ha : -L.length ≤ a) (ha2 : a ≤ 100000000) :
    Calls Try.prog 85 #[.slice A L.length c, .int .i64 a] w fun e w' => e = .returned (ptV (ringP L a)) ∧ Below w.heap.size w w' := by
  obtain ⟨m, hm, hmn, hp⟩ := ring_some h0 a
  obtain ⟨b, o, rfl, hb, c0, c1, c2⟩ := lists_pt h hp
  have d0 : b < w.heap.size := by omega
  obtain ⟨n, hnn⟩ : ∃ n, n = L.length := ⟨_, rfl⟩
  rw [← hnn] at hm hmn h0 hn ha ⊢
  have e1 : (a + (n : Int)) % (n : Int) = m := by rw [Int.add_emod_right]; exact hm
  generalize ringP L a = p at *
  obtain ⟨x, y, z⟩ := p
  clear h hp hm hnn hB hb
  go_enter Try.func85, Try.ntmps85
  go_wp2
  exact bodyPost_ret (v := ptV (x, y, z)) (by simp [results, Try.results85, go_sem, ptV]) rfl ⟨rfl, (Below.refl _ _).alloc (Nat.le_refl _) _⟩

set_option maxRecDepth 100000 in
theorem rat_any (B : Nat) (A : Option Addr) (c : Nat) (L : List Pt) (a : Int) (w : World) (hB : B ≤ w.heap.size) (h : Lists w B A (ptCells L)) (h0 : 0 < L.length) (hn : L.length ≤ 10000000) (ha : -L.length ≤ a) (ha2 : a ≤ 100000000) :
    Calls Try.prog 72 #[.slice A L.length c, .int .i64 a] w fun e w' => e = .returned (ptV (ringP L a)) ∧ Below w.heap.size w w' := by
  obtain ⟨m, hm, hmn, hp⟩ := ring_some h0 a
  obtain ⟨b, o, rfl, hb, c0, c1, c2⟩ := lists_pt h hp
  have d0 : b < w.heap.size := by omega
  obtain ⟨n, hnn⟩ : ∃ n, n = L.length := ⟨_, rfl⟩
  rw [← hnn] at hm hmn h0 hn ha ⊢
  have e1 : (a + (n : Int)) % (n : Int) = m := by rw [Int.add_emod_right]; exact hm
  generalize ringP L a = p at *
  obtain ⟨x, y, z⟩ := p
  clear h hp hm hnn hB hb
  go_enter Try.func72, Try.ntmps72
  go_wp2
  exact bodyPost_ret (v := ptV (x, y, z)) (by simp [results, Try.results72, go_sem, ptV]) rfl ⟨rfl, (Below.refl _ _).alloc (Nat.le_refl _) _⟩

end Go.Proofs.Ytlacjifnniahhaa

namespace Go.Proofs.Ytlacjifnniahhaa
open Go Go.RowKit

theorem field2 (x y z : Int) (w : World) : (Instr.field 25 (.agg #[.int .i64 x, .int .i64 y, .int .i64 z]) 2).run Try.prog w = .ok (.int .i64 z) w := by kernel_rfl
/-- The kind of the point at a place of the ring. -/
def kd (L : List Pt) (i : Int) : Int := (ringP L i).2.2
def pairK (a b : Int) : Bool := (a == 1 && b == 3) || (a == 3 && b == 1)
def pairB (L : List Pt) (i : Int) : Bool := pairK (kd L (i - 1)) (kd L (i + 1))
def cubK (n : Nat) (a b p q : Int) : Bool := if n < 3 then false else if a == 1 && b == 3 then p == 1 else (a == 3 && b == 1 && q == 1)
def cubB (L : List Pt) (i : Int) : Bool := cubK L.length (kd L (i - 1)) (kd L (i + 1)) (kd L (i + 2)) (kd L (i - 2))

set_option maxRecDepth 100000 in
theorem pair_any (B : Nat) (A : Option Addr) (c : Nat) (L : List Pt) (k : Nat) (w : World) (hB : B ≤ w.heap.size) (h : Lists w B A (ptCells L)) (hk : k < L.length) (hn : L.length ≤ 10000000) (r : Bool) (hr : pairB L k = r) :
    Calls Try.prog 83 #[.slice A L.length c, .int .i64 k] w fun e w' => e = .returned (.bool r) ∧ Below w.heap.size w w' := by
  have C := fun (a : Int) (ha : -L.length ≤ a) (hb : a ≤ 100000000) (w1 : World) (b1 : Below w.heap.size w w1) => ring_any B A c L a w1 (Nat.le_trans hB b1.size) (h.below (b1.mono hB)) (by omega) hn ha hb
  have C1 := C (k - 1) (by omega) (by omega) w (Below.refl _ _)
  have C2 := C (k + 1) (by omega) (by omega)
  unfold pairB kd at hr
  generalize ringP L ((k : Int) - 1) = p at *
  generalize ringP L ((k : Int) + 1) = q at *
  obtain ⟨x, y, z⟩ := p
  obtain ⟨x2, y2, z2⟩ := q
  simp only [ptV] at C1 C2 hr
  clear h C
  obtain ⟨n, hnn⟩ : ∃ n, n = L.length := ⟨_, rfl⟩
  rw [← hnn] at hk hn C1 C2 ⊢
  clear hnn
  unfold pairK at hr
  cases h1 : (z == 1) <;> cases h2 : (z2 == 3) <;> cases h3 : (z == 3) <;> cases h4 : (z2 == 1)
  all_goals
    rw [h1, h2, h3, h4] at hr
    subst hr
    have hfl := field2
    go_enter Try.func83, Try.ntmps83
    go_wp2_with (first | (go_at_call 85; ((with_reducible refine (C1).mono ?_); rintro e w1 ⟨rfl, b1⟩)) | (go_at_call 85; ((with_reducible refine (C2 _ b1).mono ?_); rintro e w2 ⟨rfl, b2⟩)))
    go_ret
    exact ⟨rfl, b1.trans (b2.mono b1.size)⟩

set_option maxRecDepth 100000 in
set_option maxHeartbeats 8000000 in
theorem cub_any (B : Nat) (A : Option Addr) (c : Nat) (L : List Pt) (k : Nat) (w : World) (hB : B ≤ w.heap.size) (h : Lists w B A (ptCells L)) (hk : k < L.length) (hn : L.length ≤ 10000000) (r : Bool) (hr : cubB L k = r) :
    Calls Try.prog 70 #[.slice A L.length c, .int .i64 k] w fun e w' => e = .returned (.bool r) ∧ Below w.heap.size w w' := by
  have C := fun (a : Int) (ha : -L.length ≤ a) (hb : a ≤ 100000000) (w1 : World) (b1 : Below w.heap.size w w1) => rat_any B A c L a w1 (Nat.le_trans hB b1.size) (h.below (b1.mono hB)) (by omega) hn ha hb
  have C1 := C (k - 1) (by omega) (by omega) w (Below.refl _ _)
  have C2 := C (k + 1) (by omega) (by omega)
  have C3 := C (k + 2) (by omega) (by omega)
  have C4 := C (k - 2 + L.length) (by omega) (by omega)
  rw [ringP_add] at C4
  unfold cubB kd at hr
  generalize ringP L ((k : Int) - 1) = p at *
  generalize ringP L ((k : Int) + 1) = q at *
  generalize ringP L ((k : Int) + 2) = p2 at *
  generalize ringP L ((k : Int) - 2) = q2 at *
  obtain ⟨x, y, z⟩ := p
  obtain ⟨x2, y2, z2⟩ := q
  obtain ⟨x3, y3, z3⟩ := p2
  obtain ⟨x4, y4, z4⟩ := q2
  simp only [ptV] at C1 C2 C3 C4 hr
  clear h C
  obtain ⟨n, hnn⟩ : ∃ n, n = L.length := ⟨_, rfl⟩
  rw [← hnn] at hk hn C1 C2 C3 C4 hr ⊢
  clear hnn
  unfold cubK at hr
  by_cases h0 : n < 3
  · rw [if_pos h0] at hr
    subst hr
    have hfl := field2
    go_enter Try.func70, Try.ntmps70
    go_wp2_with (first | (go_at_call 72; ((with_reducible refine (C1).mono ?_); rintro e w1 ⟨rfl, b1⟩)) | (go_at_call 72; ((with_reducible refine (C2 _ b1).mono ?_); rintro e w2 ⟨rfl, b2⟩; have b3 := b1.trans (b2.mono b1.size))))
    go_ret
    exact ⟨rfl, b3⟩
  · rw [if_neg h0] at hr
    cases h1 : (z == 1) <;> cases h2 : (z2 == 3) <;> cases h3 : (z == 3) <;> cases h4 : (z2 == 1) <;> cases h5 : (z3 == 1) <;> cases h6 : (z4 == 1)
    all_goals
      rw [h1, h2, h3, h4, h5, h6] at hr
      subst hr
      have hfl := field2
      go_enter Try.func70, Try.ntmps70
      go_wp2_with (first | (go_at_call 72; ((with_reducible refine (C1).mono ?_); rintro e w1 ⟨rfl, b1⟩)) | (go_at_call 72; ((with_reducible refine (C2 _ b1).mono ?_); rintro e w2 ⟨rfl, b2⟩; have b3 := b1.trans (b2.mono b1.size))) | (go_at_call 72; ((with_reducible refine (C3 _ b3).mono ?_); rintro e w3 ⟨rfl, b4⟩; have b5 := b3.trans (b4.mono b3.size))) | (go_at_call 72; ((with_reducible refine (C4 _ b3).mono ?_); rintro e w3 ⟨rfl, b4⟩; have b5 := b3.trans (b4.mono b3.size))))
      go_ret
      exact ⟨rfl, by assumption⟩

end Go.Proofs.Ytlacjifnniahhaa

namespace Go.Proofs.Ytlacjifnniahhaa
open Go Go.RowKit

def okP (p : Pt) : Bool := mayB p.1 && mayB p.2.1 && decide (1 ≤ p.2.2) && decide (p.2.2 ≤ 3)
def okA (L : List Pt) (k : Nat) (p : Pt) : Bool := okP p && (!(p.2.2 == 3) || pairB L k)
def okC (L : List Pt) (k : Nat) (p : Pt) : Bool := okP p && (!(p.2.2 == 3) || cubB L k)
def allI (f : Nat → Pt → Bool) (L : List Pt) : Bool := (List.range L.length).all fun (k : Nat) => f k (ringP L k)
def mayC (L : List Pt) : Bool := decide (0 < L.length) && allI (okA L) L
def rmayC (L : List Pt) : Bool := decide (0 < L.length) && allI (okC L) L
theorem allI_true {f : Nat → Pt → Bool} {L : List Pt} : allI f L = true ↔ ∀ (j : Nat) (p : Pt), L[j]? = some p → f j p = true := by
  unfold allI
  rw [List.all_eq_true]
  constructor
  · intro h j p hp
    have := h j (List.mem_range.2 (List.getElem?_eq_some_iff.1 hp).1)
    rwa [ringP_nat hp] at this
  · intro h j hj
    obtain ⟨p, hp⟩ := at_some (List.mem_range.1 hj)
    rw [ringP_nat hp]
    exact h j p hp
theorem all_bad' {f : Nat → Pt → Bool} {L : List Pt} {k : Nat} {p : Pt} (hp : L[k]? = some p) (hf : f k p = false) : allI f L = false := by
  cases h : allI f L
  · rfl
  · rw [allI_true.1 h k p hp] at hf; cases hf
theorem all_bad {f : Nat → Pt → Bool} {L : List Pt} {k n : Nat} {p : Pt} (_ : k < n) (hp : L[k]? = some p) (hf : f k p = false) : (decide (0 < L.length) && allI f L) = false := by rw [all_bad' hp hf, Bool.and_false]
theorem all_next {f : Nat → Pt → Bool} {L : List Pt} {k : Nat} {p : Pt} (h : ∀ (j : Nat) (p : Pt), j < k → L[j]? = some p → f j p = true) (hp : L[k]? = some p) (hf : f k p = true) : ∀ (j : Nat) (p : Pt), j < k + 1 → L[j]? = some p → f j p = true := by
  intro j q hj hq
  rcases Nat.lt_or_ge j k with h1 | h1
  · exact h j q h1 hq
  · obtain rfl : j = k := by omega
    rw [hp] at hq; cases hq; exact hf
theorem all_done {f : Nat → Pt → Bool} {L : List Pt} {k : Nat} (hk : k = L.length) (h : ∀ (j : Nat) (p : Pt), j < k → L[j]? = some p → f j p = true) : allI f L = true :=
  allI_true.2 fun j p hp => h j p (by rw [hk]; exact (List.getElem?_eq_some_iff.1 hp).1) hp
theorem may_is (x : Int) (r : Bool) (hr : mayB x = r) (w : World) : Calls Try.prog 29 #[.int .i64 x] w fun e w' => e = .returned (.bool r) ∧ w = w' := by subst hr; exact may_any x w
theorem rmay_is (x : Int) (r : Bool) (hr : mayB x = r) (w : World) : Calls Try.prog 33 #[.int .i64 x] w fun e w' => e = .returned (.bool r) ∧ w = w' := by subst hr; exact may_ref x w

set_option maxRecDepth 100000 in
set_option maxHeartbeats 4000000 in
theorem maybe_any (B : Nat) (A : Option Addr) (c : Nat) (L : List Pt) (w : World) (hB : B ≤ w.heap.size) (h : Lists w B A (ptCells L)) (hn : L.length ≤ 10000000) :
    Calls Try.prog 61 #[.slice A L.length c] w fun e w' => e = .returned (.bool (mayC L)) ∧ Below w.heap.size w w' := by
  have CP := fun (k : Nat) (w1 : World) (r : Bool) (hr : pairB L k = r) (b1 : Below w.heap.size w w1) (hk : k < L.length) => pair_any B A c L k w1 (Nat.le_trans hB b1.size) (h.below (b1.mono hB)) hk hn r hr
  have H := Lib.hid h
  obtain ⟨n, hnn⟩ : ∃ n, n = L.length := ⟨_, rfl⟩
  rw [← hnn] at hn CP ⊢
  have HN := Lib.hid hnn
  clear h hnn
  go_enter Try.func61, Try.ntmps61
  go_wp2
  go_loopw [7] (fun i wr => ∃ k : Nat, k ≤ n ∧ i = .int .i64 k ∧ Hid (∀ (j : Nat) (p : Pt), j < k → L[j]? = some p → okA L j p = true) ∧ Below w.heap.size w wr) (fun i _ => n - (intOf i).toNat)
  case atStart => exact ⟨0, Nat.zero_le _, rfl, Lib.hid (fun j p h => absurd h (Nat.not_lt_zero _)), Below.refl _ _⟩
  case round =>
    obtain ⟨k, hk, rfl, HK, hb⟩ := hrel
    by_cases hlt : k < n
    · have CP := fun w1 r hr b1 => CP k w1 r hr b1 hlt
      obtain ⟨⟨x, y, z⟩, hp⟩ := at_some (L := L) (k := k) (by rw [← HN.out]; exact hlt)
      obtain ⟨b, o, rfl, hbl, c0, c1, c2⟩ := lists_pt H.out hp
      have g0 := (hb.cell (p := ⟨b, o + k * 3, none⟩) (Nat.lt_of_lt_of_le hbl hB)).trans c0
      have g1 := (hb.cell (p := ⟨b, o + k * 3 + 1, none⟩) (Nat.lt_of_lt_of_le hbl hB)).trans c1
      have g2 := (hb.cell (p := ⟨b, o + k * 3 + 2, none⟩) (Nat.lt_of_lt_of_le hbl hB)).trans c2
      have g3 : b < wr.heap.size := by have := hb.size; omega
      have HP := Lib.hid hp
      clear c0 c1 c2 hp
      simp only at g0 g1 g2
      cases hx : mayB x
      · have HB := Lib.hid (show mayC L = false from all_bad hlt HP.out (by simp [okA, okP, hx]))
        go_wp2_with (first | (go_at_call 29; ((with_reducible refine (may_is x false hx _).mono ?_); rintro e w3 ⟨rfl, rfl⟩)))
        go_ret
        exact ⟨by rw [HB.out]; rfl, hb.alloc hb.size _⟩
      · cases hy : mayB y
        · have HB := Lib.hid (show mayC L = false from all_bad hlt HP.out (by simp [okA, okP, hx, hy]))
          go_wp2_with (first | (go_at_call 29; ((with_reducible refine (may_is x true hx _).mono ?_); rintro e w3 ⟨rfl, rfl⟩)) | (go_at_call 29; ((with_reducible refine (may_is y false hy _).mono ?_); rintro e w3 ⟨rfl, rfl⟩)))
          go_ret
          exact ⟨by rw [HB.out]; rfl, hb.alloc hb.size _⟩
        · by_cases hz1 : z < 1
          · have d2 : decide (z < 1) = true := by simp; omega
            have d5 : ¬ 1 ≤ z := by omega
            have HB := Lib.hid (show mayC L = false from all_bad hlt HP.out (by simp [okA, okP, d5]))
            go_wp2_with (first | (go_at_call 29; ((with_reducible refine (may_is x true hx _).mono ?_); rintro e w3 ⟨rfl, rfl⟩)) | (go_at_call 29; ((with_reducible refine (may_is y true hy _).mono ?_); rintro e w3 ⟨rfl, rfl⟩)))
            go_ret
            exact ⟨by rw [HB.out]; rfl, hb.alloc hb.size _⟩
          · have d5 : 1 ≤ z := by omega
            by_cases hz3 : 3 < z
            · have d2 : decide (z < 1) = false := by simp; omega
              have d3 : decide (3 < z) = true := by simp; omega
              have d6 : ¬ z ≤ 3 := by omega
              have HB := Lib.hid (show mayC L = false from all_bad hlt HP.out (by simp [okA, okP, d6]))
              go_wp2_with (first | (go_at_call 29; ((with_reducible refine (may_is x true hx _).mono ?_); rintro e w3 ⟨rfl, rfl⟩)) | (go_at_call 29; ((with_reducible refine (may_is y true hy _).mono ?_); rintro e w3 ⟨rfl, rfl⟩)))
              go_ret
              exact ⟨by rw [HB.out]; rfl, hb.alloc hb.size _⟩
            · have d6 : z ≤ 3 := by omega
              by_cases he : z = 3
              · subst he
                cases hp : pairB L k
                · have HB := Lib.hid (show mayC L = false from all_bad hlt HP.out (by simp [okA, okP, hp]))
                  go_wp2_with (first | (go_at_call 29; ((with_reducible refine (may_is x true hx _).mono ?_); rintro e w3 ⟨rfl, rfl⟩)) | (go_at_call 29; ((with_reducible refine (may_is y true hy _).mono ?_); rintro e w3 ⟨rfl, rfl⟩)) | (go_at_call 83; ((with_reducible refine (CP _ false hp (hb.alloc hb.size _)).mono ?_); rintro e w3 ⟨rfl, b3⟩)))
                  go_ret
                  exact ⟨by rw [HB.out]; rfl, (hb.alloc hb.size _).trans (b3.mono (by simp; have := hb.size; omega))⟩
                · have HS := Lib.hid (all_next (f := okA L) HK.out HP.out (by simp [okA, okP, hx, hy, hp]))
                  go_wp2_with (first | (go_at_call 29; ((with_reducible refine (may_is x true hx _).mono ?_); rintro e w3 ⟨rfl, rfl⟩)) | (go_at_call 29; ((with_reducible refine (may_is y true hy _).mono ?_); rintro e w3 ⟨rfl, rfl⟩)) | (go_at_call 83; ((with_reducible refine (CP _ true hp (hb.alloc hb.size _)).mono ?_); rintro e w3 ⟨rfl, b3⟩)))
                  go_roundw
                  case rel => exact ⟨k + 1, by omega, by go_num, HS, (hb.alloc hb.size _).trans (b3.mono (by simp; have := hb.size; omega))⟩
                  case measure => simp [intOf]; omega
              · have d2 : decide (z < 1) = false := by simp; omega
                have d3 : decide (3 < z) = false := by simp; omega
                have d4 : (z == 3) = false := by simp; omega
                have HS := Lib.hid (all_next (f := okA L) HK.out HP.out (by simp [okA, okP, hx, hy, d4, d5, d6]))
                go_wp2_with (first | (go_at_call 29; ((with_reducible refine (may_is x true hx _).mono ?_); rintro e w3 ⟨rfl, rfl⟩)) | (go_at_call 29; ((with_reducible refine (may_is y true hy _).mono ?_); rintro e w3 ⟨rfl, rfl⟩)))
                go_roundw
                case rel => exact ⟨k + 1, by omega, by go_num, HS, hb.alloc hb.size _⟩
                case measure => simp [intOf]; omega
    · obtain rfl : k = n := by omega
      have HT := Lib.hid (all_done (f := okA L) HN.out HK.out)
      by_cases h0 : 0 < k
      · have HB := Lib.hid (show mayC L = true by unfold mayC; rw [HT.out, ← HN.out]; simp [h0])
        go_wp2
        go_ret
        exact ⟨by rw [HB.out]; rfl, hb⟩
      · obtain rfl : k = 0 := by omega
        have HB := Lib.hid (show mayC L = false by unfold mayC; rw [← HN.out]; simp)
        go_wp2
        go_ret
        exact ⟨by rw [HB.out]; rfl, hb⟩

set_option maxRecDepth 100000 in
set_option maxHeartbeats 4000000 in
theorem rmay_any (B : Nat) (A : Option Addr) (c : Nat) (L : List Pt) (w : World) (hB : B ≤ w.heap.size) (h : Lists w B A (ptCells L)) (hn : L.length ≤ 10000000) :
    Calls Try.prog 43 #[.slice A L.length c] w fun e w' => e = .returned (.bool (rmayC L)) ∧ Below w.heap.size w w' := by
  have CP := fun (k : Nat) (w1 : World) (r : Bool) (hr : cubB L k = r) (b1 : Below w.heap.size w w1) (hk : k < L.length) => cub_any B A c L k w1 (Nat.le_trans hB b1.size) (h.below (b1.mono hB)) hk hn r hr
  have H := Lib.hid h
  obtain ⟨n, hnn⟩ : ∃ n, n = L.length := ⟨_, rfl⟩
  rw [← hnn] at hn CP ⊢
  have HN := Lib.hid hnn
  clear h hnn
  go_enter Try.func43, Try.ntmps43
  go_wp2
  go_loopw [3] (fun i wr => ∃ k : Nat, k ≤ n ∧ i = .int .i64 k ∧ Hid (∀ (j : Nat) (p : Pt), j < k → L[j]? = some p → okC L j p = true) ∧ Below w.heap.size w wr) (fun i _ => n - (intOf i).toNat)
  case atStart => exact ⟨0, Nat.zero_le _, rfl, Lib.hid (fun j p h => absurd h (Nat.not_lt_zero _)), Below.refl _ _⟩
  case round =>
    obtain ⟨k, hk, rfl, HK, hb⟩ := hrel
    by_cases hlt : k < n
    · have CP := fun w1 r hr b1 => CP k w1 r hr b1 hlt
      obtain ⟨⟨x, y, z⟩, hp⟩ := at_some (L := L) (k := k) (by rw [← HN.out]; exact hlt)
      obtain ⟨b, o, rfl, hbl, c0, c1, c2⟩ := lists_pt H.out hp
      have g0 := (hb.cell (p := ⟨b, o + k * 3, none⟩) (Nat.lt_of_lt_of_le hbl hB)).trans c0
      have g1 := (hb.cell (p := ⟨b, o + k * 3 + 1, none⟩) (Nat.lt_of_lt_of_le hbl hB)).trans c1
      have g2 := (hb.cell (p := ⟨b, o + k * 3 + 2, none⟩) (Nat.lt_of_lt_of_le hbl hB)).trans c2
      have g3 : b < wr.heap.size := by have := hb.size; omega
      have HP := Lib.hid hp
      clear c0 c1 c2 hp
      simp only at g0 g1 g2
      by_cases hz1 : z < 1
      · have d2 : decide (z < 1) = true := by simp; omega
        have d5 : ¬ 1 ≤ z := by omega
        have HB := Lib.hid (show rmayC L = false from all_bad hlt HP.out (by simp [okC, okP, d5]))
        go_wp2
        go_ret
        exact ⟨by rw [HB.out]; rfl, hb.alloc hb.size _⟩
      · have d5 : 1 ≤ z := by omega
        by_cases hz3 : 3 < z
        · have d2 : decide (z < 1) = false := by simp; omega
          have d3 : decide (3 < z) = true := by simp; omega
          have d6 : ¬ z ≤ 3 := by omega
          have HB := Lib.hid (show rmayC L = false from all_bad hlt HP.out (by simp [okC, okP, d6]))
          go_wp2
          go_ret
          exact ⟨by rw [HB.out]; rfl, hb.alloc hb.size _⟩
        · have d6 : z ≤ 3 := by omega
          have d2 : decide (z < 1) = false := by simp; omega
          have d3 : decide (3 < z) = false := by simp; omega
          cases hx : mayB x
          · have HB := Lib.hid (show rmayC L = false from all_bad hlt HP.out (by simp [okC, okP, hx]))
            go_wp2_with (first | (go_at_call 33; ((with_reducible refine (rmay_is x false hx _).mono ?_); rintro e w3 ⟨rfl, rfl⟩)))
            go_ret
            exact ⟨by rw [HB.out]; rfl, hb.alloc hb.size _⟩
          · cases hy : mayB y
            · have HB := Lib.hid (show rmayC L = false from all_bad hlt HP.out (by simp [okC, okP, hx, hy]))
              go_wp2_with (first | (go_at_call 33; ((with_reducible refine (rmay_is x true hx _).mono ?_); rintro e w3 ⟨rfl, rfl⟩)) | (go_at_call 33; ((with_reducible refine (rmay_is y false hy _).mono ?_); rintro e w3 ⟨rfl, rfl⟩)))
              go_ret
              exact ⟨by rw [HB.out]; rfl, hb.alloc hb.size _⟩
            · by_cases he : z = 3
              · subst he
                cases hp : cubB L k
                · have HB := Lib.hid (show rmayC L = false from all_bad hlt HP.out (by simp [okC, okP, hp]))
                  go_wp2_with (first | (go_at_call 33; ((with_reducible refine (rmay_is x true hx _).mono ?_); rintro e w3 ⟨rfl, rfl⟩)) | (go_at_call 33; ((with_reducible refine (rmay_is y true hy _).mono ?_); rintro e w3 ⟨rfl, rfl⟩)) | (go_at_call 70; ((with_reducible refine (CP _ false hp (hb.alloc hb.size _)).mono ?_); rintro e w3 ⟨rfl, b3⟩)))
                  go_ret
                  exact ⟨by rw [HB.out]; rfl, (hb.alloc hb.size _).trans (b3.mono (by simp; have := hb.size; omega))⟩
                · have HS := Lib.hid (all_next (f := okC L) HK.out HP.out (by simp [okC, okP, hx, hy, hp]))
                  go_wp2_with (first | (go_at_call 33; ((with_reducible refine (rmay_is x true hx _).mono ?_); rintro e w3 ⟨rfl, rfl⟩)) | (go_at_call 33; ((with_reducible refine (rmay_is y true hy _).mono ?_); rintro e w3 ⟨rfl, rfl⟩)) | (go_at_call 70; ((with_reducible refine (CP _ true hp (hb.alloc hb.size _)).mono ?_); rintro e w3 ⟨rfl, b3⟩)))
                  go_roundw
                  case rel => exact ⟨k + 1, by omega, by go_num, HS, (hb.alloc hb.size _).trans (b3.mono (by simp; have := hb.size; omega))⟩
                  case measure => simp [intOf]; omega
              · have d4 : (z == 3) = false := by simp; omega
                have HS := Lib.hid (all_next (f := okC L) HK.out HP.out (by simp [okC, okP, hx, hy, d4, d5, d6]))
                go_wp2_with (first | (go_at_call 33; ((with_reducible refine (rmay_is x true hx _).mono ?_); rintro e w3 ⟨rfl, rfl⟩)) | (go_at_call 33; ((with_reducible refine (rmay_is y true hy _).mono ?_); rintro e w3 ⟨rfl, rfl⟩)))
                go_roundw
                case rel => exact ⟨k + 1, by omega, by go_num, HS, hb.alloc hb.size _⟩
                case measure => simp [intOf]; omega
    · obtain rfl : k = n := by omega
      have HT := Lib.hid (all_done (f := okC L) HN.out HK.out)
      by_cases h0 : 0 < k
      · have HB := Lib.hid (show rmayC L = true by unfold rmayC; rw [HT.out, ← HN.out]; simp [h0])
        go_wp2
        go_ret
        exact ⟨by rw [HB.out]; rfl, hb⟩
      · obtain rfl : k = 0 := by omega
        have HB := Lib.hid (show rmayC L = false by unfold rmayC; rw [← HN.out]; simp)
        go_wp2
        go_ret
        exact ⟨by rw [HB.out]; rfl, hb⟩

end Go.Proofs.Ytlacjifnniahhaa
