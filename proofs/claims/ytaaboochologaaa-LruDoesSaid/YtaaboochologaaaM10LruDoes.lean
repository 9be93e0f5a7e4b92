/- Part 11 of the proof: LrAa, LrAb, LrAc. -/
import Derived.Test.YtaaboochologaaaM9LruDoes

namespace Go.Proofs.Ytaaboochologaaa
open Go Go.RowKit
set_option linter.unusedVariables false
set_option linter.unusedSimpArgs false

theorem RfS.only {W0 W V : World} {B q : Nat} {bud : Int} {E : List RE} {lv : Value} {fp : List Nat} (h : RfS W0 W B q bud E lv) (o : Only W V fp) (h1 : q ∉ fp) (h2 : ∀ b ∈ Go.Proofs.Ytaaboochologaaa.blk lv, b ∉ fp) (h3 : ∀ b ∈ fp, B ≤ b) : RfS W0 V B q bud E lv :=
  ⟨h.blk.only o h1, own_only h.own o h2, h.low, h.base.trans (o.to_below (by have := h.blk.lt; have := h.low; omega) h3), h.ok⟩
/-- Drop's answer. -/
def RDrop (W0 W : World) (B q : Nat) (bud : Int) (E : List RE) (lv : Value) (k : Ky) (e : Ending) (w' : World) : Prop :=
  (e = .returned (.tuple #[.agg #[.int .i64 0, .int .i64 0, .int .i64 0, .int .i64 0, .slice none 0 0], .bool false]) ∧ (∀ x ∈ E, x.k ≠ k) ∧ RfS W0 w' B q bud E lv ∧ Below W.heap.size W w') ∨
  ∃ i x lv', E[i]? = some x ∧ x.k = k ∧ e = .returned (.tuple #[.agg #[.int .i64 x.bx.x0, .int .i64 x.bx.y0, .int .i64 x.bx.x1, .int .i64 x.bx.y1, x.rv], .bool true]) ∧ RfS W0 w' B q bud (E.take i ++ E.drop (i + 1)) lv' ∧ Only W w' [q]
theorem drop_flat (E : List RE) (k : Nat) : (E.flatMap reL).drop (k * 9) = (E.drop k).flatMap reL := by
  induction E generalizing k with
  | nil => simp
  | cons e E ih =>
    cases k with
    | zero => simp
    | succ k =>
      rw [List.flatMap_cons, List.drop_succ_cons, List.drop_append, reLen, List.drop_of_length_le (by rw [reLen]; omega), show (k + 1) * 9 - 9 = k * 9 by omega, ih, List.nil_append]
def off9 (j c : Nat) : Nat := if c = j + 1 then 0 else (j + 1) * 9
theorem slice_hi9 (g n c j : Nat) (hj : j ≤ c) (w : World) : (Instr.sliceAt 30 (.slice (some ⟨g, 0, none⟩) n c) none (some (.int .i64 (j : Nat))) none).run Try.prog w = .ok (.slice (some ⟨g, 0, none⟩) j c) w := by
  have hu := Try.underlying30
  have hz := Try.sizeOf47
  have i1 : (0 : Int) ≤ (j : Int) := by omega
  have i2 : (j : Int) ≤ (c : Int) := by omega
  by_cases h0 : c = 0
  · obtain rfl : j = 0 := by omega
    subst h0
    simp [Instr.sliceAt, Instr.slice, Instr.sliceBounds, Instr.sliceBound, run_underlying hu, Sem.run_bind, Sem.run_pure, Result.andThen, asIntOf, hz, addr_plain]
  · simp [Instr.sliceAt, Instr.slice, Instr.sliceBounds, Instr.sliceBound, run_underlying hu, Sem.run_bind, Sem.run_pure, Result.andThen, asIntOf, hz, i1, i2, hj, h0, addr_plain]
theorem slice_lo9 (g n c j : Nat) (hj : j + 1 ≤ n) (hn : n ≤ c) (w : World) : (Instr.sliceAt 30 (.slice (some ⟨g, 0, none⟩) n c) (some (.int .i64 ((j : Int) + 1))) none none).run Try.prog w = .ok (.slice (some ⟨g, off9 j c, none⟩) (n - (j + 1)) (c - (j + 1))) w := by
  have hu := Try.underlying30
  have hz := Try.sizeOf47
  have i1 : (0 : Int) ≤ (j : Int) + 1 := by omega
  have i2 : (j : Int) + 1 ≤ (n : Int) := by omega
  have i3 : ((j : Int) + 1).toNat = j + 1 := by omega
  unfold off9
  by_cases h0 : c = j + 1
  · simp [Instr.sliceAt, Instr.slice, Instr.sliceBounds, Instr.sliceBound, run_underlying hu, Sem.run_bind, Sem.run_pure, Result.andThen, asIntOf, hz, i1, i2, i3, hn, h0, addr_plain]
  · simp [Instr.sliceAt, Instr.slice, Instr.sliceBounds, Instr.sliceBound, run_underlying hu, Sem.run_bind, Sem.run_pure, Result.andThen, asIntOf, hz, i1, i2, i3, hn, h0, addr_plain]
set_option maxRecDepth 100000 in
set_option maxHeartbeats 2000000 in
theorem rdrop_any (W0 W : World) (B q : Nat) (bud : Int) (E : List RE) (lv : Value) (k : Ky) (h : RfS W0 W B q bud E lv) (hs : E.length ≤ 17179869184) : Calls Try.prog 27 #[.pointer (some ⟨q, 0, none⟩), .agg #[.int .i64 k.1, .int .i64 k.2.1, .int .i64 k.2.2.1, .int .i64 k.2.2.2]] W (RDrop W0 W B q bud E lv k) := by
  obtain ⟨wa, hwa⟩ : ∃ wa, wa = (W.alloc (.cells #[.int .i64 k.1, .int .i64 k.2.1, .int .i64 k.2.2.1, .int .i64 k.2.2.2] 39)).alloc (.cells #[.int .i64 0, .int .i64 0, .int .i64 0, .int .i64 0, .slice none 0 0] 37) := ⟨_, rfl⟩
  have Ba : Below W.heap.size W wa := hwa ▸ below_a2 _ _ _
  have Ka : Blk wa W.heap.size 39 #[.int .i64 k.1, .int .i64 k.2.1, .int .i64 k.2.2.1, .int .i64 k.2.2.2] := hwa ▸ (Blk.new W 39 #[.int .i64 k.1, .int .i64 k.2.1, .int .i64 k.2.2.1, .int .i64 k.2.2.2]).below (below_a1 _ (.cells #[.int .i64 0, .int .i64 0, .int .i64 0, .int .i64 0, .slice none 0 0] 37))
  have Ra : Blk wa (W.heap.size + 1) 37 #[.int .i64 0, .int .i64 0, .int .i64 0, .int .i64 0, .slice none 0 0] := by
    have := Blk.new (W.alloc (.cells #[.int .i64 k.1, .int .i64 k.2.1, .int .i64 k.2.2.1, .int .i64 k.2.2.2] 39)) 37 #[.int .i64 0, .int .i64 0, .int .i64 0, .int .i64 0, .slice none 0 0]
    rw [World.size_alloc] at this
    exact hwa ▸ this
  have ha := h.below Ba
  have HORIG0 := h
  obtain ⟨i0, hi, hz0, hz1, hz2⟩ := info_parts enInfo3
  have hlow := h.low
  have HA := Lib.hid (And.intro ha (And.intro Ka Ra))
  obtain ⟨n, hn⟩ : ∃ n, n = E.length := ⟨_, rfl⟩
  obtain ⟨A, c, rfl, hl, hc⟩ := own_lists h.own
  rw [← hn] at hc
  have c1 := ha.blk.cell 1
  simp only [List.getElem?_toArray, List.getElem?_cons_succ, List.getElem?_cons_zero] at c1
  rw [← hn] at c1
  have hq := ha.blk.lt
  have k0 := Ka.cell 0; have k1 := Ka.cell 1; have k2 := Ka.cell 2; have k3 := Ka.cell 3; have kl := Ka.lt; simp only [List.getElem?_toArray, List.getElem?_cons_succ, List.getElem?_cons_zero] at k0 k1 k2 k3
  have HORIG := Lib.hid HORIG0
  clear HORIG0
  have HNN := Lib.hid (And.intro hn hs)
  have HWA := Lib.hid hwa
  have HBa := Lib.hid Ba
  have hn34 : n ≤ 17179869184 := by omega
  clear h hn hl hwa ha Ka Ra hs
  go_enter Try.func27, Try.ntmps27
  go_upto_region 1 with fail
  rw [← HWA.out]
  go_wp2
  go_loopw [6] (fun i wr => ∃ j : Nat, j ≤ n ∧ i = .int .i64 (j : Nat) ∧ Below wa.heap.size wa wr ∧ ∀ x ∈ E.take j, x.k ≠ k) (fun i _ => n - (intOf i).toNat)
  case atStart => exact ⟨0, Nat.zero_le _, rfl, Below.refl _ _, fun x hx => by simp at hx⟩
  case round =>
    obtain ⟨j, hj, rfl, hbe, hno⟩ := hrel
    have HBE := Lib.hid hbe
    have HNO := Lib.hid hno
    have e1 := (hbe.cell (p := ⟨q, 1, none⟩) hq).trans c1
    have hq2 := Nat.lt_of_lt_of_le hq hbe.size
    rcases Nat.lt_or_ge j n with hlt | hge
    · have hje : j < E.length := by rw [← HNN.out.1]; exact hlt
      obtain ⟨x, hx⟩ : ∃ x, E[j]? = some x := ⟨_, List.getElem?_eq_getElem hje⟩
      obtain ⟨g, c2, hlv, hc2, hg, hgq, hcell⟩ := HA.out.1.at hx
      simp only [Value.slice.injEq] at hlv
      obtain ⟨rfl, _, rfl⟩ := hlv
      have x0 := hcell 0 _ rfl
      have x1 := hcell 1 _ rfl
      have x2 := hcell 2 _ rfl
      have x3 := hcell 3 _ rfl
      have HX := Lib.hid (And.intro hx hcell)
      have HD := Lib.hid (fun (V : World) (hV : Below wr.heap.size wr V) => show V.cell? ⟨q, 1, none⟩ = some (.slice (some ⟨g, 0, none⟩) n c) ∧ V.cell? ⟨g, j * 9, none⟩ = some (.int .i64 x.k.1) ∧ V.cell? ⟨g, j * 9 + 1, none⟩ = some (.int .i64 x.k.2.1) ∧ V.cell? ⟨g, j * 9 + 2, none⟩ = some (.int .i64 x.k.2.2.1) ∧ V.cell? ⟨g, j * 9 + 3, none⟩ = some (.int .i64 x.k.2.2.2) ∧ V.cell? ⟨W.heap.size, 0, none⟩ = some (.int .i64 k.1) ∧ V.cell? ⟨W.heap.size, 1, none⟩ = some (.int .i64 k.2.1) ∧ V.cell? ⟨W.heap.size, 2, none⟩ = some (.int .i64 k.2.2.1) ∧ V.cell? ⟨W.heap.size, 3, none⟩ = some (.int .i64 k.2.2.2) ∧ q < V.heap.size ∧ g < V.heap.size ∧ W.heap.size < V.heap.size from
        have hh := hbe.trans (hV.mono hbe.size)
        ⟨(hh.cell (p := ⟨q, 1, none⟩) hq).trans c1, (hh.cell (p := ⟨g, j * 9, none⟩) hg).trans x0, (hh.cell (p := ⟨g, j * 9 + 1, none⟩) hg).trans x1, (hh.cell (p := ⟨g, j * 9 + 2, none⟩) hg).trans x2, (hh.cell (p := ⟨g, j * 9 + 3, none⟩) hg).trans x3, (hh.cell (p := ⟨W.heap.size, 0, none⟩) kl).trans k0, (hh.cell (p := ⟨W.heap.size, 1, none⟩) kl).trans k1, (hh.cell (p := ⟨W.heap.size, 2, none⟩) kl).trans k2, (hh.cell (p := ⟨W.heap.size, 3, none⟩) kl).trans k3, Nat.lt_of_lt_of_le hq hh.size, Nat.lt_of_lt_of_le hg hh.size, Nat.lt_of_lt_of_le kl hh.size⟩)
      have hI : Below wr.heap.size wr wr.drew := (Below.refl _ _).drew
      have ke := fun W => keyEq_run x.k k W
      have kg := fun a b W => keyEq_guard x.k k a b W
      have HNL := Lib.hid hc2
      clear hx hcell x0 x1 x2 x3 hbe hno
      go_upto_region 4 with fail
      refine wp_region_chain (fun V => Below wr.heap.size wr V) [(0, false), (1, false), (2, false), (3, false), (4, false), (5, false), (6, false), (7, false), (8, false), (9, false)] (by kernel_rfl) (by kernel_rfl) hI ?_
      repeat (first
        | (refine ChainL.skip (o := ?_) ?_ ?_ ?_; rotate_left; (focus (first | (simp only [List.getElem?_toArray, List.getElem?_cons_succ, List.getElem?_cons_zero]; with_reducible rfl) | (simp only [List.getElem?_toArray, List.getElem?_cons_zero]; with_reducible rfl))); (focus rfl); simp only [Act.put, List.setIfInBounds_toArray, List.set_cons_zero, List.set_cons_succ])
        | (refine ChainL.val (o := ?_) (v := ?_) ?_ ?_ ?_ ?_ ?_; rotate_left 2; (focus (first | (simp only [List.getElem?_toArray, List.getElem?_cons_succ, List.getElem?_cons_zero]; with_reducible rfl) | (simp only [List.getElem?_toArray, List.getElem?_cons_zero]; with_reducible rfl))); (focus (intro _ _ h; cases h)); (focus rfl); (focus (intro w' hI; obtain ⟨z1, x0, x1, x2, x3, k0, k1, k2, k3, lq, lg, lw⟩ := HD.out _ hI; go_simp <;> with_reducible rfl)); simp only [Act.put, List.setIfInBounds_toArray, List.set_cons_zero, List.set_cons_succ]))
      refine ChainL.nil ?_
      by_cases hky : x.k = k
      · rw [show decide (x.k = k) = true by simp [hky]]
        have HKY := Lib.hid hky
        clear hky ke kg
        go_upto_region 5 with fail
        obtain ⟨Ar, cr, hrv, _, _⟩ := HA.out.1.ok x (List.mem_of_getElem? HX.out.1)
        have hh := HBE.out.trans (hI.mono HBE.out.size)
        have hr : wr.drew.rangeAt g (j * 9 + 4) #[.int .i64 x.bx.x0, .int .i64 x.bx.y0, .int .i64 x.bx.x1, .int .i64 x.bx.y1, .slice Ar x.bs.length cr].toList := fun i v hv => by
          have hi5 : i < 5 := by have := (List.getElem?_eq_some_iff.1 hv).1; simpa using this
          refine (hh.cell (p := ⟨g, j * 9 + 4 + i, none⟩) hg).trans ?_
          rw [Nat.add_assoc]
          refine HX.out.2 (4 + i) v ?_
          rw [← hv]
          unfold reL
          rw [hrv]
          match i, hi5 with
          | 0, _ => rfl
          | 1, _ => rfl
          | 2, _ => rfl
          | 3, _ => rfl
          | 4, _ => rfl
        have HR7 := Lib.hid (Blk.new wr.drew 37 #[.int .i64 0, .int .i64 0, .int .i64 0, .int .i64 0, .slice none 0 0])
        have HRV := Lib.hid hrv
        obtain ⟨z1, _, _, _, _, _, _, _, _, lq, lg, lw⟩ := HD.out _ hI
        clear hrv
        go_upto_region 6 with (first
          | (refine wpList_load_mid rfl 37 (.tmp 33) (by with_reducible rfl) g (j * 9 + 4) (by rfl) #[.int .i64 x.bx.x0, .int .i64 x.bx.y0, .int .i64 x.bx.x1, .int .i64 x.bx.y1, .slice Ar x.bs.length cr].toList _ hr Try.underlying37 rfl mkInfoL ?_)
          | (refine wpList_store_row rfl 37 (.tmp 7) (.tmp 34) (by with_reducible rfl) wr.heap.size #[.int .i64 x.bx.x0, .int .i64 x.bx.y0, .int .i64 x.bx.x1, .int .i64 x.bx.y1, .slice Ar x.bs.length cr] (by rfl) (by rfl) 37 #[.int .i64 0, .int .i64 0, .int .i64 0, .int .i64 0, .slice none 0 0] (by exact HR7.out) mkInfoL rfl (by simp [Value.oneCell']) ?_))
        simp only [Act.put]
        obtain ⟨w8, hw8⟩ : ∃ w8, w8 = (wr.alloc (.cells #[.int .i64 0, .int .i64 0, .int .i64 0, .int .i64 0, .slice none 0 0] 37)).drew.setRow wr.heap.size #[.int .i64 x.bx.x0, .int .i64 x.bx.y0, .int .i64 x.bx.x1, .int .i64 x.bx.y1, .slice Ar x.bs.length cr] := ⟨_, rfl⟩
        rw [← hw8]
        have B8 : Below wr.heap.size wr w8 := hw8 ▸ below_setRow (g := wr.heap.size) ((below_a1 wr (.cells #[.int .i64 0, .int .i64 0, .int .i64 0, .int .i64 0, .slice none 0 0] 37)).drew) (Nat.le_refl _) _
        obtain ⟨q7, hq7⟩ : ∃ q7, q7 = wr.heap.size := ⟨_, rfl⟩
        rw [← hq7]
        have K8 : Blk w8 q7 37 #[.int .i64 x.bx.x0, .int .i64 x.bx.y0, .int .i64 x.bx.x1, .int .i64 x.bx.y1, .slice Ar x.bs.length cr] := by rw [hw8, hq7]; exact blk_row HR7.out _
        have hr8 := HA.out.1.below (HBE.out.trans (B8.mono HBE.out.size))
        have HK8 := Lib.hid (And.intro K8 hr8)
        have HB8 := Lib.hid B8
        have HQ7 := Lib.hid hq7
        have hq8 := hr8.blk.lt
        have c18 := hr8.blk.cell 1
        simp only [List.getElem?_toArray, List.getElem?_cons_succ, List.getElem?_cons_zero] at c18
        rw [← HNN.out.1] at c18
        have hg8 : g < w8.heap.size := by have := HBE.out.size; have := B8.size; omega
        have hI8 : Below w8.heap.size w8 w8.drew := (Below.refl _ _).drew
        have HD8 := Lib.hid (fun (V : World) (hV : Below w8.heap.size w8 V) => And.intro ((hV.cell (p := ⟨q, 1, none⟩) hq8).trans c18) (And.intro (Nat.lt_of_lt_of_le hq8 hV.size) (Nat.lt_of_lt_of_le hg8 hV.size)))
        have BA : Below w8.heap.size w8 (w8.drew.alloc (.cells #[] 47)) := hI8.alloc (Nat.le_refl _) _
        have hBc : B ≤ w8.heap.size := by omega
        have own1 := own_newL w8.drew B hBc
        obtain ⟨A', c', e1', hlsA, _⟩ := own_lists (hr8.below BA).own
        simp only [Value.slice.injEq] at e1'
        obtain ⟨rfl, _, rfl⟩ := e1'
        have hl1 := lists_takeF hlsA (j * 9)
        rw [take_flat] at hl1
        have hjn : j + 1 ≤ n := hlt
        have n1 : ¬ c = 0 := by omega
        have n2 : j ≤ c := by omega
        have n3 : j + 1 ≤ c := by omega
        have hlen1 : ((E.take j).flatMap reL).length = j * 9 := by rw [flat_len reLen, List.length_take, Nat.min_eq_left (Nat.le_of_lt hje)]
        have h1c1 := reL_one (E.take j) (fun y hy => by obtain ⟨A, c, h, _⟩ := hr8.ok y (List.mem_of_mem_take hy); exact ⟨A, c, h⟩)
        have HBA := Lib.hid BA
        clear hw8 B8 hq7 K8 hr8 c18 hr hh hI z1
        have wj2 : IntKind.i64.wrap ((j : Int) + 1) = (j : Int) + 1 := IntWalk.i64_in _ (by omega)
        have sl1 := fun W => slice_hi9 g n c j n2 W
        have sl2 := fun W => slice_lo9 g n c j hjn (by rw [HNN.out.1]; exact HNL.out) W
        have hl2 : Lists (w8.drew.alloc (.cells #[] 47)) (w8.drew.alloc (.cells #[] 47)).heap.size (some ⟨g, off9 j c, none⟩) ((E.drop (j + 1)).flatMap reL) := by
          unfold off9
          split
          · have e0 : E.drop (j + 1) = [] := List.drop_eq_nil_of_le (by have := HNN.out.1; omega)
            rw [e0]
            exact ⟨fun ha => (nomatch ha), fun a ha i v hv => by simp at hv, fun a ha hx => by simp at hx⟩
          · refine ⟨fun ha => (nomatch ha), fun a ha i v hv => ?_, fun a ha hx => ?_⟩
            · cases ha
              rw [addr_plain]
              have := hlsA.cell ⟨g, 0, none⟩ rfl ((j + 1) * 9 + i) v (by rw [← List.getElem?_drop, drop_flat]; exact hv)
              rw [addr_plain, Nat.zero_add] at this
              exact this
            · cases ha
              exact hlsA.lt ⟨g, 0, none⟩ rfl (by intro e; have h3 := congrArg (List.drop ((j + 1) * 9)) e; rw [drop_flat] at h3; simp at h3; exact hx (by simpa using h3))
        obtain ⟨o2, ho2⟩ : ∃ o2, o2 = off9 j c := ⟨_, rfl⟩
        rw [← ho2] at hl2 sl2
        have h1c2 := reL_one (E.drop (j + 1)) (fun y hy => by obtain ⟨A, c, h, _⟩ := HK8.out.2.ok y (List.mem_of_mem_drop hy); exact ⟨A, c, h⟩)
        have hlen2 : ((E.drop (j + 1)).flatMap reL).length = (n - (j + 1)) * 9 := by rw [flat_len reLen, List.length_drop, HNN.out.1]
        have HO2 := Lib.hid ho2
        clear ho2
        refine wp_region_chain_last (fun V => Below w8.heap.size w8 V) [(0, false), (2, false), (3, false), (4, false), (5, false), (6, false), (7, false), (9, false), (10, false), (11, false), (12, false), (13, false), (14, false), (15, false), (1, true), (8, true), (16, true), (17, false), (18, false)] _ _ (by rfl) (by rfl) (by kernel_rfl) (by kernel_rfl) hI8 ?_
        repeat (first
          | (refine ChainL.skip (o := ?_) ?_ ?_ ?_; rotate_left; (focus (first | (simp only [List.getElem?_toArray, List.getElem?_cons_succ, List.getElem?_cons_zero]; with_reducible rfl) | (simp only [List.getElem?_toArray, List.getElem?_cons_zero]; with_reducible rfl))); (focus rfl); simp only [Act.put, List.setIfInBounds_toArray, List.set_cons_zero, List.set_cons_succ])
          | (refine ChainL.val (o := ?_) (v := ?_) ?_ ?_ ?_ ?_ ?_; rotate_left 2; (focus (first | (simp only [List.getElem?_toArray, List.getElem?_cons_succ, List.getElem?_cons_zero]; with_reducible rfl) | (simp only [List.getElem?_toArray, List.getElem?_cons_zero]; with_reducible rfl))); (focus (intro _ _ h; cases h)); (focus rfl); (focus (intro w' hI; obtain ⟨c1, lq, lg⟩ := HD8.out _ hI; go_simp <;> with_reducible rfl)); simp only [Act.put, List.setIfInBounds_toArray, List.set_cons_zero, List.set_cons_succ]))
        refine ChainL.does (o := ?_) (v := ?_) (w1 := ?_) ?_ ?_ ?_ ?_ ?_
        rotate_left 3
        (focus (first | (simp only [List.getElem?_toArray, List.getElem?_cons_succ, List.getElem?_cons_zero]; with_reducible rfl) | (simp only [List.getElem?_toArray, List.getElem?_cons_zero]; with_reducible rfl)))
        (focus rfl)
        (focus (go_simp; (constructor <;> with_reducible rfl)))
        (focus (exact HBA.out))
        simp only [Act.put, List.setIfInBounds_toArray, List.set_cons_zero, List.set_cons_succ]
        refine ChainL.append (o := ?_) ?_ ?_ (.tmp 36) (.tmp 42) 30 ?_ B 47 i0 (.agg #[.int .i64 0, .int .i64 0, .int .i64 0, .int .i64 0, .int .i64 0, .int .i64 0, .int .i64 0, .int .i64 0, .slice none 0 0]) 9 88 Try.underlying30 hi hz0 hz1 hz2 rfl (by decide) (.slice (some ⟨w8.heap.size, 0, none⟩) 0 0) 0 [] ?_ own1 _ (some ⟨g, 0, none⟩) j c ((E.take j).flatMap reL) ?_ hl1 hlen1 h1c1 ?_ ?_ ?_ ?_
        rotate_left 1
        (focus (first | (simp only [List.getElem?_toArray, List.getElem?_cons_succ, List.getElem?_cons_zero]; with_reducible rfl) | (simp only [List.getElem?_toArray, List.getElem?_cons_zero]; with_reducible rfl)))
        (focus rfl)
        (focus rfl)
        (focus rfl)
        (focus rfl)
        (focus (simp only [maxLen]; omega))
        (focus omega)
        (focus (exact Nat.le_trans hBc HBA.out.size))
        intro v' w' own' hg' hat'
        rw [Nat.zero_add, List.nil_append] at own'
        have o1 : Only w8 w' [] := (Only.of_below HBA.out []).trans ((Only.refl _ [w8.heap.size]).grown hg' (fun b hb => .inl (by simp [Value.ownBlock] at hb; simp [hb]))) (fun b hb => .inr (by simp at hb; omega))
        have oA : Only (w8.drew.alloc (.cells #[] 47)) w' [w8.heap.size] := (Only.refl _ [w8.heap.size]).grown hg' (fun b hb => .inl (by simp [Value.ownBlock] at hb; simp [hb]))
        have hl2' : Lists w' (w8.drew.alloc (.cells #[] 47)).heap.size (some ⟨g, o2, none⟩) ((E.drop (j + 1)).flatMap reL) := lists_only hl2 (Nat.le_refl _) oA (fun a ha hx hm => by cases ha; simp at hm; omega)
        have hlow' := own_lowL own'
        have hvb : ∀ b ∈ blk v', w8.heap.size ≤ b := fun b hb => by
          rcases hat' with e | e
          · unfold blk at hb
            rw [e] at hb
            simp [Value.ownBlock] at hb
            omega
          · unfold blk at hb
            rw [e] at hb
            simp at hb
            have := HBA.out.size
            omega
        have HO1 := Lib.hid o1
        have HVB := Lib.hid hvb
        have hBw' : B ≤ w'.heap.size := Nat.le_trans hBc o1.size
        refine ⟨o1.nil_below, ?_⟩
        simp only [Act.put, List.setIfInBounds_toArray, List.set_cons_zero, List.set_cons_succ]
        clear hg' hat' oA hlow' o1 hvb
        repeat (first
          | (refine ChainL.skip (o := ?_) ?_ ?_ ?_; rotate_left; (focus (first | (simp only [List.getElem?_toArray, List.getElem?_cons_succ, List.getElem?_cons_zero]; with_reducible rfl) | (simp only [List.getElem?_toArray, List.getElem?_cons_zero]; with_reducible rfl))); (focus rfl); simp only [Act.put, List.setIfInBounds_toArray, List.set_cons_zero, List.set_cons_succ])
          | (refine ChainL.val (o := ?_) (v := ?_) ?_ ?_ ?_ ?_ ?_; rotate_left 2; (focus (first | (simp only [List.getElem?_toArray, List.getElem?_cons_succ, List.getElem?_cons_zero]; with_reducible rfl) | (simp only [List.getElem?_toArray, List.getElem?_cons_zero]; with_reducible rfl))); (focus (intro _ _ h; cases h)); (focus rfl); (focus (intro w' hI; obtain ⟨c1, lq, lg⟩ := HD8.out _ hI; go_simp <;> with_reducible rfl)); simp only [Act.put, List.setIfInBounds_toArray, List.set_cons_zero, List.set_cons_succ]))
        refine ChainL.append (o := ?_) ?_ ?_ (.tmp 43) (.tmp 50) 30 ?_ B 47 i0 (.agg #[.int .i64 0, .int .i64 0, .int .i64 0, .int .i64 0, .int .i64 0, .int .i64 0, .int .i64 0, .int .i64 0, .slice none 0 0]) 9 88 Try.underlying30 hi hz0 hz1 hz2 rfl (by decide) v' j ((E.take j).flatMap reL) ?_ own' _ (some ⟨g, o2, none⟩) (n - (j + 1)) (c - (j + 1)) ((E.drop (j + 1)).flatMap reL) ?_ hl2' hlen2 h1c2 ?_ ?_ ?_ ?_
        rotate_left 1
        (focus (first | (simp only [List.getElem?_toArray, List.getElem?_cons_succ, List.getElem?_cons_zero]; with_reducible rfl) | (simp only [List.getElem?_toArray, List.getElem?_cons_zero]; with_reducible rfl)))
        (focus rfl)
        (focus rfl)
        (focus rfl)
        (focus rfl)
        (focus (simp only [maxLen]; omega))
        (focus omega)
        (focus (exact hBw'))
        intro v2 w9 own2 hg2 hat2
        have o2' : Only w8 w9 [] := HO1.out.trans ((Only.refl _ (blk v')).grown hg2 (fun b hb => .inl (by simp [blk, hb]))) (fun b hb => .inr (HVB.out b hb))
        refine ⟨o2'.nil_below, ?_⟩
        simp only [Act.put, List.setIfInBounds_toArray, List.set_cons_zero, List.set_cons_succ]
        repeat (first
          | (refine ChainL.skip (o := ?_) ?_ ?_ ?_; rotate_left; (focus (first | (simp only [List.getElem?_toArray, List.getElem?_cons_succ, List.getElem?_cons_zero]; with_reducible rfl) | (simp only [List.getElem?_toArray, List.getElem?_cons_zero]; with_reducible rfl))); (focus rfl); simp only [Act.put, List.setIfInBounds_toArray, List.set_cons_zero, List.set_cons_succ])
          | (refine ChainL.val (o := ?_) (v := ?_) ?_ ?_ ?_ ?_ ?_; rotate_left 2; (focus (first | (simp only [List.getElem?_toArray, List.getElem?_cons_succ, List.getElem?_cons_zero]; with_reducible rfl) | (simp only [List.getElem?_toArray, List.getElem?_cons_zero]; with_reducible rfl))); (focus (intro _ _ h; cases h)); (focus rfl); (focus (intro w' hI; obtain ⟨c1, lq, lg⟩ := HD8.out _ hI; go_simp <;> with_reducible rfl)); simp only [Act.put, List.setIfInBounds_toArray, List.set_cons_zero, List.set_cons_succ]))
        refine ChainL.nil ?_
        obtain ⟨A2, n2c, hv2, _, _⟩ := own_lists own2
        subst hv2
        have hRS := HK8.out.2.set (V := w9) (E' := E.take j ++ E.drop (j + 1)) (lv' := .slice A2 (j + (n - (j + 1))) n2c) o2' (by
          rw [List.length_append, List.length_take, List.length_drop, ← HNN.out.1, Nat.min_eq_left (Nat.le_of_lt hlt), List.flatMap_append]
          exact own2) (fun e he => HK8.out.2.ok e (by
            rcases List.mem_append.1 he with h | h
            · exact List.mem_of_mem_take h
            · exact List.mem_of_mem_drop h))
        have b1' := (HK8.out.2.blk.only o2' (by simp)).cell 1
        have f1' := (HK8.out.2.blk.only o2' (by simp)).frozen 1
        have l1' := (HK8.out.2.blk.only o2' (by simp)).lt
        simp only [List.getElem?_toArray, List.getElem?_cons_succ, List.getElem?_cons_zero] at b1'
        have hqo := HORIG.out.blk.lt
        have hq7 : q < q7 := by rw [HQ7.out]; exact hq2
        have K9 := HK8.out.1.only hRS.2 (by simp; omega)
        have R9 : Blk (w9.setCell ⟨q, 1, none⟩ (.slice A2 (j + (n - (j + 1))) n2c)) (W.heap.size + 1) 37 #[.int .i64 0, .int .i64 0, .int .i64 0, .int .i64 0, .slice none 0 0] := ((HA.out.2.2.below (HBE.out.trans (HB8.out.mono HBE.out.size))).only hRS.2 (by simp; omega))
        obtain ⟨wA, hwA⟩ : ∃ wA, wA = w9.setCell ⟨q, 1, none⟩ (.slice A2 (j + (n - (j + 1))) n2c) := ⟨_, rfl⟩
        rw [← hwA] at hRS K9 R9
        have HRS := Lib.hid hRS
        have HR9 := Lib.hid R9
        have HWA9 := Lib.hid hwA
        have m0 := K9.cell 0; have m1 := K9.cell 1; have m2 := K9.cell 2; have m3 := K9.cell 3; have m4 := K9.cell 4; have ml := K9.lt; simp only [List.getElem?_toArray, List.getElem?_cons_succ, List.getElem?_cons_zero] at m0 m1 m2 m3 m4
        clear own2 hg2 hat2 own' hl2' hl1 hl2 hlsA h1c1 h1c2 hlen1 hlen2 own1 hRS R9 K9 hwA o2'
        go_upto_region 7 with fail
        rw [← HWA9.out]
        go_wp2_with (refine wpList_store_row rfl 37 (.tmp 4) (.tmp 54) (by with_reducible rfl) (W.heap.size + 1) #[.int .i64 x.bx.x0, .int .i64 x.bx.y0, .int .i64 x.bx.x1, .int .i64 x.bx.y1, .slice Ar x.bs.length cr] (by rfl) (by rfl) 37 #[.int .i64 0, .int .i64 0, .int .i64 0, .int .i64 0, .slice none 0 0] (by exact HR9.out) (by kernel_rfl) rfl (by simp [Value.oneCell']) ?_)
        have o9 : Only wA (wA.setRow (W.heap.size + 1) #[.int .i64 x.bx.x0, .int .i64 x.bx.y0, .int .i64 x.bx.x1, .int .i64 x.bx.y1, .slice Ar x.bs.length cr]) [W.heap.size + 1] := only_row (Only.refl _ _) (.inl (by simp)) _
        refine bodyPost_ret (results_row_tmp Try.results27 _ _ (W.heap.size + 1) 37 #[.int .i64 x.bx.x0, .int .i64 x.bx.y0, .int .i64 x.bx.x1, .int .i64 x.bx.y1, .slice Ar x.bs.length cr] (0, 0) _ (.bool true) (by rfl) (by rfl) (show Blk _ _ _ _ from blk_row HR9.out _) Try.underlying37 rfl mkInfoL) rfl (.inr ⟨j, x, .slice A2 (j + (n - (j + 1))) n2c, HX.out.1, HKY.out, by rw [HRV.out], ?_, ?_⟩)
        · exact HRS.out.1.only o9 (by simp; omega) (fun b hb hm => by simp at hm; subst hm; exact own_ne HRS.out.1.own HR9.out (by decide) hb) (by simp; omega)
        · exact ((((Only.of_below HBa.out [q]).trans (Only.of_below HBE.out []) (fun b hb => (nomatch hb))).trans (Only.of_below HB8.out []) (fun b hb => (nomatch hb))).trans HRS.out.2 (fun b hb => .inl hb)).trans o9 (fun b hb => .inr (by simp at hb; omega))
      · rw [show decide (x.k = k) = false by simp [hky]]
        have HKY := Lib.hid hky
        clear hky ke kg
        go_wp2
        go_roundw
        case rel =>
          refine ⟨j + 1, by omega, by go_num, HBE.out.trans (hI.mono HBE.out.size), fun y hy => ?_⟩
          rw [List.take_add_one, HX.out.1] at hy
          rcases List.mem_append.1 hy with h | h
          · exact HNO.out y h
          · simp at h; subst h; exact HKY.out
        case measure => simp [intOf]; omega
    · obtain rfl : n = j := by omega
      have hall : ∀ x ∈ E, x.k ≠ k := fun x hx => HNO.out x (by rw [List.take_of_length_le (by have := HNN.out.1; omega)]; exact hx)
      have HR := Lib.hid (HA.out.2.2.below hbe)
      have HRS := Lib.hid (HA.out.1.below hbe)
      have HALL := Lib.hid hall
      clear hall hno
      go_wp2_with (refine wpList_store_row rfl 37 (.tmp 4) (.tmp 55) (by with_reducible rfl) (W.heap.size + 1) #[.int .i64 0, .int .i64 0, .int .i64 0, .int .i64 0, .slice none 0 0] (by rfl) (by rfl) 37 #[.int .i64 0, .int .i64 0, .int .i64 0, .int .i64 0, .slice none 0 0] (by exact HR.out) (by kernel_rfl) rfl (by simp [Value.oneCell']) ?_)
      have bb := HBa.out.trans (HBE.out.mono HBa.out.size)
      have o9 : Only wr (wr.setRow (W.heap.size + 1) #[.int .i64 0, .int .i64 0, .int .i64 0, .int .i64 0, .slice none 0 0]) [W.heap.size + 1] := only_row (Only.refl _ _) (.inl (by simp)) _
      have b9 : Below W.heap.size W (wr.setRow (W.heap.size + 1) #[.int .i64 0, .int .i64 0, .int .i64 0, .int .i64 0, .slice none 0 0]) := below_setRow (g := W.heap.size + 1) bb (by omega) _
      refine bodyPost_ret (results_row_tmp Try.results27 _ _ (W.heap.size + 1) 37 #[.int .i64 0, .int .i64 0, .int .i64 0, .int .i64 0, .slice none 0 0] (0, 0) _ (.bool false) (by rfl) (by rfl) (show Blk _ _ _ _ from blk_row HR.out _) Try.underlying37 rfl mkInfoL) rfl (.inl ⟨rfl, HALL.out, ?_, b9⟩)
      exact HORIG.out.below b9
end Go.Proofs.Ytaaboochologaaa

namespace Go.Proofs.Ytaaboochologaaa
open Go Go.RowKit
set_option linter.unusedVariables false
set_option linter.unusedSimpArgs false

theorem dropE_idx {E : List RE} {i : Nat} {x : RE} {k : Ky} (hx : E[i]? = some x) (hk : x.k = k) (hd : (E.map RE.k).Nodup) : (E.take i ++ E.drop (i + 1)).map ren = dropE k (E.map ren) := by
  have hlt := (List.getElem?_eq_some_iff.1 hx).1
  have hxe : E[i] = x := (List.getElem?_eq_some_iff.1 hx).2
  have e1 : E = E.take i ++ x :: E.drop (i + 1) := by rw [← hxe, List.getElem_cons_drop, List.take_append_drop]
  rw [e1, List.map_append, List.map_cons] at hd
  obtain ⟨h1, h2, h3⟩ := List.nodup_append.1 hd
  have h2 := List.nodup_cons.1 h2
  have a1 : dropE k ((E.take i).map ren) = (E.take i).map ren := dropE_no fun e he hke => by
    obtain ⟨y, hy, rfl⟩ := List.mem_map.1 he
    exact h3 y.k (List.mem_map.2 ⟨y, hy, rfl⟩) x.k (by simp) (by rw [hk]; exact hke)
  have a2 : dropE k ((E.drop (i + 1)).map ren) = (E.drop (i + 1)).map ren := dropE_no fun e he hke => by
    obtain ⟨y, hy, rfl⟩ := List.mem_map.1 he
    exact h2.1 (List.mem_map.2 ⟨y, hy, by rw [hk]; exact hke⟩)
  conv => rhs; rw [e1]
  unfold dropE at a1 a2 ⊢
  rw [List.map_append, List.map_append, List.map_cons, List.filter_append, List.filter_cons_of_neg (by simp [ren, hk]), a1, a2]
theorem rdropS (W0 W : World) (B q : Nat) (bud : Int) (E : List RE) (lv : Value) (k : Ky) (h : RfS W0 W B q bud E lv) (hs : E.length ≤ 17179869184) (hd : (E.map RE.k).Nodup) : Calls Try.prog 27 #[.pointer (some ⟨q, 0, none⟩), .agg #[.int .i64 k.1, .int .i64 k.2.1, .int .i64 k.2.2.1, .int .i64 k.2.2.2]] W fun e w' => ∃ lv' E', RfS W0 w' B q bud E' lv' ∧ E'.map ren = dropE k (E.map ren) ∧ (∀ x ∈ E', x ∈ E) ∧ Only W w' [q] ∧ ((e = .returned (.tuple #[.agg #[.int .i64 0, .int .i64 0, .int .i64 0, .int .i64 0, .slice none 0 0], .bool false]) ∧ ∀ x ∈ E, x.k ≠ k) ∨ ∃ x ∈ E, x.k = k ∧ e = .returned (.tuple #[.agg #[.int .i64 x.bx.x0, .int .i64 x.bx.y0, .int .i64 x.bx.x1, .int .i64 x.bx.y1, x.rv], .bool true])) := by
  refine (rdrop_any W0 W B q bud E lv k h hs).mono ?_
  rintro e w' (⟨rfl, hn, hr, hb⟩ | ⟨i, x, lv', hx, hk, rfl, hr, ho⟩)
  · exact ⟨lv, E, hr, (dropE_no fun e he hk => by obtain ⟨y, hy, rfl⟩ := List.mem_map.1 he; exact hn y hy hk).symm, fun x hx => hx, Only.of_below hb _, .inl ⟨rfl, hn⟩⟩
  · refine ⟨lv', _, hr, dropE_idx hx hk hd, fun y hy => ?_, ho, .inr ⟨x, List.mem_of_getElem? hx, hk, rfl⟩⟩
    rcases List.mem_append.1 hy with h | h
    · exact List.mem_of_mem_take h
    · exact List.mem_of_mem_drop h
theorem RfS.budget {W0 W : World} {B q : Nat} {bud : Int} {E : List RE} {lv : Value} (h : RfS W0 W B q bud E lv) (x : Int) : RfS W0 (W.setCell ⟨q, 0, none⟩ (.int .i64 x)) B q x E lv ∧ Only W (W.setCell ⟨q, 0, none⟩ (.int .i64 x)) [q] := by
  have o2 : Only W (W.setCell ⟨q, 0, none⟩ (.int .i64 x)) [q] := (Only.refl _ _).set (.inl (by simp)) _
  exact ⟨⟨h.blk.set 0 (.int .i64 x), own_only h.own o2 (fun b hb hm => by simp at hm; subst hm; exact own_ne h.own h.blk (by decide) hb), h.low, h.base.trans (o2.to_below (by have := h.blk.lt; have := h.low; omega) (by simp; exact h.low)), h.ok⟩, o2⟩
set_option maxRecDepth 100000 in
theorem rresize_any (W0 W : World) (B q : Nat) (bud x : Int) (E : List RE) (lv : Value) (h : RfS W0 W B q bud E lv) (hx : 0 ≤ x) (hs : sumE (E.map ren) ≤ 1099511627776) : Calls Try.prog 28 #[.pointer (some ⟨q, 0, none⟩), .int .i64 x] W fun e w' => ∃ lv' E', e = .returned (.tuple #[]) ∧ RfS W0 w' B q x E' lv' ∧ E'.map ren = shrE x (E.map ren) ∧ (∀ e ∈ E', e ∈ E) ∧ Only W w' [q] := by
  obtain ⟨h1, o1⟩ := h.budget x
  have CS := rshrink_any W0 _ B q x E lv h1 hx hs
  have c0 := h.blk.cell 0
  simp only [List.getElem?_toArray, List.getElem?_cons_succ, List.getElem?_cons_zero] at c0
  have f0 := h.blk.frozen 0
  have hq := h.blk.lt
  have HO := Lib.hid o1
  clear h h1 o1
  go_enter Try.func28, Try.ntmps28
  go_wp2_with (go_at_call 40; refine (CS).mono ?_; rintro e w2 ⟨lv2, E2, rfl, s2, e2, u2, o2⟩)
  exact bodyPost_end (results_none rfl _ _ _) rfl ⟨lv2, E2, rfl, s2, e2, u2, HO.out.trans o2 (fun b hb => .inl hb)⟩
end Go.Proofs.Ytaaboochologaaa

namespace Go.Proofs.Ytaaboochologaaa
open Go Go.RowKit
set_option linter.unusedVariables false
set_option linter.unusedSimpArgs false

theorem dropE_sum (k : Ky) : ∀ L : List En, sumE (dropE k L) ≤ sumE L
  | [] => Int.le_refl _
  | e :: L => by
    have ih := dropE_sum k L
    have := costE_pos e
    unfold dropE at ih ⊢
    rw [List.filter_cons]
    split
    · simp only [sumE]; omega
    · simp only [sumE]; omega
theorem KM.one {W V : World} {q p : Nat} {k : Ky} {A : Q} {Am : Option Addr} {n c : Nat} {cs : Array Value} (h : KM W q k A Am n c) (o : Only W V [p]) (hp : Blk W p 32 cs) : KM V q k A Am n c :=
  ⟨h.1.only o (by simp; exact blk_neL h.1 hp (by decide)), h.2.only o (by simp; exact blk_neL h.2 hp (by decide))⟩
set_option maxRecDepth 100000 in
set_option maxHeartbeats 2000000 in
theorem rput_any (W0 W : World) (B q : Nat) (bud : Int) (E : List RE) (lv : Value) (k : Ky) (A : Q) (Am : Option Addr) (n c : Nat) (M : List Value) (h : RfS W0 W B q bud E lv) (hb : 0 ≤ bud ∧ bud ≤ 16777216) (hs : sumE (E.map ren) ≤ 16777216) (hd : (E.map RE.k).Nodup) (hn : M.length = n) (hn2 : n ≤ 4194304) (hl : Lists W0 B Am M) (h8 : Bytes8 M) :
    Calls Try.prog 26 #[.pointer (some ⟨q, 0, none⟩), .agg #[.int .i64 k.1, .int .i64 k.2.1, .int .i64 k.2.2.1, .int .i64 k.2.2.2], .agg #[.int .i64 A.x0, .int .i64 A.y0, .int .i64 A.x1, .int .i64 A.y1, .slice Am n c]] W fun e w' => ∃ lv' E', e = .returned (.bool (decide (64 + (n : Int) ≤ bud))) ∧ RfS W0 w' B q bud E' lv' ∧ E'.map ren = (if 64 + (n : Int) ≤ bud then shrE bud ((k, A, M) :: dropE k (E.map ren)) else dropE k (E.map ren)) ∧ Only W w' [q] := by
  have B1 : Below W.heap.size W ((W.alloc (.cells #[.int .i64 k.1, .int .i64 k.2.1, .int .i64 k.2.2.1, .int .i64 k.2.2.2] 39)).alloc (.cells #[.int .i64 A.x0, .int .i64 A.y0, .int .i64 A.x1, .int .i64 A.y1, .slice Am n c] 37)) := below_a2 _ _ _
  have HK := Lib.hid (KM.made W k A Am n c)
  obtain ⟨wa, hwa⟩ : ∃ wa, wa = (W.alloc (.cells #[.int .i64 k.1, .int .i64 k.2.1, .int .i64 k.2.2.1, .int .i64 k.2.2.2] 39)).alloc (.cells #[.int .i64 A.x0, .int .i64 A.y0, .int .i64 A.x1, .int .i64 A.y1, .slice Am n c] 37) := ⟨_, rfl⟩
  rw [← hwa] at HK B1
  have hsl := sumE_len (E.map ren)
  rw [List.length_map] at hsl
  have CD := rdropS W0 wa B q bud E lv k (h.below B1) (by omega) hd
  have HB := Lib.hid (And.intro hb (And.intro hs (And.intro hn (And.intro hn2 (And.intro hl h8)))))
  have HH := Lib.hid h
  have HB1 := Lib.hid B1
  have COs := fun W => rlcost_any A Am n c (by omega) W
  obtain ⟨k0, k1, k2, k3, m0, m1, m2, m3, m4, l1, l2⟩ := HK.out.cells wa (Below.refl _ _)
  have HWA := Lib.hid hwa
  obtain ⟨i0, hi, hz0, hz1, hz2⟩ := info_parts enInfo3
  clear h hwa hb hs hn hl h8 hsl hd B1
  go_enter Try.func26, Try.ntmps26
  go_upto_region 1 with fail
  rw [← HWA.out]
  go_upto_region 2 with (go_at_call 27; refine (CD).mono ?_; rintro e w2 ⟨lv2, E2, r2, e2, u2, o2, hres⟩; have hret : ∃ v, e = .returned v := (by rcases hres with ⟨rfl, _⟩ | ⟨x, _, _, rfl⟩ <;> exact ⟨_, rfl⟩); obtain ⟨vv, rfl⟩ := hret; clear hres)
  have HK2 := Lib.hid (HK.out.one o2 (HH.out.below HB1.out).blk)
  have HR2 := Lib.hid (And.intro r2 (And.intro e2 (And.intro u2 o2)))
  have c0 := r2.blk.cell 0
  have c1 := r2.blk.cell 1
  simp only [List.getElem?_toArray, List.getElem?_cons_succ, List.getElem?_cons_zero] at c0 c1
  have hq := r2.blk.lt
  have hI : Below w2.heap.size w2 w2.drew := (Below.refl _ _).drew
  have HD2 := Lib.hid (fun (V : World) (hV : Below w2.heap.size w2 V) => And.intro ((hV.cell (p := ⟨q, 0, none⟩) hq).trans c0) (And.intro ((hV.cell (p := ⟨q, 1, none⟩) hq).trans c1) (And.intro (Nat.lt_of_lt_of_le hq hV.size) (HK2.out.cells V hV))))
  clear r2 e2 u2 o2 c0 c1 hq k0 k1 k2 k3 m0 m1 m2 m3 m4 l1 l2
  refine wp_region_chain (fun V => Below w2.heap.size w2 V) [(0, false), (2, false), (3, false), (4, false), (5, false), (1, true), (6, false)] (by kernel_rfl) (by kernel_rfl) hI ?_
  repeat (first
    | (refine ChainL.skip (o := ?_) ?_ ?_ ?_; rotate_left; (focus (first | (simp only [List.getElem?_toArray, List.getElem?_cons_succ, List.getElem?_cons_zero]; with_reducible rfl) | (simp only [List.getElem?_toArray, List.getElem?_cons_zero]; with_reducible rfl))); (focus rfl); simp only [Act.put, List.setIfInBounds_toArray, List.set_cons_zero, List.set_cons_succ])
    | (refine ChainL.val (o := ?_) (v := ?_) ?_ ?_ ?_ ?_ ?_; rotate_left 2; (focus (first | (simp only [List.getElem?_toArray, List.getElem?_cons_succ, List.getElem?_cons_zero]; with_reducible rfl) | (simp only [List.getElem?_toArray, List.getElem?_cons_zero]; with_reducible rfl))); (focus (intro _ _ h; cases h)); (focus rfl); (focus (intro w' hI; obtain ⟨c0, c1, lq, k0, k1, k2, k3, m0, m1, m2, m3, m4, l1, l2⟩ := HD2.out _ hI; go_simp <;> with_reducible rfl)); simp only [Act.put, List.setIfInBounds_toArray, List.set_cons_zero, List.set_cons_succ]))
  refine ChainL.call (o := ?_) (f := ?_) (args := ?_) ?_ ?_ ?_ ?_
  rotate_left 3
  (focus (first | (simp only [List.getElem?_toArray, List.getElem?_cons_succ, List.getElem?_cons_zero]; with_reducible rfl) | (simp only [List.getElem?_toArray, List.getElem?_cons_zero]; with_reducible rfl)))
  (focus rfl)
  (focus (go_simp; (constructor <;> with_reducible rfl)))
  with_reducible refine (COs _).mono ?_
  rintro e w3 ⟨rfl, b3⟩
  have bb : Below w2.heap.size w2 w3 := hI.trans (b3.mono hI.size)
  refine ⟨_, rfl, bb, ?_⟩
  simp only [Act.put, List.setIfInBounds_toArray, List.set_cons_zero, List.set_cons_succ]
  repeat (first
    | (refine ChainL.skip (o := ?_) ?_ ?_ ?_; rotate_left; (focus (first | (simp only [List.getElem?_toArray, List.getElem?_cons_succ, List.getElem?_cons_zero]; with_reducible rfl) | (simp only [List.getElem?_toArray, List.getElem?_cons_zero]; with_reducible rfl))); (focus rfl); simp only [Act.put, List.setIfInBounds_toArray, List.set_cons_zero, List.set_cons_succ])
    | (refine ChainL.val (o := ?_) (v := ?_) ?_ ?_ ?_ ?_ ?_; rotate_left 2; (focus (first | (simp only [List.getElem?_toArray, List.getElem?_cons_succ, List.getElem?_cons_zero]; with_reducible rfl) | (simp only [List.getElem?_toArray, List.getElem?_cons_zero]; with_reducible rfl))); (focus (intro _ _ h; cases h)); (focus rfl); (focus (intro w' hI; obtain ⟨c0, c1, lq, k0, k1, k2, k3, m0, m1, m2, m3, m4, l1, l2⟩ := HD2.out _ hI; go_simp <;> with_reducible rfl)); simp only [Act.put, List.setIfInBounds_toArray, List.set_cons_zero, List.set_cons_succ]))
  refine ChainL.nil ?_
  have HB3 := Lib.hid bb
  clear hI b3 bb
  have hoo : Only W w3 [q] := ((Only.of_below HB1.out [q]).trans HR2.out.2.2.2 (fun b hb => .inl hb)).trans (Only.of_below HB3.out []) (fun b hb => (nomatch hb))
  have HOO := Lib.hid hoo
  clear hoo
  by_cases hg : bud < 64 + (n : Int)
  · have hg2 : ¬ 64 + (n : Int) ≤ bud := by omega
    have dz : decide (64 + (n : Int) ≤ bud) = false := by simp; omega
    have HDZ := Lib.hid dz
    have HG2 := Lib.hid hg2
    clear dz
    go_wp2
    exact bodyPost_ret (results_tmp rfl _ _ _) rfl ⟨rfl, lv2, E2, HR2.out.1.below HB3.out, HR2.out.2.1, HOO.out⟩
  · have hg2 : 64 + (n : Int) ≤ bud := by omega
    have dz : decide (64 + (n : Int) ≤ bud) = true := by simp; omega
    have HDZ := Lib.hid dz
    have HG2 := Lib.hid hg2
    clear dz
    have hr3 := HR2.out.1.below HB3.out
    have hown := hr3.own
    obtain ⟨A1, cc1, hlv, hls0, hcc⟩ := own_lists hown
    obtain ⟨K, hK⟩ : ∃ K, K = E2.length := ⟨_, rfl⟩
    rw [← hK] at hlv hcc
    subst hlv
    have hI : Below w3.heap.size w3 w3.drew := (Below.refl _ _).drew
    have BA : Below w3.heap.size w3 (w3.drew.alloc (.cells #[.int .i64 k.1, .int .i64 k.2.1, .int .i64 k.2.2.1, .int .i64 k.2.2.2, .int .i64 A.x0, .int .i64 A.y0, .int .i64 A.x1, .int .i64 A.y1, .slice Am n c] 47)) := hI.alloc (Nat.le_refl _) _
    have hlow := hr3.low
    have hq3 := hr3.blk.lt
    have hBc : B ≤ w3.heap.size := by omega
    have own1 : (w3.drew.alloc (.cells #[.int .i64 k.1, .int .i64 k.2.1, .int .i64 k.2.2.1, .int .i64 k.2.2.2, .int .i64 A.x0, .int .i64 A.y0, .int .i64 A.x1, .int .i64 A.y1, .slice Am n c] 47)).ownsRow B 47 9 (.slice (some ⟨w3.heap.size, 0, none⟩) 1 1) 1 #[.int .i64 k.1, .int .i64 k.2.1, .int .i64 k.2.2.1, .int .i64 k.2.2.2, .int .i64 A.x0, .int .i64 A.y0, .int .i64 A.x1, .int .i64 A.y1, .slice Am n c].toList := World.ownsRow_lit w3.drew #[.int .i64 k.1, .int .i64 k.2.1, .int .i64 k.2.2.1, .int .i64 k.2.2.2, .int .i64 A.x0, .int .i64 A.y0, .int .i64 A.x1, .int .i64 A.y1, .slice Am n c] 1 hBc (by decide) rfl
    obtain ⟨L9, hL9⟩ : ∃ L9 : List Value, L9 = #[.int .i64 k.1, .int .i64 k.2.1, .int .i64 k.2.2.1, .int .i64 k.2.2.2, .int .i64 A.x0, .int .i64 A.y0, .int .i64 A.x1, .int .i64 A.y1, .slice Am n c].toList := ⟨_, rfl⟩
    rw [← hL9] at own1
    have own1 : (w3.alloc (.cells #[.int .i64 k.1, .int .i64 k.2.1, .int .i64 k.2.2.1, .int .i64 k.2.2.2, .int .i64 A.x0, .int .i64 A.y0, .int .i64 A.x1, .int .i64 A.y1, .slice Am n c] 47)).drew.ownsRow B 47 9 (.slice (some ⟨w3.heap.size, 0, none⟩) 1 1) 1 L9 := own1
    have HL9 := Lib.hid hL9
    clear hL9
    have hls : Lists (w3.drew.alloc (.cells #[.int .i64 k.1, .int .i64 k.2.1, .int .i64 k.2.2.1, .int .i64 k.2.2.2, .int .i64 A.x0, .int .i64 A.y0, .int .i64 A.x1, .int .i64 A.y1, .slice Am n c] 47)) (w3.drew.alloc (.cells #[.int .i64 k.1, .int .i64 k.2.1, .int .i64 k.2.2.1, .int .i64 k.2.2.2, .int .i64 A.x0, .int .i64 A.y0, .int .i64 A.x1, .int .i64 A.y1, .slice Am n c] 47)).heap.size A1 (E2.flatMap reL) := listsB hls0 BA
    have hl9 : (E2.flatMap reL).length = K * 9 := by rw [flat_len reLen, hK]
    have h1c := reL_one E2 (fun y hy => by obtain ⟨A, c, h, _⟩ := hr3.ok y hy; exact ⟨A, c, h⟩)
    have HD3 := Lib.hid (fun (V : World) (hV : Below w3.heap.size w3 V) => HD2.out V (HB3.out.trans (hV.mono HB3.out.size)))
    have hKb : K ≤ 262144 := by
      have h1 := sumE_len (E2.map ren)
      have h2 : sumE (dropE k (E.map ren)) ≤ sumE (E.map ren) := dropE_sum k _
      have h3 := HB.out.2.1
      rw [List.length_map, HR2.out.2.1] at h1
      omega
    have HR3 := Lib.hid (And.intro hr3 hK)
    have HBA := Lib.hid BA
    clear hr3 hown hls0 hcc hK BA
    go_upto_region 4 with fail
    refine wp_region_chain_last (fun V => Below w3.heap.size w3 V) [(0, false), (1, false), (2, false), (3, false), (5, false), (6, false), (7, false), (8, false), (4, true), (9, true), (10, false), (11, false)] _ _ (by rfl) (by rfl) (by kernel_rfl) (by kernel_rfl) hI ?_
    repeat (first
      | (refine ChainL.skip (o := ?_) ?_ ?_ ?_; rotate_left; (focus (first | (simp only [List.getElem?_toArray, List.getElem?_cons_succ, List.getElem?_cons_zero]; with_reducible rfl) | (simp only [List.getElem?_toArray, List.getElem?_cons_zero]; with_reducible rfl))); (focus rfl); simp only [Act.put, List.setIfInBounds_toArray, List.set_cons_zero, List.set_cons_succ])
      | (refine ChainL.val (o := ?_) (v := ?_) ?_ ?_ ?_ ?_ ?_; rotate_left 2; (focus (first | (simp only [List.getElem?_toArray, List.getElem?_cons_succ, List.getElem?_cons_zero]; with_reducible rfl) | (simp only [List.getElem?_toArray, List.getElem?_cons_zero]; with_reducible rfl))); (focus (intro _ _ h; cases h)); (focus rfl); (focus (intro w' hI; obtain ⟨c0, c1, lq, k0, k1, k2, k3, m0, m1, m2, m3, m4, l1, l2⟩ := HD3.out _ hI; go_simp <;> with_reducible rfl)); simp only [Act.put, List.setIfInBounds_toArray, List.set_cons_zero, List.set_cons_succ]))
    refine ChainL.does (o := ?_) (v := ?_) (w1 := ?_) ?_ ?_ ?_ ?_ ?_
    rotate_left 3
    (focus (first | (simp only [List.getElem?_toArray, List.getElem?_cons_succ, List.getElem?_cons_zero]; with_reducible rfl) | (simp only [List.getElem?_toArray, List.getElem?_cons_zero]; with_reducible rfl)))
    (focus rfl)
    (focus (go_simp; (constructor <;> with_reducible rfl)))
    (focus (exact HBA.out))
    simp only [Act.put, List.setIfInBounds_toArray, List.set_cons_zero, List.set_cons_succ]
    refine ChainL.append (o := ?_) ?_ ?_ (.tmp 21) (.tmp 25) 30 ?_ B 47 i0 (.agg #[.int .i64 0, .int .i64 0, .int .i64 0, .int .i64 0, .int .i64 0, .int .i64 0, .int .i64 0, .int .i64 0, .slice none 0 0]) 9 88 Try.underlying30 hi hz0 hz1 hz2 rfl (by decide) (.slice (some ⟨w3.heap.size, 0, none⟩) 1 1) 1 L9 ?_ own1 _ A1 K cc1 (E2.flatMap reL) ?_ hls hl9 h1c ?_ ?_ ?_ ?_
    rotate_left 1
    (focus (first | (simp only [List.getElem?_toArray, List.getElem?_cons_succ, List.getElem?_cons_zero]; with_reducible rfl) | (simp only [List.getElem?_toArray, List.getElem?_cons_zero]; with_reducible rfl)))
    (focus rfl)
    (focus rfl)
    (focus rfl)
    (focus rfl)
    (focus (simp only [maxLen]; omega))
    (focus omega)
    (focus (exact Nat.le_trans hBc HBA.out.size))
    intro v' w' own' hg' hat'
    have o1 : Only w3 w' [] := (Only.of_below HBA.out []).trans ((Only.refl _ [w3.heap.size]).grown hg' (fun b hb => .inl (by simp [Value.ownBlock] at hb; simp [hb]))) (fun b hb => .inr (by simp at hb; omega))
    refine ⟨o1.nil_below, ?_⟩
    simp only [Act.put, List.setIfInBounds_toArray, List.set_cons_zero, List.set_cons_succ]
    repeat (first
      | (refine ChainL.skip (o := ?_) ?_ ?_ ?_; rotate_left; (focus (first | (simp only [List.getElem?_toArray, List.getElem?_cons_succ, List.getElem?_cons_zero]; with_reducible rfl) | (simp only [List.getElem?_toArray, List.getElem?_cons_zero]; with_reducible rfl))); (focus rfl); simp only [Act.put, List.setIfInBounds_toArray, List.set_cons_zero, List.set_cons_succ])
      | (refine ChainL.val (o := ?_) (v := ?_) ?_ ?_ ?_ ?_ ?_; rotate_left 2; (focus (first | (simp only [List.getElem?_toArray, List.getElem?_cons_succ, List.getElem?_cons_zero]; with_reducible rfl) | (simp only [List.getElem?_toArray, List.getElem?_cons_zero]; with_reducible rfl))); (focus (intro _ _ h; cases h)); (focus rfl); (focus (intro w' hI; obtain ⟨c0, c1, lq, k0, k1, k2, k3, m0, m1, m2, m3, m4, l1, l2⟩ := HD3.out _ hI; go_simp <;> with_reducible rfl)); simp only [Act.put, List.setIfInBounds_toArray, List.set_cons_zero, List.set_cons_succ]))
    refine ChainL.nil ?_
    obtain ⟨A2, n2c, hv2, _, _⟩ := own_lists own'
    subst hv2
    obtain ⟨x, hx⟩ : ∃ x : RE, x = ⟨k, A, .slice Am n c, M⟩ := ⟨_, rfl⟩
    have hRS := HR3.out.1.set (V := w') (E' := x :: E2) (lv' := .slice A2 (1 + K) n2c) o1 (by
      rw [List.length_cons, ← HR3.out.2, Nat.add_comm K 1, List.flatMap_cons, hx]
      rw [HL9.out] at own'
      exact own') (fun e he => by
      rcases List.mem_cons.1 he with rfl | he
      · rw [hx]; exact ⟨Am, c, by show Value.slice Am n c = .slice Am M.length c; rw [HB.out.2.2.1], HB.out.2.2.2.2.1, HB.out.2.2.2.2.2⟩
      · exact HR3.out.1.ok e he)
    have b1' := (HR3.out.1.blk.only o1 (by simp)).cell 1
    have f1' := (HR3.out.1.blk.only o1 (by simp)).frozen 1
    have l1' := (HR3.out.1.blk.only o1 (by simp)).lt
    simp only [List.getElem?_toArray, List.getElem?_cons_succ, List.getElem?_cons_zero] at b1'
    have hmap : (x :: E2).map ren = (k, A, M) :: dropE k (E.map ren) := by rw [List.map_cons, HR2.out.2.1, hx]; rfl
    have CS := rshrink_any W0 _ B q bud (x :: E2) _ hRS.1 HB.out.1.1 (by
      rw [hmap]
      have h2 : sumE (dropE k (E.map ren)) ≤ sumE (E.map ren) := dropE_sum k _
      have h3 := HB.out
      have h4 : costE (k, A, M) = 64 + (n : Int) := by unfold costE; rw [← h3.2.2.1]
      simp only [sumE]
      omega)
    rw [hmap] at CS
    have HRS := Lib.hid hRS
    have HCS := Lib.hid CS
    clear own' hg' hat' o1 hls hl9 h1c own1 hRS CS hmap hx
    go_wp2_with (go_at_call 40; refine (HCS.out).mono ?_; rintro e w5 ⟨lv5, E5, rfl, r5, e5, u5, o5⟩)
    exact bodyPost_ret (results_tmp rfl _ _ _) rfl ⟨rfl, lv5, E5, r5, e5, (HOO.out.trans HRS.out.2 (fun b hb => .inl hb)).trans o5 (fun b hb => .inl hb)⟩
end Go.Proofs.Ytaaboochologaaa
