/- Part 11 of the proof: LrV, LrW, LrZ. -/
import Derived.Test.YtaaboochologaaaCLr9

namespace Go.Proofs.Ytaaboochologaaa
open Go Go.RowKit
set_option linter.unusedVariables false
set_option linter.unusedSimpArgs false

theorem rlmay_any (x : Int) (w : World) : Calls Try.prog 10 #[.int .i64 x] w fun e w' => e = .returned (.bool (inZ 0 16777216 x)) ∧ w = w' := by
  unfold inZ
  by_cases h1 : 0 ≤ x
  · by_cases h2 : x ≤ 16777216
    · have d1 : decide (0 ≤ x) = true := by simpa using h1
      have d2 : decide (x ≤ 16777216) = true := by simpa using h2
      rw [d1, d2]
      go_enter Try.func10, Try.ntmps10
      go_wp2
      go_ret
      exact ⟨rfl, rfl⟩
    · have d1 : decide (0 ≤ x) = true := by simpa using h1
      have d2 : decide (x ≤ 16777216) = false := by simpa using h2
      rw [d1, d2]
      go_enter Try.func10, Try.ntmps10
      go_wp2
      go_ret
      exact ⟨rfl, rfl⟩
  · have d1 : decide (0 ≤ x) = false := by simpa using h1
    rw [d1]
    go_enter Try.func10, Try.ntmps10
    go_wp2
    go_ret
    exact ⟨rfl, rfl⟩
set_option maxRecDepth 100000 in
theorem rlcost_any (A : Q) (Am : Option Addr) (n c : Nat) (hn : n ≤ 4611686018427387904) (w : World) : Calls Try.prog 17 #[.agg #[.int .i64 A.x0, .int .i64 A.y0, .int .i64 A.x1, .int .i64 A.y1, .slice Am n c]] w fun e w' => e = .returned (.int .i64 (64 + (n : Int))) ∧ Below w.heap.size w w' := by
  have B : Below w.heap.size w (w.alloc (.cells #[.int .i64 A.x0, .int .i64 A.y0, .int .i64 A.x1, .int .i64 A.y1, .slice Am n c] 37)) := below_a1 _ _
  have K := Blk.new w 37 #[.int .i64 A.x0, .int .i64 A.y0, .int .i64 A.x1, .int .i64 A.y1, .slice Am n c]
  have k0 := K.cell 0; have k1 := K.cell 1; have k2 := K.cell 2; have k3 := K.cell 3; have k4 := K.cell 4; have kl := K.lt; simp only [List.getElem?_toArray, List.getElem?_cons_succ, List.getElem?_cons_zero] at k0 k1 k2 k3 k4
  have hw : wrap64 (64 + (n : Int)) = 64 + (n : Int) := by unfold wrap64; omega
  go_enter Try.func17, Try.ntmps17
  go_wp2
  go_ret
  exact ⟨rfl, B⟩
/-- A mask that was handed in is put. -/
theorem stput_low (N p : Nat) (w0 w : World) (bud : Int) (L : List En) (C : Cs) (r : LRec) (ok : LrOk w0 N r) (hN : N = w0.heap.size) (h : StC N w0 w p bud L C) :
    Calls Try.prog 16 #[.pointer (some ⟨p, 0, none⟩), .agg #[.int .i64 r.k.1, .int .i64 r.k.2.1, .int .i64 r.k.2.2.1, .int .i64 r.k.2.2.2], .agg #[.int .i64 r.a.x0, .int .i64 r.a.y0, .int .i64 r.a.x1, .int .i64 r.a.y1, .slice r.am r.m.length r.mc]] w fun e w' => ∃ C', e = .returned (.tuple #[.bool (lputB bud r.a r.m.length), .int .i64 (chkC r.a r.m.length)]) ∧ StC N w0 w' p bud (lputL bud L r.k r.a r.m.length r.m) C' ∧ ModC w w' p C C' := by
  obtain ⟨hl, h8, hm, hc, hk⟩ := ok
  have hb := h.2.1
  have hls : Lists w w.heap.size r.am r.m := ⟨hl.nil, fun a ha j v hv => (hb.cell (p := a.add j) (by rw [addr_add_block]; exact hl.lt a ha (by intro e; rw [e] at hv; simp at hv))).trans (hl.cell a ha j v hv), fun a ha hx => Nat.lt_of_lt_of_le (hl.lt a ha hx) h.2.2.2⟩
  refine (lrput_any N p bud L C r.k hk r.a r.am r.m.length r.mc r.m w h.1 rfl hls h8 (fun a ha hx hm => ?_) h.2.2.2).mono ?_
  · have h1 := h.2.2.1 _ hm
    have h2 := hl.lt a ha hx
    omega
  · rintro e w' ⟨C', rfl, s, m⟩
    exact ⟨C', rfl, ⟨s, h.2.mod m⟩, m⟩
theorem stdrop_any (N p : Nat) (w0 w : World) (bud : Int) (L : List En) (C : Cs) (k : Ky) (hk : kyW k) (h : StC N w0 w p bud L C) : Calls Try.prog 20 #[.pointer (some ⟨p, 0, none⟩), .agg #[.int .i64 k.1, .int .i64 k.2.1, .int .i64 k.2.2.1, .int .i64 k.2.2.2]] w fun e w' => ∃ C', e = .returned (.bool (hasE k L)) ∧ StC N w0 w' p bud (dropE k L) C' ∧ ModC w w' p C C' := by
  refine (lrdrop_any N p bud L C k hk w h.1).mono ?_
  rintro e w' ⟨C', rfl, s, m⟩
  exact ⟨C', rfl, ⟨s, h.2.mod m⟩, m⟩
theorem lputL_none {bud : Int} (hb : bud ≤ 63) (k : Ky) (A : Q) (n : Nat) (M : List Value) : lputL bud [] k A n M = [] := by
  unfold lputL
  rw [if_neg (show ¬ 64 + (n : Int) ≤ bud by omega)]
  split <;> rfl
theorem lputB_none {bud : Int} (hb : bud ≤ 63) (A : Q) (n : Nat) : lputB bud A n = false := by
  unfold lputB
  rw [show decide (64 + (n : Int) ≤ bud) = false by simp; omega, Bool.and_false]
theorem lrL_range {w : World} {B : Nat} {A : Option Addr} {L : List LRec} {i : Nat} {r : LRec} (h : Lists w B A (L.flatMap lrL)) (hi : L[i]? = some r) : ∃ b o, A = some ⟨b, o, none⟩ ∧ b < B ∧ w.rangeAt b (o + i * 11) #[.int .i64 r.kd, .int .i64 r.k.1, .int .i64 r.k.2.1, .int .i64 r.k.2.2.1, .int .i64 r.k.2.2.2, .int .i64 r.a.x0, .int .i64 r.a.y0, .int .i64 r.a.x1, .int .i64 r.a.y1, .slice r.am r.m.length r.mc, .int .i64 r.n].toList := lists_flat lrLen (by omega) h hi
end Go.Proofs.Ytaaboochologaaa

namespace Go.Proofs.Ytaaboochologaaa
open Go Go.RowKit
set_option linter.unusedVariables false
set_option linter.unusedSimpArgs false

theorem keyEq_run (k y : Ky) (w : World) : (binOp .eql 39 (.agg #[.int .i64 k.1, .int .i64 k.2.1, .int .i64 k.2.2.1, .int .i64 k.2.2.2]) (.agg #[.int .i64 y.1, .int .i64 y.2.1, .int .i64 y.2.2.1, .int .i64 y.2.2.2])).run Try.prog w = .ok (.bool (decide (k = y))) w := by
  have hS : Try.prog.underlying 39 = some (.struct (Try.prog.fieldsOf 39)) := by kernel_rfl
  have hp : Try.prog.stoodInHeld 39 = false := by kernel_rfl
  have u3 := Try.underlying3
  have a3 := Try.isAgg3
  have z3 := Try.sizeOf3
  obtain ⟨k1, k2, k3, k4⟩ := k
  obtain ⟨y1, y2, y3, y4⟩ := y
  rw [run_eql_struct, show (10000 : Nat) = 9999 + 1 from rfl, run_equalIn_agg w 9999 39 _ _ hS hp]
  simp only [Program.fieldsOf, Try.underlying39]
  go_simp
  by_cases h1 : k1 = y1 <;> by_cases h2 : k2 = y2 <;> by_cases h3 : k3 = y3 <;> by_cases h4 : k4 = y4 <;> simp [h1, h2, h3, h4]
theorem keyEq_guard (k y : Ky) (x z : Operand) (w : World) : (eqGuard .eql 39 x z (.agg #[.int .i64 k.1, .int .i64 k.2.1, .int .i64 k.2.2.1, .int .i64 k.2.2.2]) (.agg #[.int .i64 y.1, .int .i64 y.2.1, .int .i64 y.2.2.1, .int .i64 y.2.2.2])).run Try.prog w = .ok () w :=
  run_eqGuard_agg w .eql 39 x z _ _ (by kernel_rfl)
theorem listsB {w V : World} {A : Option Addr} {M : List Value} (h : Lists w w.heap.size A M) (b : Below w.heap.size w V) : Lists V V.heap.size A M :=
  ⟨h.nil, fun a ha j v hv => (b.cell (p := a.add j) (by rw [addr_add_block]; exact h.lt a ha (by intro e; rw [e] at hv; simp at hv))).trans (h.cell a ha j v hv), fun a ha hx => Nat.lt_of_lt_of_le (h.lt a ha hx) b.size⟩
set_option maxRecDepth 100000 in
theorem rsame_yes (A : Q) (Am Bm : Option Addr) (n c d : Nat) (M : List Value) (w : World) (h1 : Lists w w.heap.size Am M) (h2 : Lists w w.heap.size Bm M) (hn : M.length = n) (h8 : Bytes8 M) : Calls Try.prog 14 #[.agg #[.int .i64 A.x0, .int .i64 A.y0, .int .i64 A.x1, .int .i64 A.y1, .slice Am n c], .agg #[.int .i64 A.x0, .int .i64 A.y0, .int .i64 A.x1, .int .i64 A.y1, .slice Bm n d]] w fun e w' => e = .returned (.bool true) ∧ Below w.heap.size w w' := by
  obtain ⟨wa, hwa⟩ : ∃ wa, wa = (w.alloc (.cells #[.int .i64 A.x0, .int .i64 A.y0, .int .i64 A.x1, .int .i64 A.y1, .slice Am n c] 37)).alloc (.cells #[.int .i64 A.x0, .int .i64 A.y0, .int .i64 A.x1, .int .i64 A.y1, .slice Bm n d] 37) := ⟨_, rfl⟩
  have B : Below w.heap.size w wa := hwa ▸ below_a2 _ _ _
  have K1 : Blk wa w.heap.size 37 #[.int .i64 A.x0, .int .i64 A.y0, .int .i64 A.x1, .int .i64 A.y1, .slice Am n c] := hwa ▸ (Blk.new w 37 #[.int .i64 A.x0, .int .i64 A.y0, .int .i64 A.x1, .int .i64 A.y1, .slice Am n c]).below (below_a1 _ _)
  have K2 : Blk wa (w.heap.size + 1) 37 #[.int .i64 A.x0, .int .i64 A.y0, .int .i64 A.x1, .int .i64 A.y1, .slice Bm n d] := by
    have := Blk.new (w.alloc (.cells #[.int .i64 A.x0, .int .i64 A.y0, .int .i64 A.x1, .int .i64 A.y1, .slice Am n c] 37)) 37 #[.int .i64 A.x0, .int .i64 A.y0, .int .i64 A.x1, .int .i64 A.y1, .slice Bm n d]
    rw [World.size_alloc] at this
    exact hwa ▸ this
  have q1 := conv_lists (n := n) (c := c) (listsB h1 B) hn h8
  have q2 := conv_lists (n := n) (c := d) (listsB h2 B) hn h8
  have e1 := fun W => eqB_run A.x0 A.y0 A.x1 A.y1 A.x0 A.y0 A.x1 A.y1 W
  have e2 := fun x y W => eqB_guard A.x0 A.y0 A.x1 A.y1 A.x0 A.y0 A.x1 A.y1 x y W
  rw [show eq4 A.x0 A.y0 A.x1 A.y1 A.x0 A.y0 A.x1 A.y1 = true by simp [eq4]] at e1
  have us := Try.underlying9
  have k0 := K1.cell 0; have k1 := K1.cell 1; have k2 := K1.cell 2; have k3 := K1.cell 3; have k4 := K1.cell 4; have kl := K1.lt; simp only [List.getElem?_toArray, List.getElem?_cons_succ, List.getElem?_cons_zero] at k0 k1 k2 k3 k4
  have m0 := K2.cell 0; have m1 := K2.cell 1; have m2 := K2.cell 2; have m3 := K2.cell 3; have m4 := K2.cell 4; have ml := K2.lt; simp only [List.getElem?_toArray, List.getElem?_cons_succ, List.getElem?_cons_zero] at m0 m1 m2 m3 m4
  have HWA := Lib.hid hwa
  clear h1 h2 hn h8 K1 K2 hwa
  go_enter Try.func14, Try.ntmps14
  go_upto_region 1 with fail
  rw [← HWA.out]
  go_wp2
  go_ret
  exact ⟨rfl, B⟩
theorem find_drop_same (k : Ky) (L : List En) : (dropE k L).find? (isK k) = none := List.find?_eq_none.2 fun e he => by
  have := dropE_mem he
  unfold isK; simp [this]
theorem find_drop_other {k y : Ky} (h : y ≠ k) : ∀ L : List En, (dropE k L).find? (isK y) = L.find? (isK y)
  | [] => rfl
  | e :: L => by
    have ih := find_drop_other h L
    unfold dropE at ih ⊢
    by_cases h1 : e.1 = k
    · rw [List.filter_cons_of_neg (by simp [h1]), ih, List.find?_cons_of_neg (by unfold isK; simp [h1, Ne.symm h])]
    · rw [List.filter_cons_of_pos (by simp [h1])]
      by_cases h2 : isK y e = true
      · rw [List.find?_cons_of_pos h2, List.find?_cons_of_pos h2]
      · rw [List.find?_cons_of_neg h2, List.find?_cons_of_neg h2, ih]
theorem find_shr (y : Ky) : ∀ (L : List En) (m : Int) (en : En), (shrE m L).find? (isK y) = some en → L.find? (isK y) = some en
  | [], m, en, h => by simp [shrE] at h
  | e :: L, m, en, h => by
    unfold shrE at h
    split at h
    · by_cases h2 : isK y e = true
      · rw [List.find?_cons_of_pos h2] at h ⊢; exact h
      · rw [List.find?_cons_of_neg h2] at h ⊢; exact find_shr y L _ en h
    · simp at h
theorem last_same {bud : Int} {L : List En} {y : Ky} {A : Q} {n : Nat} {M : List Value} (hc : chkB A n = true) : ∀ en, (lputL bud L y A n M).find? (isK y) = some en → lputB bud A n = true ∧ en.2 = (A, M) := fun en h => by
  unfold lputL at h
  rw [hc, if_pos rfl] at h
  by_cases hg : 64 + (n : Int) ≤ bud
  · rw [if_pos hg, List.find?_cons_of_pos (by unfold isK; simp)] at h
    cases h
    exact ⟨by unfold lputB; rw [hc]; simp [hg], rfl⟩
  · rw [if_neg hg, find_drop_same] at h
    cases h
theorem last_other {bud : Int} {L : List En} {k y : Ky} {A : Q} {n : Nat} {M : List Value} (hk : y ≠ k) : ∀ en, (lputL bud L k A n M).find? (isK y) = some en → L.find? (isK y) = some en := fun en h => by
  unfold lputL at h
  split at h
  · split at h
    · rw [List.find?_cons_of_neg (by unfold isK; simp [Ne.symm hk])] at h
      have := find_shr y _ _ en h
      rwa [find_drop_other hk] at this
    · rwa [find_drop_other hk] at h
  · exact h
theorem last_get {L : List En} {k y : Ky} {e : En} (he : L.find? (isK k) = some e) : ∀ en, (e :: dropE k L).find? (isK y) = some en → L.find? (isK y) = some en := fun en h => by
  have hk1 : e.1 = k := by have := List.find?_some he; unfold isK at this; simpa using this
  by_cases hy : y = k
  · subst hy
    rw [List.find?_cons_of_pos (by unfold isK; simp [hk1])] at h
    rw [he]; exact h
  · rw [List.find?_cons_of_neg (by unfold isK; simp [hk1, Ne.symm hy]), find_drop_other hy] at h
    exact h
end Go.Proofs.Ytaaboochologaaa

namespace Go.Proofs.Ytaaboochologaaa
open Go Go.RowKit
set_option linter.unusedVariables false
set_option linter.unusedSimpArgs false
variable {W : World}
theorem ctInfoZ : (Try.prog.info? 41).map (·.size) = some 11 := by kernel_rfl
theorem lr_up {w V : World} {r : LRec} (h : LrOk w w.heap.size r) (b : Below w.heap.size w V) : LrOk V V.heap.size r := ⟨listsB h.1 b, h.2⟩
theorem StC.other {N p : Nat} {w0 w V : World} {bud : Int} {L : List En} {C : Cs} {q : Nat} {cs : Array Value} (h : StC N w0 w p bud L C) (hq : Blk w q 37 cs) (hN : N ≤ q) (o : Only w V [q]) : StC N w0 V p bud L C := by
  obtain ⟨⟨ord, h1, h2, h3⟩, h4, h5, h6⟩ := h
  have hn := h1.v.other hq (by decide) (by decide) (by decide)
  refine ⟨⟨ord, ⟨h1.v.only o (fun b hb hm => by simp at hm; subst hm; exact hn hb), h1.i, fun i hi => (h1.rows i hi).mono o (fun g cs hb hm => by simp at hm; exact blk_neL hb hq (by decide) hm)⟩, h2, h3⟩, h4.trans (o.to_below h6 (by simp; exact hN)), h5, Nat.le_trans h6 o.size⟩
set_option maxRecDepth 100000 in
set_option maxHeartbeats 8000000 in
theorem lrlast_main (bud : Int) (hb : inZ 0 16777216 bud = true) (A : Option Addr) (c : Nat) (L : List LRec) (hc : L.length ≤ c) (hm : c ≤ 9223372036854775807) (hl : Lists W W.heap.size A (L.flatMap lrL)) (hs : ∀ r ∈ L, LrOk W W.heap.size r) (y : Ky) (hy : kyW y) : Calls Try.prog 4 #[.int .i64 bud, .slice A L.length c, .agg #[.int .i64 y.1, .int .i64 y.2.1, .int .i64 y.2.2.1, .int .i64 y.2.2.2]] W fun e w' => e = .returned (.bool true) ∧ Below W.heap.size W w' := by
  obtain ⟨N0, hN0⟩ : ∃ N0, N0 = W.heap.size := ⟨_, rfl⟩
  obtain ⟨W1, hW1⟩ : ∃ W1, W1 = W.alloc (.cells #[.int .i64 y.1, .int .i64 y.2.1, .int .i64 y.2.2.1, .int .i64 y.2.2.2] 39) := ⟨_, rfl⟩
  have BW : Below W.heap.size W W1 := hW1 ▸ below_a1 _ _
  have Y1 : Blk W1 N0 39 #[.int .i64 y.1, .int .i64 y.2.1, .int .i64 y.2.2.1, .int .i64 y.2.2.2] := by rw [hW1, hN0]; exact Blk.new _ _ _
  obtain ⟨N, hN⟩ : ∃ N, N = W1.heap.size := ⟨_, rfl⟩
  have CN := stnew_any bud hb N W1 W1 (Below.refl _ _) (by omega)
  have CL := fun W => lives25_any W
  have HL := Lib.hid (And.intro (listsB hl BW) (fun r hr => lr_up (hs r hr) BW))
  have HN := Lib.hid hN
  have HN0 := Lib.hid hN0
  have HY := Lib.hid hy
  have HYB := Lib.hid Y1
  have HBW := Lib.hid BW
  obtain ⟨n, hn⟩ : ∃ n, n = L.length := ⟨_, rfl⟩
  have hnc : n ≤ 9223372036854775807 := by omega
  rw [← hn]
  have HNL := Lib.hid hn
  have HW1 := Lib.hid hW1
  clear hl hs hN hn BW hW1 hy hN0 Y1
  go_enter Try.func4, Try.ntmps4
  go_upto_region 1 with fail
  rw [← HN0.out, ← HW1.out]
  go_upto_region 2 with (go_at_call 8; refine (CN).mono ?_; rintro e w1 ⟨p, C0, rfl, s0⟩)
  have HS00 := Lib.hid s0
  clear s0 CN
  go_upto_region 4 with (go_at_call 9; refine (CL _).mono ?_; rintro e w2 ⟨rfl, b2⟩)
  have HR9 := Lib.hid (Blk.new w2 37 #[.int .i64 0, .int .i64 0, .int .i64 0, .int .i64 0, .slice none 0 0])
  go_wp2_with (refine wpList_store_row rfl 37 (.tmp 9) (.tmp 38) (by with_reducible rfl) w2.heap.size #[.int .i64 0, .int .i64 0, .int .i64 0, .int .i64 0, .slice none 0 0] (by rfl) (by rfl) 37 #[.int .i64 0, .int .i64 0, .int .i64 0, .int .i64 0, .slice none 0 0] (by exact HR9.out) mkInfoL rfl (by simp [Value.oneCell']) ?_)
  obtain ⟨w3, hw3⟩ : ∃ w3, w3 = (w2.alloc (.cells #[.int .i64 0, .int .i64 0, .int .i64 0, .int .i64 0, .slice none 0 0] 37)).setRow w2.heap.size #[.int .i64 0, .int .i64 0, .int .i64 0, .int .i64 0, .slice none 0 0] := ⟨_, rfl⟩
  rw [← hw3]
  have B3 : Below w2.heap.size w2 w3 := hw3 ▸ below_setRow (g := w2.heap.size) (below_a1 _ _) (Nat.le_refl _) _
  obtain ⟨q, hq⟩ : ∃ q, q = w2.heap.size := ⟨_, rfl⟩
  rw [← hq]
  have K9 : Blk w3 q 37 #[.int .i64 0, .int .i64 0, .int .i64 0, .int .i64 0, .slice none 0 0] := by rw [hw3, hq]; exact blk_row HR9.out _
  have hNq : N ≤ q := by have := HS00.out.2.2.2; have := b2.size; omega
  have HNQ := Lib.hid hNq
  have HST := Lib.hid (And.intro ((HS00.out.below b2).below B3) K9)
  clear hw3 B3 hq K9 b2 hb hNq
  go_loopw [10, 11, 12, 13, 14] (fun pt i _ _ _ wr => ∃ (j : Nat) (C : Cs) (Lk : List En) (put : Bool) (al : Q) (aml : Option Addr) (mcl ml : Nat) (Ml : List Value), j ≤ n ∧ i = .int .i64 (j : Nat) ∧ pt = .bool put ∧ StC N W1 wr p bud Lk C ∧ Blk wr q 37 #[.int .i64 al.x0, .int .i64 al.y0, .int .i64 al.x1, .int .i64 al.y1, .slice aml ml mcl] ∧ Ml.length = ml ∧ Lists W1 N aml Ml ∧ Bytes8 Ml ∧ (∀ en, Lk.find? (isK y) = some en → put = true ∧ en.2 = (al, Ml))) (fun _ i _ _ _ _ => n - (intOf i).toNat)
  case atStart => exact ⟨0, C0, [], false, ⟨0, 0, 0, 0⟩, none, 0, 0, [], Nat.zero_le _, rfl, rfl, HST.out.1, HST.out.2, rfl, ⟨fun _ => rfl, fun _ h => (nomatch h), fun _ h => (nomatch h)⟩, (by intro u hu; simp at hu), (by intro en h; simp at h)⟩
  case round =>
    obtain ⟨j, C, Lk, put, al, aml, mcl, ml, Ml, hj, rfl, rfl, hst, hq9, hinv⟩ := hrel
    have HS := Lib.hid hst
    have HQ9 := Lib.hid hq9
    have HI := Lib.hid hinv
    clear hst hq9 hinv
    by_cases hrun : j < n ∧ j < 100
    · obtain ⟨hlt, h100⟩ := hrun
      have e100 : decide ((j : Int) < 100) = true := by simp; omega
      have hjL : j < L.length := by rw [← HNL.out]; exact hlt
      have hjl : j < L.length := by omega
      obtain ⟨r, hr0⟩ : ∃ r, r = L[j]'hjl := ⟨_, rfl⟩
      have hrj : L[j]? = some r := by rw [hr0]; exact List.getElem?_eq_getElem _
      have hok := HL.out.2 r (by rw [hr0]; exact List.getElem_mem hjl)
      obtain ⟨b, o, rfl, hb, hrg⟩ := lrL_range HL.out.1 hrj
      obtain ⟨m, hmm⟩ : ∃ m, m = r.m.length := ⟨_, rfl⟩
      rw [← hmm] at hrg
      have hr : wr.rangeAt b (o + j * 11) #[.int .i64 r.kd, .int .i64 r.k.1, .int .i64 r.k.2.1, .int .i64 r.k.2.2.1, .int .i64 r.k.2.2.2, .int .i64 r.a.x0, .int .i64 r.a.y0, .int .i64 r.a.x1, .int .i64 r.a.y1, .slice r.am m r.mc, .int .i64 r.n].toList := fun jj v hv => (HS.out.2.1.cell (p := ⟨b, o + j * 11 + jj, none⟩) (by rw [HN.out]; exact hb)).trans (hrg jj v hv)
      have HR0 := Lib.hid (Blk.new wr 41 #[.int .i64 0, .int .i64 0, .int .i64 0, .int .i64 0, .int .i64 0, .int .i64 0, .int .i64 0, .int .i64 0, .int .i64 0, .slice none 0 0, .int .i64 0])
      have HOK := Lib.hid (And.intro hok hmm)
      clear hr0 hrj hok hrg hmm hjl
      go_upto_region 9 with (first
        | (refine wpList_load_mid rfl 41 (.tmp 51) (by with_reducible rfl) b (o + j * 11) (by rfl) #[.int .i64 r.kd, .int .i64 r.k.1, .int .i64 r.k.2.1, .int .i64 r.k.2.2.1, .int .i64 r.k.2.2.2, .int .i64 r.a.x0, .int .i64 r.a.y0, .int .i64 r.a.x1, .int .i64 r.a.y1, .slice r.am m r.mc, .int .i64 r.n].toList _ hr Try.underlying41 rfl ctInfoZ ?_)
        | (refine wpList_store_row rfl 41 (.tmp 12) (.tmp 52) (by with_reducible rfl) wr.heap.size #[.int .i64 r.kd, .int .i64 r.k.1, .int .i64 r.k.2.1, .int .i64 r.k.2.2.1, .int .i64 r.k.2.2.2, .int .i64 r.a.x0, .int .i64 r.a.y0, .int .i64 r.a.x1, .int .i64 r.a.y1, .slice r.am m r.mc, .int .i64 r.n] (by rfl) (by rfl) 41 #[.int .i64 0, .int .i64 0, .int .i64 0, .int .i64 0, .int .i64 0, .int .i64 0, .int .i64 0, .int .i64 0, .int .i64 0, .slice none 0 0, .int .i64 0] (by exact HR0.out) ctInfoZ rfl (by simp [Value.oneCell']) ?_))
      obtain ⟨w1, hw1⟩ : ∃ w1, w1 = (wr.alloc (.cells #[.int .i64 0, .int .i64 0, .int .i64 0, .int .i64 0, .int .i64 0, .int .i64 0, .int .i64 0, .int .i64 0, .int .i64 0, .slice none 0 0, .int .i64 0] 41)).setRow wr.heap.size #[.int .i64 r.kd, .int .i64 r.k.1, .int .i64 r.k.2.1, .int .i64 r.k.2.2.1, .int .i64 r.k.2.2.2, .int .i64 r.a.x0, .int .i64 r.a.y0, .int .i64 r.a.x1, .int .i64 r.a.y1, .slice r.am m r.mc, .int .i64 r.n] := ⟨_, rfl⟩
      rw [← hw1]
      have B1 : Below wr.heap.size wr w1 := hw1 ▸ below_setRow (g := wr.heap.size) (below_a1 _ _) (Nat.le_refl _) _
      obtain ⟨q1, hq⟩ : ∃ q1, q1 = wr.heap.size := ⟨_, rfl⟩
      rw [← hq]
      have K : Blk w1 q1 41 #[.int .i64 r.kd, .int .i64 r.k.1, .int .i64 r.k.2.1, .int .i64 r.k.2.2.1, .int .i64 r.k.2.2.2, .int .i64 r.a.x0, .int .i64 r.a.y0, .int .i64 r.a.x1, .int .i64 r.a.y1, .slice r.am m r.mc, .int .i64 r.n] := by rw [hw1, hq]; exact blk_row HR0.out _
      have HK := Lib.hid K
      have HB1 := Lib.hid B1
      have HQq := Lib.hid hq
      clear hw1 B1 hr hq
      have t0 := K.cell 0; have t1 := K.cell 1; have t2 := K.cell 2; have t3 := K.cell 3; have t4 := K.cell 4; have t5 := K.cell 5; have t6 := K.cell 6; have t7 := K.cell 7; have t8 := K.cell 8; have t9 := K.cell 9; have t10 := K.cell 10; have tl := K.lt; simp only [List.getElem?_toArray, List.getElem?_cons_succ, List.getElem?_cons_zero] at t0 t1 t2 t3 t4 t5 t6 t7 t8 t9 t10
      obtain ⟨kd, hkd⟩ : ∃ kd, kd = r.kd := ⟨_, rfl⟩
      rw [← hkd] at t0
      have HKD := Lib.hid hkd
      clear hkd K
      by_cases hbig : 16384 < m
      · go_wp2
        go_roundw
        case rel => exact ⟨j + 1, C, Lk, put, al, aml, mcl, ml, Ml, by omega, by go_num, rfl, HS.out.below HB1.out, HQ9.out.below HB1.out, HI.out⟩
        case measure => simp [intOf]; omega
      · by_cases hk2 : kd = 2
        · subst hk2
          have CK := fun W => rckmask_any r.a r.am m r.mc W
          cases hck : chkB r.a m with
          | false =>
            rw [show chkC r.a m = 220 by unfold chkC; rw [hck]; rfl] at CK
            go_upto_region 16 with (go_at_call 15; refine (CK _).mono ?_; rintro e w3 ⟨rfl, b3⟩)
            have K3 := HK.out.below b3
            have BB := HB1.out.trans (b3.mono HB1.out.size)
            clear t0 t1 t2 t3 t4 t5 t6 t7 t8 t9 t10 tl
            have t0 := K3.cell 0; have t1 := K3.cell 1; have t2 := K3.cell 2; have t3 := K3.cell 3; have t4 := K3.cell 4; have t5 := K3.cell 5; have t6 := K3.cell 6; have t7 := K3.cell 7; have t8 := K3.cell 8; have t9 := K3.cell 9; have t10 := K3.cell 10; have tl := K3.lt; simp only [List.getElem?_toArray, List.getElem?_cons_succ, List.getElem?_cons_zero] at t0 t1 t2 t3 t4 t5 t6 t7 t8 t9 t10
            rw [← HKD.out] at t0
            go_wp2
            go_roundw
            case rel => exact ⟨j + 1, C, Lk, put, al, aml, mcl, ml, Ml, by omega, by go_num, rfl, HS.out.below BB, HQ9.out.below BB, HI.out⟩
            case measure => simp [intOf]; omega
          | true =>
            rw [show chkC r.a m = 0 by unfold chkC; rw [hck]; rfl] at CK
            have PP := stput_low N p W1 _ bud Lk C r (by rw [HN.out]; exact HOK.out.1) HN.out (HS.out.below HB1.out)
            obtain ⟨isp, hisp⟩ : ∃ isp, isp = lputB bud r.a m := ⟨_, rfl⟩
            have HPP := Lib.hid (fun (W : World) (hW : Below w1.heap.size w1 W) => stput_low N p W1 W bud Lk C r (by rw [HN.out]; exact HOK.out.1) HN.out ((HS.out.below HB1.out).below hW))
            rw [← HOK.out.2, ← hisp, show chkC r.a m = 0 by unfold chkC; rw [hck]; rfl] at HPP
            have HIS := Lib.hid hisp
            have HCK := Lib.hid hck
            clear PP hisp hck
            go_upto_region 12 with (first
              | (go_at_call 15; refine (CK _).mono ?_; rintro e w3 ⟨rfl, b3⟩; have HB3 := Lib.hid b3; have K3 := HK.out.below b3; have t0 := K3.cell 0; have t1 := K3.cell 1; have t2 := K3.cell 2; have t3 := K3.cell 3; have t4 := K3.cell 4; have t5 := K3.cell 5; have t6 := K3.cell 6; have t7 := K3.cell 7; have t8 := K3.cell 8; have t9 := K3.cell 9; have t10 := K3.cell 10; have tl := K3.lt; simp only [List.getElem?_toArray, List.getElem?_cons_succ, List.getElem?_cons_zero] at t0 t1 t2 t3 t4 t5 t6 t7 t8 t9 t10; rw [← HKD.out] at t0)
              | (go_at_call 16; refine (HPP.out _ HB3.out).mono ?_; rintro e w4 ⟨C1, rfl, s4, m4⟩))
            have v3 := ((HS.out.below HB1.out).below HB3.out).1.v
            have K4 := (HK.out.below HB3.out).only m4.1 (v3.other (HK.out.below HB3.out) (by decide) (by decide) (by decide))
            have Q4 := ((HQ9.out.below HB1.out).below HB3.out).only m4.1 (v3.other ((HQ9.out.below HB1.out).below HB3.out) (by decide) (by decide) (by decide))
            have HK4 := Lib.hid K4
            have HQ4 := Lib.hid Q4
            have HS4 := Lib.hid s4
            have Yr := HYB.out
            have Y4 : Blk w4 N0 39 #[.int .i64 y.1, .int .i64 y.2.1, .int .i64 y.2.2.1, .int .i64 y.2.2.2] := (s4.2.1.block N0 (by have := Yr.lt; rw [HN.out]; exact this)).trans Yr
            have HY4 := Lib.hid Y4
            clear t0 t1 t2 t3 t4 t5 t6 t7 t8 t9 t10 tl K3 s4 m4 b3 v3 K4 Q4 Yr Y4
            have hfit : isp = true → 64 + (m : Int) ≤ bud := fun h => by
              have h2 := HIS.out
              rw [h] at h2
              unfold lputB at h2
              simp at h2
              omega
            have HFT := Lib.hid hfit
            have CC := fun W => rlcost_any r.a r.am m r.mc (by omega) W
            clear hfit
            obtain ⟨w5, h45, hcut⟩ : ∃ w5, Below w4.heap.size w4 w5 ∧ w5 = w5 := ⟨w4, Below.refl _ _, rfl⟩
            clear h45 hcut w5
            cases isp
            all_goals
              try (have dfit : decide (bud < 64 + (m : Int)) = false := by have := HFT.out rfl; simp; omega)
              have K5 := HK4.out
              have t0 := K5.cell 0; have t1 := K5.cell 1; have t2 := K5.cell 2; have t3 := K5.cell 3; have t4 := K5.cell 4; have t5 := K5.cell 5; have t6 := K5.cell 6; have t7 := K5.cell 7; have t8 := K5.cell 8; have t9 := K5.cell 9; have t10 := K5.cell 10; have tl := K5.lt; simp only [List.getElem?_toArray, List.getElem?_cons_succ, List.getElem?_cons_zero] at t0 t1 t2 t3 t4 t5 t6 t7 t8 t9 t10
              rw [← HKD.out] at t0
              go_upto_region 14 with (go_at_call 17; refine (CC _).mono ?_; rintro e wc ⟨rfl, bc⟩)
            · have s5 := HS4.out.below (Below.refl _ _)
              have K6 := HK4.out.below (Below.refl _ _)
              have Q6 := HQ4.out.below (Below.refl _ _)
              have Y6 := HY4.out.below (Below.refl _ _)
              have HS5 := Lib.hid s5
              have HQ6 := Lib.hid Q6
              clear t0 t1 t2 t3 t4 t5 t6 t7 t8 t9 t10 tl K5
              have t0 := K6.cell 0; have t1 := K6.cell 1; have t2 := K6.cell 2; have t3 := K6.cell 3; have t4 := K6.cell 4; have t5 := K6.cell 5; have t6 := K6.cell 6; have t7 := K6.cell 7; have t8 := K6.cell 8; have t9 := K6.cell 9; have t10 := K6.cell 10; have tl := K6.lt; simp only [List.getElem?_toArray, List.getElem?_cons_succ, List.getElem?_cons_zero] at t0 t1 t2 t3 t4 t5 t6 t7 t8 t9 t10
              rw [← HKD.out] at t0
              have y0 := Y6.cell 0; have y1 := Y6.cell 1; have y2 := Y6.cell 2; have y3 := Y6.cell 3; have yl := Y6.lt
              simp only [List.getElem?_toArray, List.getElem?_cons_succ, List.getElem?_cons_zero] at y0 y1 y2 y3
              have ke := fun W => keyEq_run r.k y W
              have kg := fun x z W => keyEq_guard r.k y x z W
              clear s5 Q6 Y6 K6
              by_cases hky : r.k = y
              · rw [show decide (r.k = y) = true by simp [hky]] at ke
                have HKY := Lib.hid hky
                clear hky
                go_wp2_with (refine wpList_store_row rfl 37 (.tmp 9) (.tmp 103) (by with_reducible rfl) q #[.int .i64 r.a.x0, .int .i64 r.a.y0, .int .i64 r.a.x1, .int .i64 r.a.y1, .slice r.am m r.mc] (by rfl) (by rfl) 37 #[.int .i64 al.x0, .int .i64 al.y0, .int .i64 al.x1, .int .i64 al.y1, .slice aml ml mcl] (by exact HQ6.out) mkInfoL rfl (by simp [Value.oneCell']) ?_)
                have o9 : Only w4 (w4.setRow q #[.int .i64 r.a.x0, .int .i64 r.a.y0, .int .i64 r.a.x1, .int .i64 r.a.y1, .slice r.am m r.mc]) [q] := only_row (Only.refl _ _) (.inl (by simp)) _
                have s6 := StC.other HS5.out HQ6.out HNQ.out o9
                go_roundw
                case rel =>
                  refine ⟨j + 1, C1, _, false, r.a, r.am, r.mc, m, r.m, by omega, by go_num, rfl, s6, blk_row HQ6.out _, HOK.out.2.symm, by rw [HN.out]; exact HOK.out.1.1, HOK.out.1.2.1, fun en h => ?_⟩
                  have h2 := HIS.out
                  rw [← HKY.out] at h
                  have := last_same HCK.out en h
                  rw [← h2] at this
                  exact this
                case measure => simp [intOf]; omega
              · rw [show decide (r.k = y) = false by simp [hky]] at ke
                have HKY := Lib.hid hky
                clear hky
                go_wp2
                go_roundw
                case rel => exact ⟨j + 1, C1, _, put, al, aml, mcl, ml, Ml, by omega, by go_num, rfl, HS5.out, HQ6.out, HI.out.1, HI.out.2.1, HI.out.2.2.1, fun en h => HI.out.2.2.2 en (last_other (fun e => HKY.out e.symm) en h)⟩
                case measure => simp [intOf]; omega
            · have s5 := HS4.out.below bc
              have K6 := HK4.out.below bc
              have Q6 := HQ4.out.below bc
              have Y6 := HY4.out.below bc
              have HS5 := Lib.hid s5
              have HQ6 := Lib.hid Q6
              clear t0 t1 t2 t3 t4 t5 t6 t7 t8 t9 t10 tl K5
              have t0 := K6.cell 0; have t1 := K6.cell 1; have t2 := K6.cell 2; have t3 := K6.cell 3; have t4 := K6.cell 4; have t5 := K6.cell 5; have t6 := K6.cell 6; have t7 := K6.cell 7; have t8 := K6.cell 8; have t9 := K6.cell 9; have t10 := K6.cell 10; have tl := K6.lt; simp only [List.getElem?_toArray, List.getElem?_cons_succ, List.getElem?_cons_zero] at t0 t1 t2 t3 t4 t5 t6 t7 t8 t9 t10
              rw [← HKD.out] at t0
              have y0 := Y6.cell 0; have y1 := Y6.cell 1; have y2 := Y6.cell 2; have y3 := Y6.cell 3; have yl := Y6.lt
              simp only [List.getElem?_toArray, List.getElem?_cons_succ, List.getElem?_cons_zero] at y0 y1 y2 y3
              have ke := fun W => keyEq_run r.k y W
              have kg := fun x z W => keyEq_guard r.k y x z W
              clear s5 Q6 Y6 K6
              by_cases hky : r.k = y
              · rw [show decide (r.k = y) = true by simp [hky]] at ke
                have HKY := Lib.hid hky
                clear hky
                go_wp2_with (refine wpList_store_row rfl 37 (.tmp 9) (.tmp 103) (by with_reducible rfl) q #[.int .i64 r.a.x0, .int .i64 r.a.y0, .int .i64 r.a.x1, .int .i64 r.a.y1, .slice r.am m r.mc] (by rfl) (by rfl) 37 #[.int .i64 al.x0, .int .i64 al.y0, .int .i64 al.x1, .int .i64 al.y1, .slice aml ml mcl] (by exact HQ6.out) mkInfoL rfl (by simp [Value.oneCell']) ?_)
                have o9 : Only wc (wc.setRow q #[.int .i64 r.a.x0, .int .i64 r.a.y0, .int .i64 r.a.x1, .int .i64 r.a.y1, .slice r.am m r.mc]) [q] := only_row (Only.refl _ _) (.inl (by simp)) _
                have s6 := StC.other HS5.out HQ6.out HNQ.out o9
                go_roundw
                case rel =>
                  refine ⟨j + 1, C1, _, true, r.a, r.am, r.mc, m, r.m, by omega, by go_num, rfl, s6, blk_row HQ6.out _, HOK.out.2.symm, by rw [HN.out]; exact HOK.out.1.1, HOK.out.1.2.1, fun en h => ?_⟩
                  have h2 := HIS.out
                  rw [← HKY.out] at h
                  have := last_same HCK.out en h
                  rw [← h2] at this
                  exact this
                case measure => simp [intOf]; omega
              · rw [show decide (r.k = y) = false by simp [hky]] at ke
                have HKY := Lib.hid hky
                clear hky
                go_wp2
                go_roundw
                case rel => exact ⟨j + 1, C1, _, put, al, aml, mcl, ml, Ml, by omega, by go_num, rfl, HS5.out, HQ6.out, HI.out.1, HI.out.2.1, HI.out.2.2.1, fun en h => HI.out.2.2.2 en (last_other (fun e => HKY.out e.symm) en h)⟩
                case measure => simp [intOf]; omega
        · by_cases hk1 : kd = 1
          · subst hk1
            cases hf : Lk.find? (isK r.k) with
            | none =>
              have GM := stget_miss N p W1 w1 bud Lk C r.k HOK.out.1.2.2.2.2 (HS.out.below HB1.out) hf
              clear hf
              go_wp2_with (go_at_call 13; refine (GM).mono ?_; rintro e w3 ⟨rfl, s3, b3⟩)
              have BB := HB1.out.trans (b3.mono HB1.out.size)
              go_roundw
              case rel => exact ⟨j + 1, C, Lk, put, al, aml, mcl, ml, Ml, by omega, by go_num, rfl, HS.out.below BB, HQ9.out.below BB, HI.out⟩
              case measure => simp [intOf]; omega
            | some en =>
              have GG := stget_hit N p W1 w1 bud Lk C r.k HOK.out.1.2.2.2.2 en (HS.out.below HB1.out) hf
              have HF := Lib.hid hf
              clear hf
              go_wp2_with (go_at_call 13; refine (GG).mono ?_; rintro e w3 ⟨g3, C3, rfl, gb3, gs3, s3, m3⟩)
              have Q3 := (HQ9.out.below HB1.out).only m3.1 ((HS.out.below HB1.out).1.v.other (HQ9.out.below HB1.out) (by decide) (by decide) (by decide))
              go_roundw
              case rel => exact ⟨j + 1, C3, _, put, al, aml, mcl, ml, Ml, by omega, by go_num, rfl, s3, Q3, HI.out.1, HI.out.2.1, HI.out.2.2.1, fun en' h' => HI.out.2.2.2 en' (last_get HF.out en' h')⟩
              case measure => simp [intOf]; omega
          · have dk1 : (kd != 1) = true := by simpa using hk1
            have dk2 : (kd != 2) = true := by simpa using hk2
            go_wp2
            go_roundw
            case rel => exact ⟨j + 1, C, Lk, put, al, aml, mcl, ml, Ml, by omega, by go_num, rfl, HS.out.below HB1.out, HQ9.out.below HB1.out, HI.out⟩
            case measure => simp [intOf]; omega
    · rcases Nat.lt_or_ge j n with hlt | hge
      · have e100 : decide ((j : Int) < 100) = false := by simp; omega
        have Yr := HYB.out
        have Y4 : Blk wr N0 39 #[.int .i64 y.1, .int .i64 y.2.1, .int .i64 y.2.2.1, .int .i64 y.2.2.2] := (HS.out.2.1.block N0 (by have := Yr.lt; rw [HN.out]; exact this)).trans Yr
        have y0 := Y4.cell 0; have y1 := Y4.cell 1; have y2 := Y4.cell 2; have y3 := Y4.cell 3; have yl := Y4.lt
        simp only [List.getElem?_toArray, List.getElem?_cons_succ, List.getElem?_cons_zero] at y0 y1 y2 y3
        clear Yr Y4
        cases hf : Lk.find? (isK y) with
        | none =>
          have GM := stget_miss N p W1 wr bud Lk C y HY.out HS.out hf
          clear hf
          go_wp2_with (first
            | (go_at_call 13; refine (GM).mono ?_; rintro e w4 ⟨rfl, s4, b4⟩; have HR4 := Lib.hid (Blk.new w4 37 #[.int .i64 0, .int .i64 0, .int .i64 0, .int .i64 0, .slice none 0 0]))
            | (refine wpList_store_row rfl 37 (.tmp 15) (.tmp 116) (by with_reducible rfl) w4.heap.size #[.int .i64 0, .int .i64 0, .int .i64 0, .int .i64 0, .slice none 0 0] (by rfl) (by rfl) 37 #[.int .i64 0, .int .i64 0, .int .i64 0, .int .i64 0, .slice none 0 0] (by exact HR4.out) mkInfoL rfl (by simp [Value.oneCell']) ?_))
          go_ret
          have B5 : Below w4.heap.size w4 ((w4.alloc (.cells #[.int .i64 0, .int .i64 0, .int .i64 0, .int .i64 0, .slice none 0 0] 37)).setRow w4.heap.size #[.int .i64 0, .int .i64 0, .int .i64 0, .int .i64 0, .slice none 0 0]) := below_setRow (g := w4.heap.size) (below_a1 _ _) (Nat.le_refl _) _
          have hbb := (s4.below B5).2.1
          exact ⟨rfl, HBW.out.trans (hbb.mono (by rw [HN.out]; exact HBW.out.size))⟩
        | some en =>
          obtain ⟨hput, hen⟩ := HI.out.2.2.2 en hf
          subst hput
          obtain ⟨ek, eA, eM⟩ := en
          simp only [Prod.mk.injEq] at hen
          obtain ⟨rfl, rfl⟩ := hen
          have GG := stget_hit N p W1 wr bud Lk C y HY.out _ HS.out hf
          dsimp only at GG
          rw [HI.out.1] at GG
          clear hf
          go_upto_region 19 with (first
            | (go_at_call 13; refine (GG).mono ?_; rintro e w4 ⟨g4, C4, rfl, gb4, gs4, s4, m4⟩; have HR4 := Lib.hid (Blk.new w4 37 #[.int .i64 0, .int .i64 0, .int .i64 0, .int .i64 0, .slice none 0 0]))
            | (refine wpList_store_row rfl 37 (.tmp 15) (.tmp 116) (by with_reducible rfl) w4.heap.size #[.int .i64 eA.x0, .int .i64 eA.y0, .int .i64 eA.x1, .int .i64 eA.y1, .slice (some ⟨g4, 0, none⟩) ml ml] (by rfl) (by rfl) 37 #[.int .i64 0, .int .i64 0, .int .i64 0, .int .i64 0, .slice none 0 0] (by exact HR4.out) mkInfoL rfl (by simp [Value.oneCell']) ?_))
          obtain ⟨w5, hw5⟩ : ∃ w5, w5 = (w4.alloc (.cells #[.int .i64 0, .int .i64 0, .int .i64 0, .int .i64 0, .slice none 0 0] 37)).setRow w4.heap.size #[.int .i64 eA.x0, .int .i64 eA.y0, .int .i64 eA.x1, .int .i64 eA.y1, .slice (some ⟨g4, 0, none⟩) ml ml] := ⟨_, rfl⟩
          rw [← hw5]
          have B5 : Below w4.heap.size w4 w5 := hw5 ▸ below_setRow (g := w4.heap.size) (below_a1 _ _) (Nat.le_refl _) _
          have K5 : Blk w5 w4.heap.size 37 #[.int .i64 eA.x0, .int .i64 eA.y0, .int .i64 eA.x1, .int .i64 eA.y1, .slice (some ⟨g4, 0, none⟩) ml ml] := by rw [hw5]; exact blk_row HR4.out _
          have Q5 := (HQ9.out.only m4.1 (HS.out.1.v.other HQ9.out (by decide) (by decide) (by decide))).below B5
          have k0 := K5.cell 0; have k1 := K5.cell 1; have k2 := K5.cell 2; have k3 := K5.cell 3; have k4 := K5.cell 4; have kl := K5.lt; simp only [List.getElem?_toArray, List.getElem?_cons_succ, List.getElem?_cons_zero] at k0 k1 k2 k3 k4
          have u0 := Q5.cell 0; have u1 := Q5.cell 1; have u2 := Q5.cell 2; have u3 := Q5.cell 3; have u4 := Q5.cell 4; have ul := Q5.lt; simp only [List.getElem?_toArray, List.getElem?_cons_succ, List.getElem?_cons_zero] at u0 u1 u2 u3 u4
          have s5 := s4.below B5
          have hl5 : Lists w5 w5.heap.size aml eM := listsB (by have := HI.out.2.1; rw [HN.out] at this; exact this) (by have := s5.2.1; rw [HN.out] at this; exact this)
          have SS := rsame_yes eA (some ⟨g4, 0, none⟩) aml ml ml mcl eM w5 (lists_blkL (gb4.below B5)) hl5 HI.out.1 HI.out.2.2.1
          have HS5 := Lib.hid s5
          clear hw5 B5 K5 Q5 s4 m4 s5 hl5 gb4 gs4 GG
          go_wp2_with (go_at_call 14; refine (SS).mono ?_; rintro e w6 ⟨rfl, b6⟩)
          go_ret
          have hbb := (HS5.out.below b6).2.1
          exact ⟨rfl, HBW.out.trans (hbb.mono (by rw [HN.out]; exact HBW.out.size))⟩
      · have Yr := HYB.out
        have Y4 : Blk wr N0 39 #[.int .i64 y.1, .int .i64 y.2.1, .int .i64 y.2.2.1, .int .i64 y.2.2.2] := (HS.out.2.1.block N0 (by have := Yr.lt; rw [HN.out]; exact this)).trans Yr
        have y0 := Y4.cell 0; have y1 := Y4.cell 1; have y2 := Y4.cell 2; have y3 := Y4.cell 3; have yl := Y4.lt
        simp only [List.getElem?_toArray, List.getElem?_cons_succ, List.getElem?_cons_zero] at y0 y1 y2 y3
        clear Yr Y4
        cases hf : Lk.find? (isK y) with
        | none =>
          have GM := stget_miss N p W1 wr bud Lk C y HY.out HS.out hf
          clear hf
          go_wp2_with (first
            | (go_at_call 13; refine (GM).mono ?_; rintro e w4 ⟨rfl, s4, b4⟩; have HR4 := Lib.hid (Blk.new w4 37 #[.int .i64 0, .int .i64 0, .int .i64 0, .int .i64 0, .slice none 0 0]))
            | (refine wpList_store_row rfl 37 (.tmp 15) (.tmp 116) (by with_reducible rfl) w4.heap.size #[.int .i64 0, .int .i64 0, .int .i64 0, .int .i64 0, .slice none 0 0] (by rfl) (by rfl) 37 #[.int .i64 0, .int .i64 0, .int .i64 0, .int .i64 0, .slice none 0 0] (by exact HR4.out) mkInfoL rfl (by simp [Value.oneCell']) ?_))
          go_ret
          have B5 : Below w4.heap.size w4 ((w4.alloc (.cells #[.int .i64 0, .int .i64 0, .int .i64 0, .int .i64 0, .slice none 0 0] 37)).setRow w4.heap.size #[.int .i64 0, .int .i64 0, .int .i64 0, .int .i64 0, .slice none 0 0]) := below_setRow (g := w4.heap.size) (below_a1 _ _) (Nat.le_refl _) _
          have hbb := (s4.below B5).2.1
          exact ⟨rfl, HBW.out.trans (hbb.mono (by rw [HN.out]; exact HBW.out.size))⟩
        | some en =>
          obtain ⟨hput, hen⟩ := HI.out.2.2.2 en hf
          subst hput
          obtain ⟨ek, eA, eM⟩ := en
          simp only [Prod.mk.injEq] at hen
          obtain ⟨rfl, rfl⟩ := hen
          have GG := stget_hit N p W1 wr bud Lk C y HY.out _ HS.out hf
          dsimp only at GG
          rw [HI.out.1] at GG
          clear hf
          go_upto_region 19 with (first
            | (go_at_call 13; refine (GG).mono ?_; rintro e w4 ⟨g4, C4, rfl, gb4, gs4, s4, m4⟩; have HR4 := Lib.hid (Blk.new w4 37 #[.int .i64 0, .int .i64 0, .int .i64 0, .int .i64 0, .slice none 0 0]))
            | (refine wpList_store_row rfl 37 (.tmp 15) (.tmp 116) (by with_reducible rfl) w4.heap.size #[.int .i64 eA.x0, .int .i64 eA.y0, .int .i64 eA.x1, .int .i64 eA.y1, .slice (some ⟨g4, 0, none⟩) ml ml] (by rfl) (by rfl) 37 #[.int .i64 0, .int .i64 0, .int .i64 0, .int .i64 0, .slice none 0 0] (by exact HR4.out) mkInfoL rfl (by simp [Value.oneCell']) ?_))
          obtain ⟨w5, hw5⟩ : ∃ w5, w5 = (w4.alloc (.cells #[.int .i64 0, .int .i64 0, .int .i64 0, .int .i64 0, .slice none 0 0] 37)).setRow w4.heap.size #[.int .i64 eA.x0, .int .i64 eA.y0, .int .i64 eA.x1, .int .i64 eA.y1, .slice (some ⟨g4, 0, none⟩) ml ml] := ⟨_, rfl⟩
          rw [← hw5]
          have B5 : Below w4.heap.size w4 w5 := hw5 ▸ below_setRow (g := w4.heap.size) (below_a1 _ _) (Nat.le_refl _) _
          have K5 : Blk w5 w4.heap.size 37 #[.int .i64 eA.x0, .int .i64 eA.y0, .int .i64 eA.x1, .int .i64 eA.y1, .slice (some ⟨g4, 0, none⟩) ml ml] := by rw [hw5]; exact blk_row HR4.out _
          have Q5 := (HQ9.out.only m4.1 (HS.out.1.v.other HQ9.out (by decide) (by decide) (by decide))).below B5
          have k0 := K5.cell 0; have k1 := K5.cell 1; have k2 := K5.cell 2; have k3 := K5.cell 3; have k4 := K5.cell 4; have kl := K5.lt; simp only [List.getElem?_toArray, List.getElem?_cons_succ, List.getElem?_cons_zero] at k0 k1 k2 k3 k4
          have u0 := Q5.cell 0; have u1 := Q5.cell 1; have u2 := Q5.cell 2; have u3 := Q5.cell 3; have u4 := Q5.cell 4; have ul := Q5.lt; simp only [List.getElem?_toArray, List.getElem?_cons_succ, List.getElem?_cons_zero] at u0 u1 u2 u3 u4
          have s5 := s4.below B5
          have hl5 : Lists w5 w5.heap.size aml eM := listsB (by have := HI.out.2.1; rw [HN.out] at this; exact this) (by have := s5.2.1; rw [HN.out] at this; exact this)
          have SS := rsame_yes eA (some ⟨g4, 0, none⟩) aml ml ml mcl eM w5 (lists_blkL (gb4.below B5)) hl5 HI.out.1 HI.out.2.2.1
          have HS5 := Lib.hid s5
          clear hw5 B5 K5 Q5 s4 m4 s5 hl5 gb4 gs4 GG
          go_wp2_with (go_at_call 14; refine (SS).mono ?_; rintro e w6 ⟨rfl, b6⟩)
          go_ret
          have hbb := (HS5.out.below b6).2.1
          exact ⟨rfl, HBW.out.trans (hbb.mono (by rw [HN.out]; exact HBW.out.size))⟩
end Go.Proofs.Ytaaboochologaaa
