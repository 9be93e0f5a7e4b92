/- CurveTurns: the other way round a bow that may be bends as far, has as many pieces, and its two ends changed places; for every bow. -/
import Derived.Test.YtngfillgndhfbaaCCv8

namespace Go.Proofs.Ytngfillgndhfbaa.curveTurns
open Go Go.ChangeShapes Go.WideShapes Go.ChangeAt Go.RowKit
set_option linter.unusedVariables false
set_option linter.unusedSimpArgs false

set_option maxRecDepth 100000 in
set_option maxHeartbeats 4000000 in
theorem walk_false (c : Bw) (w : World) (hm : mayW c = false) : Calls Try.prog 7 #[bwV c] w fun e w' => e = .returned (.bool true) ∧ Below w.heap.size w w' := by
  have CT := fun W => cturn_any c W
  have CRM := fun W => rcmay_any c W
  have CL := fun W => lives20 W
  rw [hm] at CRM
  clear hm
  generalize trn c = tc at *
  simp only [bwV] at *
  have B0 := below_a1 w (.cells #[.int .i64 c.k, .int .i64 c.xa, .int .i64 c.ya, .int .i64 c.xb, .int .i64 c.yb, .int .i64 c.xc, .int .i64 c.yc, .int .i64 c.xd, .int .i64 c.yd] 25)
  have KB := Blk.new w 25 #[.int .i64 c.k, .int .i64 c.xa, .int .i64 c.ya, .int .i64 c.xb, .int .i64 c.yb, .int .i64 c.xc, .int .i64 c.yc, .int .i64 c.xd, .int .i64 c.yd]
  have HB0 := Lib.hid B0
  have HKB := Lib.hid KB
  clear B0 KB
  go_enter Try.func7, Try.ntmps7
  go_wp2_with (first | (go_at_call 13; ((with_reducible refine (CT _).mono ?_); rintro e w1 ⟨rfl, b1⟩; have HB1 := Lib.hid (HB0.out.trans (b1.mono HB0.out.size)); have HK1 := Lib.hid (HKB.out.below b1); have K3 := Blk.new w1 25 #[.int .i64 0, .int .i64 0, .int .i64 0, .int .i64 0, .int .i64 0, .int .i64 0, .int .i64 0, .int .i64 0, .int .i64 0]; have HA := Lib.hid (below_setRow (below_a1 w1 (.cells #[.int .i64 0, .int .i64 0, .int .i64 0, .int .i64 0, .int .i64 0, .int .i64 0, .int .i64 0, .int .i64 0, .int .i64 0] 25)) (Nat.le_refl _) #[.int .i64 tc.k, .int .i64 tc.xa, .int .i64 tc.ya, .int .i64 tc.xb, .int .i64 tc.yb, .int .i64 tc.xc, .int .i64 tc.yc, .int .i64 tc.xd, .int .i64 tc.yd]))) | (refine wpList_store_row rfl 25 (.tmp 3) (.tmp 5) (by with_reducible rfl) w1.heap.size #[.int .i64 tc.k, .int .i64 tc.xa, .int .i64 tc.ya, .int .i64 tc.xb, .int .i64 tc.yb, .int .i64 tc.xc, .int .i64 tc.yc, .int .i64 tc.xd, .int .i64 tc.yd] (by rfl) (by rfl) 25 #[.int .i64 0, .int .i64 0, .int .i64 0, .int .i64 0, .int .i64 0, .int .i64 0, .int .i64 0, .int .i64 0, .int .i64 0] (by exact K3) bwInfo rfl (by simp [Value.oneCell']) ?_) | (go_at_call 10; ((with_reducible refine (CL _).mono ?_); rintro e w2 ⟨rfl, b2⟩; first | (have KV := (HK1.out.below HA.out).below b2; have kc := KV.lt; have k0 := KV.cell 0; have k1 := KV.cell 1; have k2 := KV.cell 2; have k3 := KV.cell 3; have k4 := KV.cell 4; have k5 := KV.cell 5; have k6 := KV.cell 6; have k7 := KV.cell 7; have k8 := KV.cell 8; simp only [bwL, List.getElem?_toArray, List.getElem?_cons_succ, List.getElem?_cons_zero] at k0 k1 k2 k3 k4 k5 k6 k7 k8; have hK := HB1.out.trans ((HA.out.trans (b2.mono HA.out.size)).mono HB1.out.size); clear HB1) | (have hK := hK.trans (b2.mono hK.size)))) | (go_at_call 12; ((with_reducible refine (CRM _).mono ?_); rintro e w3 ⟨rfl, b3⟩; have hK := hK.trans (b3.mono hK.size))))
  go_ret
  exact ⟨rfl, hK⟩
set_option maxRecDepth 100000 in
set_option maxHeartbeats 4000000 in
theorem walk_true (c : Bw) (w : World) (hm : mayW c = true) : Calls Try.prog 7 #[bwV c] w fun e w' => e = .returned (.bool true) ∧ Below w.heap.size w w' := by
  have CT := fun W => cturn_any c W
  have CRM := fun W => rcmay_any c W
  have CL := fun W => lives20 W
  have CMT := fun W => cmay_any (trn c) W
  have CBT := fun W => cbend_any (trn c) W
  have CPT := fun W => cpcs_any (trn c) W
  have CTT := fun W => cturn_any (trn c) W
  have CBU := fun W => cbend_any (trn (trn c)) W
  have CRB := fun W => rbend_any c hm W
  have CRP := fun W => rpcs_any c hm W
  rw [mayW_trn, hm] at CMT
  rw [bnW_trn, bnW_trn] at CBU
  rw [bnW_trn] at CBT
  rw [pcW_trn] at CPT
  rw [hm] at CRM
  obtain ⟨q1, q2, q3, q4, q5⟩ := trn_ends c
  clear hm q5
  generalize trn (trn c) = tu at *
  generalize trn c = tc at *
  generalize bnW c = bn at *
  generalize pcW c = pn at *
  have E1 := fun W => eqD_run tc.xa tc.ya c.xd c.yd W
  have E2 := fun W => eqD_run tc.xd tc.yd c.xa c.ya W
  rw [q1, q2, show (c.xd == c.xd && c.yd == c.yd) = true by simp, ← q1, ← q2] at E1
  rw [q3, q4, show (c.xa == c.xa && c.ya == c.ya) = true by simp, ← q3, ← q4] at E2
  have G1 := fun x y W => eqD_guard tc.xa tc.ya c.xd c.yd x y W
  have G2 := fun x y W => eqD_guard tc.xd tc.yd c.xa c.ya x y W
  rw [q1, q2] at E1
  rw [q3, q4] at E2
  rw [q1, q2] at G1
  rw [q3, q4] at G2
  simp only [bwV] at *
  simp only [q1, q2, q3, q4] at CT CMT CBT CPT CTT
  clear q1 q2 q3 q4
  have B0 := below_a1 w (.cells #[.int .i64 c.k, .int .i64 c.xa, .int .i64 c.ya, .int .i64 c.xb, .int .i64 c.yb, .int .i64 c.xc, .int .i64 c.yc, .int .i64 c.xd, .int .i64 c.yd] 25)
  have KB := Blk.new w 25 #[.int .i64 c.k, .int .i64 c.xa, .int .i64 c.ya, .int .i64 c.xb, .int .i64 c.yb, .int .i64 c.xc, .int .i64 c.yc, .int .i64 c.xd, .int .i64 c.yd]
  have HB0 := Lib.hid B0
  have HKB := Lib.hid KB
  clear B0 KB
  go_enter Try.func7, Try.ntmps7
  go_wp2_with (first | (go_at_call 13; ((with_reducible refine (CT _).mono ?_); rintro e w1 ⟨rfl, b1⟩; have HB1 := Lib.hid (HB0.out.trans (b1.mono HB0.out.size)); have HK1 := Lib.hid (HKB.out.below b1); have K3 := Blk.new w1 25 #[.int .i64 0, .int .i64 0, .int .i64 0, .int .i64 0, .int .i64 0, .int .i64 0, .int .i64 0, .int .i64 0, .int .i64 0]; have HA := Lib.hid (below_setRow (below_a1 w1 (.cells #[.int .i64 0, .int .i64 0, .int .i64 0, .int .i64 0, .int .i64 0, .int .i64 0, .int .i64 0, .int .i64 0, .int .i64 0] 25)) (Nat.le_refl _) #[.int .i64 tc.k, .int .i64 c.xd, .int .i64 c.yd, .int .i64 tc.xb, .int .i64 tc.yb, .int .i64 tc.xc, .int .i64 tc.yc, .int .i64 c.xa, .int .i64 c.ya]); have HK3 := Lib.hid (blk_row K3 #[.int .i64 tc.k, .int .i64 c.xd, .int .i64 c.yd, .int .i64 tc.xb, .int .i64 tc.yb, .int .i64 tc.xc, .int .i64 tc.yc, .int .i64 c.xa, .int .i64 c.ya]))) | (refine wpList_store_row rfl 25 (.tmp 3) (.tmp 5) (by with_reducible rfl) w1.heap.size #[.int .i64 tc.k, .int .i64 c.xd, .int .i64 c.yd, .int .i64 tc.xb, .int .i64 tc.yb, .int .i64 tc.xc, .int .i64 tc.yc, .int .i64 c.xa, .int .i64 c.ya] (by rfl) (by rfl) 25 #[.int .i64 0, .int .i64 0, .int .i64 0, .int .i64 0, .int .i64 0, .int .i64 0, .int .i64 0, .int .i64 0, .int .i64 0] (by exact K3) bwInfo rfl (by simp [Value.oneCell']) ?_) | (go_at_call 10; ((with_reducible refine (CL _).mono ?_); rintro e w2 ⟨rfl, b2⟩; have KV := (HK1.out.below HA.out).below b2; have kc := KV.lt; have k0 := KV.cell 0; have k1 := KV.cell 1; have k2 := KV.cell 2; have k3 := KV.cell 3; have k4 := KV.cell 4; have k5 := KV.cell 5; have k6 := KV.cell 6; have k7 := KV.cell 7; have k8 := KV.cell 8; simp only [bwL, List.getElem?_toArray, List.getElem?_cons_succ, List.getElem?_cons_zero] at k0 k1 k2 k3 k4 k5 k6 k7 k8; have hK := HB1.out.trans ((HA.out.trans (b2.mono HA.out.size)).mono HB1.out.size); have HK4 := Lib.hid (HK3.out.below b2); have HKV := Lib.hid KV; clear KV)) | (go_at_call 12; ((with_reducible refine (CRM _).mono ?_); rintro e W2 ⟨rfl, b3⟩; have hK := hK.trans (b3.mono hK.size); have HK5 := Lib.hid (HK4.out.below b3); have HKW := Lib.hid (HKV.out.below b3); clear k0 k1 k2 k3 k4 k5 k6 k7 k8 kc b3)))
  have HLD := Lib.hid (fun (V : World) (hV : Below W2.heap.size W2 V) => And.intro (load_blk (P := Try.prog) (ty := 25) (HK5.out.below hV) Try.underlying25 rfl bwInfo) (And.intro (load_blk (P := Try.prog) (ty := 25) (HKW.out.below hV) Try.underlying25 rfl bwInfo) (And.intro (E1 V) (And.intro (E2 V) (And.intro (fun x y => G1 x y V) (And.intro (fun x y => G2 x y V) (And.intro ((HK5.out.below hV).cell 1) (And.intro ((HK5.out.below hV).cell 2) (And.intro ((HK5.out.below hV).cell 7) (And.intro ((HK5.out.below hV).cell 8) (And.intro ((HKW.out.below hV).cell 1) (And.intro ((HKW.out.below hV).cell 2) (And.intro ((HKW.out.below hV).cell 7) (And.intro ((HKW.out.below hV).cell 8) (And.intro (HK5.out.below hV).lt (HKW.out.below hV).lt)))))))))))))))
  have hG : Below W2.heap.size W2 W2.drew := (Below.refl _ _).drew
  refine wp_region_chain (fun V => Below W2.heap.size W2 V) [(0, false), (1, true), (2, false), (3, false), (5, false), (4, true), (6, true), (7, false), (8, false), (9, false), (10, false), (12, false), (11, true), (13, true), (14, false), (15, false), (16, false), (17, false), (18, false), (19, false), (20, false), (21, false), (22, false), (23, false), (24, false), (25, false), (26, false), (27, false), (28, false), (29, false), (30, false), (31, false), (34, false), (32, true), (33, true), (35, true), (36, false), (37, false), (38, false)] (by kernel_rfl) (by kernel_rfl) hG ?_
  repeat (first | (refine ChainL.skip (o := ?_) ?_ ?_ ?_; rotate_left; (focus (first | (simp only [List.getElem?_toArray, List.getElem?_cons_succ, List.getElem?_cons_zero]; with_reducible rfl) | (simp only [List.getElem?_toArray, List.getElem?_cons_zero]; with_reducible rfl))); (focus rfl); simp only [Act.put, List.setIfInBounds_toArray, List.set_cons_zero, List.set_cons_succ]) | (refine ChainL.val (o := ?_) (v := ?_) ?_ ?_ ?_ ?_ ?_; rotate_left 2; (focus (first | (simp only [List.getElem?_toArray, List.getElem?_cons_succ, List.getElem?_cons_zero]; with_reducible rfl) | (simp only [List.getElem?_toArray, List.getElem?_cons_zero]; with_reducible rfl))); (focus (intro _ _ h; cases h)); (focus rfl); (focus (intro w' hJ; obtain ⟨LD, LE, e1, e2, g1, g2, e3, e4, e5, e6, e7, e8, e9, e10, l1, l2⟩ := HLD.out _ hJ; first | (have H := fun ρ o x => @exec_load _ ρ o _ _ x _ _ LD; refine H _ _ ?_ ?_ ?_; rotate_left; (focus rfl); (focus rfl)) | (have H := fun ρ o x => @exec_load _ ρ o _ _ x _ _ LE; refine H _ _ ?_ ?_ ?_; rotate_left; (focus rfl); (focus rfl)) | (go_simp <;> with_reducible rfl))); simp only [Act.put, List.setIfInBounds_toArray, List.set_cons_zero, List.set_cons_succ]))
  refine ChainL.call (o := ?_) (f := ?_) (args := ?_) ?_ ?_ ?_ ?_
  rotate_left 3
  (focus (first | (simp only [List.getElem?_toArray, List.getElem?_cons_succ, List.getElem?_cons_zero]; with_reducible rfl) | (simp only [List.getElem?_toArray, List.getElem?_cons_zero]; with_reducible rfl)))
  (focus rfl)
  (focus (go_simp; (constructor <;> with_reducible rfl)))
  with_reducible refine (CMT _).mono ?_
  rintro e wc1 ⟨rfl, bc1⟩
  have hG1 := hG.trans (bc1.mono hG.size)
  refine ⟨_, rfl, hG1, ?_⟩
  simp only [Act.put, List.setIfInBounds_toArray, List.set_cons_zero, List.set_cons_succ]
  repeat (first | (refine ChainL.skip (o := ?_) ?_ ?_ ?_; rotate_left; (focus (first | (simp only [List.getElem?_toArray, List.getElem?_cons_succ, List.getElem?_cons_zero]; with_reducible rfl) | (simp only [List.getElem?_toArray, List.getElem?_cons_zero]; with_reducible rfl))); (focus rfl); simp only [Act.put, List.setIfInBounds_toArray, List.set_cons_zero, List.set_cons_succ]) | (refine ChainL.val (o := ?_) (v := ?_) ?_ ?_ ?_ ?_ ?_; rotate_left 2; (focus (first | (simp only [List.getElem?_toArray, List.getElem?_cons_succ, List.getElem?_cons_zero]; with_reducible rfl) | (simp only [List.getElem?_toArray, List.getElem?_cons_zero]; with_reducible rfl))); (focus (intro _ _ h; cases h)); (focus rfl); (focus (intro w' hJ; obtain ⟨LD, LE, e1, e2, g1, g2, e3, e4, e5, e6, e7, e8, e9, e10, l1, l2⟩ := HLD.out _ hJ; first | (have H := fun ρ o x => @exec_load _ ρ o _ _ x _ _ LD; refine H _ _ ?_ ?_ ?_; rotate_left; (focus rfl); (focus rfl)) | (have H := fun ρ o x => @exec_load _ ρ o _ _ x _ _ LE; refine H _ _ ?_ ?_ ?_; rotate_left; (focus rfl); (focus rfl)) | (go_simp <;> with_reducible rfl))); simp only [Act.put, List.setIfInBounds_toArray, List.set_cons_zero, List.set_cons_succ]))
  refine ChainL.call (o := ?_) (f := ?_) (args := ?_) ?_ ?_ ?_ ?_
  rotate_left 3
  (focus (first | (simp only [List.getElem?_toArray, List.getElem?_cons_succ, List.getElem?_cons_zero]; with_reducible rfl) | (simp only [List.getElem?_toArray, List.getElem?_cons_zero]; with_reducible rfl)))
  (focus rfl)
  (focus (go_simp; (constructor <;> with_reducible rfl)))
  with_reducible refine (CBT _).mono ?_
  rintro e wc2 ⟨rfl, bc2⟩
  have hG2 := hG1.trans (bc2.mono hG1.size)
  refine ⟨_, rfl, hG2, ?_⟩
  simp only [Act.put, List.setIfInBounds_toArray, List.set_cons_zero, List.set_cons_succ]
  refine ChainL.call (o := ?_) (f := ?_) (args := ?_) ?_ ?_ ?_ ?_
  rotate_left 3
  (focus (first | (simp only [List.getElem?_toArray, List.getElem?_cons_succ, List.getElem?_cons_zero]; with_reducible rfl) | (simp only [List.getElem?_toArray, List.getElem?_cons_zero]; with_reducible rfl)))
  (focus rfl)
  (focus (go_simp; (constructor <;> with_reducible rfl)))
  with_reducible refine (CRB _).mono ?_
  rintro e wc3 ⟨rfl, bc3⟩
  have hG3 := hG2.trans (bc3.mono hG2.size)
  refine ⟨_, rfl, hG3, ?_⟩
  simp only [Act.put, List.setIfInBounds_toArray, List.set_cons_zero, List.set_cons_succ]
  repeat (first | (refine ChainL.skip (o := ?_) ?_ ?_ ?_; rotate_left; (focus (first | (simp only [List.getElem?_toArray, List.getElem?_cons_succ, List.getElem?_cons_zero]; with_reducible rfl) | (simp only [List.getElem?_toArray, List.getElem?_cons_zero]; with_reducible rfl))); (focus rfl); simp only [Act.put, List.setIfInBounds_toArray, List.set_cons_zero, List.set_cons_succ]) | (refine ChainL.val (o := ?_) (v := ?_) ?_ ?_ ?_ ?_ ?_; rotate_left 2; (focus (first | (simp only [List.getElem?_toArray, List.getElem?_cons_succ, List.getElem?_cons_zero]; with_reducible rfl) | (simp only [List.getElem?_toArray, List.getElem?_cons_zero]; with_reducible rfl))); (focus (intro _ _ h; cases h)); (focus rfl); (focus (intro w' hJ; obtain ⟨LD, LE, e1, e2, g1, g2, e3, e4, e5, e6, e7, e8, e9, e10, l1, l2⟩ := HLD.out _ hJ; first | (have H := fun ρ o x => @exec_load _ ρ o _ _ x _ _ LD; refine H _ _ ?_ ?_ ?_; rotate_left; (focus rfl); (focus rfl)) | (have H := fun ρ o x => @exec_load _ ρ o _ _ x _ _ LE; refine H _ _ ?_ ?_ ?_; rotate_left; (focus rfl); (focus rfl)) | (go_simp <;> with_reducible rfl))); simp only [Act.put, List.setIfInBounds_toArray, List.set_cons_zero, List.set_cons_succ]))
  refine ChainL.call (o := ?_) (f := ?_) (args := ?_) ?_ ?_ ?_ ?_
  rotate_left 3
  (focus (first | (simp only [List.getElem?_toArray, List.getElem?_cons_succ, List.getElem?_cons_zero]; with_reducible rfl) | (simp only [List.getElem?_toArray, List.getElem?_cons_zero]; with_reducible rfl)))
  (focus rfl)
  (focus (go_simp; (constructor <;> with_reducible rfl)))
  with_reducible refine (CPT _).mono ?_
  rintro e wc4 ⟨rfl, bc4⟩
  have hG4 := hG3.trans (bc4.mono hG3.size)
  refine ⟨_, rfl, hG4, ?_⟩
  simp only [Act.put, List.setIfInBounds_toArray, List.set_cons_zero, List.set_cons_succ]
  refine ChainL.call (o := ?_) (f := ?_) (args := ?_) ?_ ?_ ?_ ?_
  rotate_left 3
  (focus (first | (simp only [List.getElem?_toArray, List.getElem?_cons_succ, List.getElem?_cons_zero]; with_reducible rfl) | (simp only [List.getElem?_toArray, List.getElem?_cons_zero]; with_reducible rfl)))
  (focus rfl)
  (focus (go_simp; (constructor <;> with_reducible rfl)))
  with_reducible refine (CRP _).mono ?_
  rintro e wc5 ⟨rfl, bc5⟩
  have hG5 := hG4.trans (bc5.mono hG4.size)
  refine ⟨_, rfl, hG5, ?_⟩
  simp only [Act.put, List.setIfInBounds_toArray, List.set_cons_zero, List.set_cons_succ]
  repeat (first | (refine ChainL.skip (o := ?_) ?_ ?_ ?_; rotate_left; (focus (first | (simp only [List.getElem?_toArray, List.getElem?_cons_succ, List.getElem?_cons_zero]; with_reducible rfl) | (simp only [List.getElem?_toArray, List.getElem?_cons_zero]; with_reducible rfl))); (focus rfl); simp only [Act.put, List.setIfInBounds_toArray, List.set_cons_zero, List.set_cons_succ]) | (refine ChainL.val (o := ?_) (v := ?_) ?_ ?_ ?_ ?_ ?_; rotate_left 2; (focus (first | (simp only [List.getElem?_toArray, List.getElem?_cons_succ, List.getElem?_cons_zero]; with_reducible rfl) | (simp only [List.getElem?_toArray, List.getElem?_cons_zero]; with_reducible rfl))); (focus (intro _ _ h; cases h)); (focus rfl); (focus (intro w' hJ; obtain ⟨LD, LE, e1, e2, g1, g2, e3, e4, e5, e6, e7, e8, e9, e10, l1, l2⟩ := HLD.out _ hJ; first | (have H := fun ρ o x => @exec_load _ ρ o _ _ x _ _ LD; refine H _ _ ?_ ?_ ?_; rotate_left; (focus rfl); (focus rfl)) | (have H := fun ρ o x => @exec_load _ ρ o _ _ x _ _ LE; refine H _ _ ?_ ?_ ?_; rotate_left; (focus rfl); (focus rfl)) | (go_simp <;> with_reducible rfl))); simp only [Act.put, List.setIfInBounds_toArray, List.set_cons_zero, List.set_cons_succ]))
  refine ChainL.call (o := ?_) (f := ?_) (args := ?_) ?_ ?_ ?_ ?_
  rotate_left 3
  (focus (first | (simp only [List.getElem?_toArray, List.getElem?_cons_succ, List.getElem?_cons_zero]; with_reducible rfl) | (simp only [List.getElem?_toArray, List.getElem?_cons_zero]; with_reducible rfl)))
  (focus rfl)
  (focus (go_simp; (constructor <;> with_reducible rfl)))
  with_reducible refine (CTT _).mono ?_
  rintro e wc6 ⟨rfl, bc6⟩
  have hG6 := hG5.trans (bc6.mono hG5.size)
  refine ⟨_, rfl, hG6, ?_⟩
  simp only [Act.put, List.setIfInBounds_toArray, List.set_cons_zero, List.set_cons_succ]
  refine ChainL.call (o := ?_) (f := ?_) (args := ?_) ?_ ?_ ?_ ?_
  rotate_left 3
  (focus (first | (simp only [List.getElem?_toArray, List.getElem?_cons_succ, List.getElem?_cons_zero]; with_reducible rfl) | (simp only [List.getElem?_toArray, List.getElem?_cons_zero]; with_reducible rfl)))
  (focus rfl)
  (focus (go_simp; (constructor <;> with_reducible rfl)))
  with_reducible refine (CBU _).mono ?_
  rintro e wc7 ⟨rfl, bc7⟩
  have hG7 := hG6.trans (bc7.mono hG6.size)
  refine ⟨_, rfl, hG7, ?_⟩
  simp only [Act.put, List.setIfInBounds_toArray, List.set_cons_zero, List.set_cons_succ]
  refine ChainL.call (o := ?_) (f := ?_) (args := ?_) ?_ ?_ ?_ ?_
  rotate_left 3
  (focus (first | (simp only [List.getElem?_toArray, List.getElem?_cons_succ, List.getElem?_cons_zero]; with_reducible rfl) | (simp only [List.getElem?_toArray, List.getElem?_cons_zero]; with_reducible rfl)))
  (focus rfl)
  (focus (go_simp; (constructor <;> with_reducible rfl)))
  with_reducible refine (CRB _).mono ?_
  rintro e wc8 ⟨rfl, bc8⟩
  have hG8 := hG7.trans (bc8.mono hG7.size)
  refine ⟨_, rfl, hG8, ?_⟩
  simp only [Act.put, List.setIfInBounds_toArray, List.set_cons_zero, List.set_cons_succ]
  repeat (first | (refine ChainL.skip (o := ?_) ?_ ?_ ?_; rotate_left; (focus (first | (simp only [List.getElem?_toArray, List.getElem?_cons_succ, List.getElem?_cons_zero]; with_reducible rfl) | (simp only [List.getElem?_toArray, List.getElem?_cons_zero]; with_reducible rfl))); (focus rfl); simp only [Act.put, List.setIfInBounds_toArray, List.set_cons_zero, List.set_cons_succ]) | (refine ChainL.val (o := ?_) (v := ?_) ?_ ?_ ?_ ?_ ?_; rotate_left 2; (focus (first | (simp only [List.getElem?_toArray, List.getElem?_cons_succ, List.getElem?_cons_zero]; with_reducible rfl) | (simp only [List.getElem?_toArray, List.getElem?_cons_zero]; with_reducible rfl))); (focus (intro _ _ h; cases h)); (focus rfl); (focus (intro w' hJ; obtain ⟨LD, LE, e1, e2, g1, g2, e3, e4, e5, e6, e7, e8, e9, e10, l1, l2⟩ := HLD.out _ hJ; first | (have H := fun ρ o x => @exec_load _ ρ o _ _ x _ _ LD; refine H _ _ ?_ ?_ ?_; rotate_left; (focus rfl); (focus rfl)) | (have H := fun ρ o x => @exec_load _ ρ o _ _ x _ _ LE; refine H _ _ ?_ ?_ ?_; rotate_left; (focus rfl); (focus rfl)) | (go_simp <;> with_reducible rfl))); simp only [Act.put, List.setIfInBounds_toArray, List.set_cons_zero, List.set_cons_succ]))
  refine ChainL.nil ?_
  go_wp2
  go_ret
  exact ⟨rfl, hK.trans (hG8.mono hK.size)⟩
theorem walk (c : Bw) (w : World) : Calls Try.prog 7 #[bwV c] w fun e w' => e = .returned (.bool true) ∧ Below w.heap.size w w' := by
  cases hm : mayW c
  · exact walk_false c w hm
  · exact walk_true c w hm

set_option linter.unusedVariables false in
set_option maxRecDepth 100000 in
theorem lifted (os : Os) (started : os.Started) (H : Type) (enc : TypeId × Value → H) :
    ReturnsInHanded {} Try.checked os 7 .any (Rows.curveTurnsSpec.pre6 enc Try.prog Try.f7 Rows.curveTurnsRow.domain false) (Rows.curveTurnsSpec.post enc Try.prog Try.f7 false true false false) := by
  refine returnsInHanded_of_change (C := Try.checked) Try.own started (by kernel_rfl) Try.func7
    (ChangeSpec.witness6 (enc := enc) (C := Try.checked) false ⟨#[], #[.agg #[.int .i64 0, .int .i64 0, .int .i64 0, .int .i64 0, .int .i64 0, .int .i64 0, .int .i64 0, .int .i64 0, .int .i64 0]], []⟩ 8 (by kernel_rfl) (by kernel_rfl) (by kernel_rfl) (by kernel_rfl)) ?_
  intro W base args ds gs before hval0 hW hcnd _
  have hval : ∀ (j : Nat) t v, Try.f7.params[j]? = some t → args[j]? = some v → Value.okWide Try.prog W .any base t v := hval0
  have hW' := hW
  obtain ⟨p, q, hA0, hV, rfl, hfz, hnd⟩ := hW
  have hA : DataW.TrodAll enc Try.prog W 0 (fun _ => true) true Try.f7.params.toList args.toList ds p := hA0
  rw [Try.params7] at hA hval
  obtain ⟨v0, vs0, d0, ds0, p0, q0, hargs, rfl, rfl, h0, r0⟩ := trodAll_cons hA
  obtain ⟨rfl, rfl, rfl⟩ := trodAll_nil r0
  obtain rfl : args = #[v0] := by cases args; simp_all
  obtain ⟨rfl, rfl⟩ := trodVars_none hV
  obtain ⟨c0, rfl⟩ := open_bow (hval 0 25 v0 rfl rfl) h0
  clear hA0 hval0
  simp only [List.append_nil] at hW'
  refine (walk c0 W).mono fun e W' ⟨he, hg⟩ => ?_
  subst he
  exact ⟨_, rfl, law_post Try.laidOut rfl Try.underlying4 (by kernel_rfl) rfl rfl rfl rfl hW' hg⟩

theorem over : Rows.curveTurnsRow.holds Try.pinned (OpenSpec.ofChange Rows.curveTurnsSpec) :=
  OpenClaim.holds_of_wide 7 Try.f7 rfl rfl rfl rfl rfl rfl rfl ⟨rfl, rfl, rfl, rfl, rfl⟩ rfl rfl rfl rfl rfl (by kernel_rfl) Try.func7 (by kernel_rfl)
    (of_decide_eq_true (by kernel_rfl)) (by unfold Func.isWrapper; first | (rw [if_pos (by decide +kernel)]; kernel_rfl) | (rw [if_neg (by decide +kernel)]; exact ⟨rfl, rfl⟩))
    (fun os started H enc _ => lifted os started H enc)

theorem proved : Rows.CurveTurnsSaid :=
  over

end Go.Proofs.Ytngfillgndhfbaa.curveTurns
