/- Part 13 of the proof: Hr3G. -/
import Derived.Test.YtbomgaacahaofaaM0HeadsGlyphs

namespace Go.Proofs.Ytbomgaacahaofaa
open Go Go.RowKit

set_option linter.unusedVariables false
set_option linter.unusedSimpArgs false
set_option maxRecDepth 100000 in
set_option maxHeartbeats 8000000 in
theorem rGlyphs_a (A : Option Addr) (c : Nat) (E : List Value) (w : World) (hE : Lists w w.heap.size A E) (h8 : Bytes8 E) (hc : E.length ≤ c) (hc2 : c ≤ 9223372036854775807) (hm : E.length ≤ 140737488355328) (c0 : rdk E 3 0 = 65536) (hn : E.length < 32) : Calls Try.prog 16 #[.slice A E.length c] w fun e w' => e = .returned (.tuple #[.agg #[.int .i64 0, .bool false], .bool false]) ∧ Below w.heap.size w w' := by
  obtain ⟨W0, hW0⟩ : ∃ W0, W0 = ((w.alloc (.cells #[.int .i64 0, .bool false] 40)).alloc (.cells #[.slice A E.length c, .int .i64 0, .bool false] 70)) := ⟨_, rfl⟩
  have HB0 : Below w.heap.size w W0 := by rw [hW0]; exact below_al (below_al (Below.refl _ _) _) _
  have R0 : Blk W0 w.heap.size 40 #[.int .i64 0, .bool false] := by rw [hW0]; exact (Blk.at rfl).al _
  have h0 : RR W0 w.heap.size (w.heap.size + 1) E 0 := .inl ⟨Nat.zero_le _, A, c, by rw [hW0]; exact Blk.at (by simp), hE.below HB0, h8, Nat.zero_le _, hc, hc2, hm, by omega⟩
  clear hE h8 hc hm
  subst hW0
  have d0 : decide (rdk E 3 0 = 65536) = true := decide_eq_true c0; have e0 : ((rdk E 3 0) == 65536) = true := beq_iff_eq.2 c0
  go_enter Try.func16, Try.ntmps16
  go_wp2_with (first | (go_at_call 31; ((with_reducible refine (rr_k3 w.heap.size (w.heap.size + 1) E 0 _ h0).mono ?_); rintro e w1 ⟨rfl, hr1, o1⟩; have R1 := R0.only o1 (by simp); have B1 : Below w.heap.size w w1 := Below.trans HB0 (o1.to_below (Below.size HB0) (by simp)))) | (go_at_call 31; ((with_reducible refine (rr_k1 w.heap.size (w.heap.size + 1) E 4 _ hr1).mono ?_); rintro e w2 ⟨rfl, hr2, o2⟩; have R2 := R1.only o2 (by simp); have B2 : Below w.heap.size w w2 := Below.trans B1 (o2.to_below (Below.size B1) (by simp)); have al2 : Below w2.heap.size w2 (w2.alloc (.cells #[.int .i64 (rdk E 1 4), .bool true] 40)) := (Below.refl _ _).alloc (Nat.le_refl _) _; have hr2a := hr2.below al2; have R2a := R2.below al2; have X2a : Blk (w2.alloc (.cells #[.int .i64 (rdk E 1 4), .bool true] 40)) w2.heap.size 40 #[.int .i64 (rdk E 1 4), .bool true] := Blk.new _ _ _; have nX : w2.heap.size ∉ [(w.heap.size + 1)] := (by have := hr2.low.2; simp; omega); have nXR : w2.heap.size ≠ w.heap.size := (by have := hr2.low.2; omega); have bX : w.heap.size ≤ w2.heap.size := (by have := hr2.low.2; omega); have B2a := B2.alloc (Below.size B2) (.cells #[.int .i64 (rdk E 1 4), .bool true] 40))) | (refine wpList_store_row rfl 40 (.tmp 6) (.tmp 16) (by with_reducible rfl) w2.heap.size #[.int .i64 (rdk E 1 4), .bool true] (by rfl) (by rfl) 40 #[.int .i64 0, .bool false] (Blk.new _ _ _) sizG rfl (by simp [Value.oneCell']) ?_; rw [World.setRow_alloc_new]) | (go_at_call 32; ((with_reducible refine (rr_take26 w.heap.size (w.heap.size + 1) E 6 _ hr2a).mono ?_); rintro e w3 ⟨_, rfl, hr3, o3⟩; have R3 := R2a.only o3 (by simp); have X3 : Blk w3 w2.heap.size 40 #[.int .i64 (rdk E 1 4), .bool true] := Blk.only X2a o3 nX; have B3 : Below w.heap.size w w3 := Below.trans B2a (o3.to_below (Below.size B2a) (by simp)); have fa : w3.cell? ⟨(w.heap.size + 1), 2, none⟩ = some (.bool true) := (by have h := hr3.flag; rwa [decide_eq_true (by omega)] at h); have fb := hr3.flag; rw [decide_eq_true (by omega)] at fb; have ya0 := X3.cell 0; have yb0 := X3.cell 0; have ya1 := X3.cell 1; have yb1 := X3.cell 1; rw [show (#[.int .i64 (rdk E 1 4), .bool true] : Array Value)[0]? = some (.int .i64 (rdk E 1 4)) from rfl] at yb0; rw [show (#[.int .i64 (rdk E 1 4), .bool true] : Array Value)[1]? = some (.bool true) from rfl] at yb1)) | (refine wpList_build_as rfl 40 (by with_reducible rfl) zG builtG ?_) | (refine wpList_store_row rfl 40 (.tmp 2) (.tmp 39) (by with_reducible rfl) w.heap.size #[.int .i64 0, .bool false] (by rfl) (by rfl) 40 #[.int .i64 0, .bool false] R3 sizG rfl (by simp [Value.oneCell']) ?_))
  refine bodyPost_ret (v := .tuple #[.agg #[.int .i64 0, .bool false], .bool false]) ?_ rfl ?_
  · rw [results_cell_tmp rfl]
    simp [asAddr, Result.andThen, run_loadVar_row _ w.heap.size 40 40 #[.int .i64 0, .bool false] (0, 0) _ (Blk.row R3 #[.int .i64 0, .bool false]) Try.underlying40 rfl sizG]
  exact ⟨rfl, below_setRow B3 (Nat.le_refl _) _⟩
set_option maxRecDepth 100000 in
set_option maxHeartbeats 8000000 in
theorem rGlyphs_b (A : Option Addr) (c : Nat) (E : List Value) (w : World) (hE : Lists w w.heap.size A E) (h8 : Bytes8 E) (hc : E.length ≤ c) (hc2 : c ≤ 9223372036854775807) (hm : E.length ≤ 140737488355328) (c0 : rdk E 3 0 = 65536) (hn : ¬ E.length < 32) (hmay : mayG (rdk E 1 4) = false) : Calls Try.prog 16 #[.slice A E.length c] w fun e w' => e = .returned (.tuple #[.agg #[.int .i64 0, .bool false], .bool false]) ∧ Below w.heap.size w w' := by
  obtain ⟨W0, hW0⟩ : ∃ W0, W0 = ((w.alloc (.cells #[.int .i64 0, .bool false] 40)).alloc (.cells #[.slice A E.length c, .int .i64 0, .bool false] 70)) := ⟨_, rfl⟩
  have HB0 : Below w.heap.size w W0 := by rw [hW0]; exact below_al (below_al (Below.refl _ _) _) _
  have R0 : Blk W0 w.heap.size 40 #[.int .i64 0, .bool false] := by rw [hW0]; exact (Blk.at rfl).al _
  have h0 : RR W0 w.heap.size (w.heap.size + 1) E 0 := .inl ⟨Nat.zero_le _, A, c, by rw [hW0]; exact Blk.at (by simp), hE.below HB0, h8, Nat.zero_le _, hc, hc2, hm, by omega⟩
  clear hE h8 hc hm
  subst hW0
  have d0 : decide (rdk E 3 0 = 65536) = true := decide_eq_true c0; have e0 : ((rdk E 3 0) == 65536) = true := beq_iff_eq.2 c0
  have CM := fun W => rMayGlyphs (rdk E 1 4) true W
  rw [hmay] at CM
  clear hmay
  go_enter Try.func16, Try.ntmps16
  go_wp2_with (first | (go_at_call 31; ((with_reducible refine (rr_k3 w.heap.size (w.heap.size + 1) E 0 _ h0).mono ?_); rintro e w1 ⟨rfl, hr1, o1⟩; have R1 := R0.only o1 (by simp); have B1 : Below w.heap.size w w1 := Below.trans HB0 (o1.to_below (Below.size HB0) (by simp)))) | (go_at_call 31; ((with_reducible refine (rr_k1 w.heap.size (w.heap.size + 1) E 4 _ hr1).mono ?_); rintro e w2 ⟨rfl, hr2, o2⟩; have R2 := R1.only o2 (by simp); have B2 : Below w.heap.size w w2 := Below.trans B1 (o2.to_below (Below.size B1) (by simp)); have al2 : Below w2.heap.size w2 (w2.alloc (.cells #[.int .i64 (rdk E 1 4), .bool true] 40)) := (Below.refl _ _).alloc (Nat.le_refl _) _; have hr2a := hr2.below al2; have R2a := R2.below al2; have X2a : Blk (w2.alloc (.cells #[.int .i64 (rdk E 1 4), .bool true] 40)) w2.heap.size 40 #[.int .i64 (rdk E 1 4), .bool true] := Blk.new _ _ _; have nX : w2.heap.size ∉ [(w.heap.size + 1)] := (by have := hr2.low.2; simp; omega); have nXR : w2.heap.size ≠ w.heap.size := (by have := hr2.low.2; omega); have bX : w.heap.size ≤ w2.heap.size := (by have := hr2.low.2; omega); have B2a := B2.alloc (Below.size B2) (.cells #[.int .i64 (rdk E 1 4), .bool true] 40))) | (refine wpList_store_row rfl 40 (.tmp 6) (.tmp 16) (by with_reducible rfl) w2.heap.size #[.int .i64 (rdk E 1 4), .bool true] (by rfl) (by rfl) 40 #[.int .i64 0, .bool false] (Blk.new _ _ _) sizG rfl (by simp [Value.oneCell']) ?_; rw [World.setRow_alloc_new]) | (go_at_call 32; ((with_reducible refine (rr_take26 w.heap.size (w.heap.size + 1) E 6 _ hr2a).mono ?_); rintro e w3 ⟨_, rfl, hr3, o3⟩; have R3 := R2a.only o3 (by simp); have X3 : Blk w3 w2.heap.size 40 #[.int .i64 (rdk E 1 4), .bool true] := Blk.only X2a o3 nX; have B3 : Below w.heap.size w w3 := Below.trans B2a (o3.to_below (Below.size B2a) (by simp)); have fa : w3.cell? ⟨(w.heap.size + 1), 2, none⟩ = some (.bool false) := (by have h := hr3.flag; rwa [decide_eq_false (by omega)] at h); have fb := hr3.flag; rw [decide_eq_false (by omega)] at fb; have ya0 := X3.cell 0; have yb0 := X3.cell 0; have ya1 := X3.cell 1; have yb1 := X3.cell 1; rw [show (#[.int .i64 (rdk E 1 4), .bool true] : Array Value)[0]? = some (.int .i64 (rdk E 1 4)) from rfl] at yb0; rw [show (#[.int .i64 (rdk E 1 4), .bool true] : Array Value)[1]? = some (.bool true) from rfl] at yb1)) | (go_at_call 17; ((with_reducible refine (CM _).mono ?_); rintro e wM ⟨rfl, bM⟩; have RM := Blk.below R3 bM; have XM : Blk wM w2.heap.size 40 #[.int .i64 (rdk E 1 4), .bool true] := Blk.below X3 bM; have BM := Below.trans B3 (bM.mono (Below.size B3)))) | (refine wpList_build_as rfl 40 (by with_reducible rfl) zG builtG ?_) | (refine wpList_store_row rfl 40 (.tmp 2) (.tmp 39) (by with_reducible rfl) w.heap.size #[.int .i64 0, .bool false] (by rfl) (by rfl) 40 #[.int .i64 0, .bool false] RM sizG rfl (by simp [Value.oneCell']) ?_))
  refine bodyPost_ret (v := .tuple #[.agg #[.int .i64 0, .bool false], .bool false]) ?_ rfl ?_
  · rw [results_cell_tmp rfl]
    simp [asAddr, Result.andThen, run_loadVar_row _ w.heap.size 40 40 #[.int .i64 0, .bool false] (0, 0) _ (Blk.row RM #[.int .i64 0, .bool false]) Try.underlying40 rfl sizG]
  exact ⟨rfl, below_setRow BM (Nat.le_refl _) _⟩
set_option maxRecDepth 100000 in
set_option maxHeartbeats 8000000 in
theorem rGlyphs_c (A : Option Addr) (c : Nat) (E : List Value) (w : World) (hE : Lists w w.heap.size A E) (h8 : Bytes8 E) (hc : E.length ≤ c) (hc2 : c ≤ 9223372036854775807) (hm : E.length ≤ 140737488355328) (c0 : rdk E 3 0 = 65536) (hn : ¬ E.length < 32) (hmay : mayG (rdk E 1 4) = true) : Calls Try.prog 16 #[.slice A E.length c] w fun e w' => e = .returned (.tuple #[.agg #[.int .i64 (rdk E 1 4), .bool true], .bool true]) ∧ Below w.heap.size w w' := by
  obtain ⟨W0, hW0⟩ : ∃ W0, W0 = ((w.alloc (.cells #[.int .i64 0, .bool false] 40)).alloc (.cells #[.slice A E.length c, .int .i64 0, .bool false] 70)) := ⟨_, rfl⟩
  have HB0 : Below w.heap.size w W0 := by rw [hW0]; exact below_al (below_al (Below.refl _ _) _) _
  have R0 : Blk W0 w.heap.size 40 #[.int .i64 0, .bool false] := by rw [hW0]; exact (Blk.at rfl).al _
  have h0 : RR W0 w.heap.size (w.heap.size + 1) E 0 := .inl ⟨Nat.zero_le _, A, c, by rw [hW0]; exact Blk.at (by simp), hE.below HB0, h8, Nat.zero_le _, hc, hc2, hm, by omega⟩
  clear hE h8 hc hm
  subst hW0
  have d0 : decide (rdk E 3 0 = 65536) = true := decide_eq_true c0; have e0 : ((rdk E 3 0) == 65536) = true := beq_iff_eq.2 c0
  have CM := fun W => rMayGlyphs (rdk E 1 4) true W
  rw [hmay] at CM
  clear hmay
  go_enter Try.func16, Try.ntmps16
  go_wp2_with (first | (go_at_call 31; ((with_reducible refine (rr_k3 w.heap.size (w.heap.size + 1) E 0 _ h0).mono ?_); rintro e w1 ⟨rfl, hr1, o1⟩; have R1 := R0.only o1 (by simp); have B1 : Below w.heap.size w w1 := Below.trans HB0 (o1.to_below (Below.size HB0) (by simp)))) | (go_at_call 31; ((with_reducible refine (rr_k1 w.heap.size (w.heap.size + 1) E 4 _ hr1).mono ?_); rintro e w2 ⟨rfl, hr2, o2⟩; have R2 := R1.only o2 (by simp); have B2 : Below w.heap.size w w2 := Below.trans B1 (o2.to_below (Below.size B1) (by simp)); have al2 : Below w2.heap.size w2 (w2.alloc (.cells #[.int .i64 (rdk E 1 4), .bool true] 40)) := (Below.refl _ _).alloc (Nat.le_refl _) _; have hr2a := hr2.below al2; have R2a := R2.below al2; have X2a : Blk (w2.alloc (.cells #[.int .i64 (rdk E 1 4), .bool true] 40)) w2.heap.size 40 #[.int .i64 (rdk E 1 4), .bool true] := Blk.new _ _ _; have nX : w2.heap.size ∉ [(w.heap.size + 1)] := (by have := hr2.low.2; simp; omega); have nXR : w2.heap.size ≠ w.heap.size := (by have := hr2.low.2; omega); have bX : w.heap.size ≤ w2.heap.size := (by have := hr2.low.2; omega); have B2a := B2.alloc (Below.size B2) (.cells #[.int .i64 (rdk E 1 4), .bool true] 40))) | (refine wpList_store_row rfl 40 (.tmp 6) (.tmp 16) (by with_reducible rfl) w2.heap.size #[.int .i64 (rdk E 1 4), .bool true] (by rfl) (by rfl) 40 #[.int .i64 0, .bool false] (Blk.new _ _ _) sizG rfl (by simp [Value.oneCell']) ?_; rw [World.setRow_alloc_new]) | (go_at_call 32; ((with_reducible refine (rr_take26 w.heap.size (w.heap.size + 1) E 6 _ hr2a).mono ?_); rintro e w3 ⟨_, rfl, hr3, o3⟩; have R3 := R2a.only o3 (by simp); have X3 : Blk w3 w2.heap.size 40 #[.int .i64 (rdk E 1 4), .bool true] := Blk.only X2a o3 nX; have B3 : Below w.heap.size w w3 := Below.trans B2a (o3.to_below (Below.size B2a) (by simp)); have fa : w3.cell? ⟨(w.heap.size + 1), 2, none⟩ = some (.bool false) := (by have h := hr3.flag; rwa [decide_eq_false (by omega)] at h); have fb := hr3.flag; rw [decide_eq_false (by omega)] at fb; have ya0 := X3.cell 0; have yb0 := X3.cell 0; have ya1 := X3.cell 1; have yb1 := X3.cell 1; rw [show (#[.int .i64 (rdk E 1 4), .bool true] : Array Value)[0]? = some (.int .i64 (rdk E 1 4)) from rfl] at yb0; rw [show (#[.int .i64 (rdk E 1 4), .bool true] : Array Value)[1]? = some (.bool true) from rfl] at yb1)) | (go_at_call 17; ((with_reducible refine (CM _).mono ?_); rintro e wM ⟨rfl, bM⟩; have RM := Blk.below R3 bM; have XM : Blk wM w2.heap.size 40 #[.int .i64 (rdk E 1 4), .bool true] := Blk.below X3 bM; have BM := Below.trans B3 (bM.mono (Below.size B3)))) | (refine wpList_load_row rfl 40 (.tmp 6) (by with_reducible rfl) w2.heap.size (by rfl) 40 #[.int .i64 (rdk E 1 4), .bool true] (0, 0) _ XM Try.underlying40 rfl sizG ?_) | (refine wpList_store_row rfl 40 (.tmp 2) (.tmp 40) (by with_reducible rfl) w.heap.size #[.int .i64 (rdk E 1 4), .bool true] (by rfl) (by rfl) 40 #[.int .i64 0, .bool false] RM sizG rfl (by simp [Value.oneCell']) ?_))
  refine bodyPost_ret (v := .tuple #[.agg #[.int .i64 (rdk E 1 4), .bool true], .bool true]) ?_ rfl ?_
  · rw [results_cell_tmp rfl]
    simp [asAddr, Result.andThen, run_loadVar_row _ w.heap.size 40 40 #[.int .i64 (rdk E 1 4), .bool true] (0, 0) _ (Blk.row RM #[.int .i64 (rdk E 1 4), .bool true]) Try.underlying40 rfl sizG]
  exact ⟨rfl, below_setRow BM (Nat.le_refl _) _⟩
set_option maxRecDepth 100000 in
set_option maxHeartbeats 8000000 in
theorem rGlyphs_d (A : Option Addr) (c : Nat) (E : List Value) (w : World) (hE : Lists w w.heap.size A E) (h8 : Bytes8 E) (hc : E.length ≤ c) (hc2 : c ≤ 9223372036854775807) (hm : E.length ≤ 140737488355328) (c0 : ¬ rdk E 3 0 = 65536) (hn : E.length < 6) : Calls Try.prog 16 #[.slice A E.length c] w fun e w' => e = .returned (.tuple #[.agg #[.int .i64 0, .bool false], .bool false]) ∧ Below w.heap.size w w' := by
  obtain ⟨W0, hW0⟩ : ∃ W0, W0 = ((w.alloc (.cells #[.int .i64 0, .bool false] 40)).alloc (.cells #[.slice A E.length c, .int .i64 0, .bool false] 70)) := ⟨_, rfl⟩
  have HB0 : Below w.heap.size w W0 := by rw [hW0]; exact below_al (below_al (Below.refl _ _) _) _
  have R0 : Blk W0 w.heap.size 40 #[.int .i64 0, .bool false] := by rw [hW0]; exact (Blk.at rfl).al _
  have h0 : RR W0 w.heap.size (w.heap.size + 1) E 0 := .inl ⟨Nat.zero_le _, A, c, by rw [hW0]; exact Blk.at (by simp), hE.below HB0, h8, Nat.zero_le _, hc, hc2, hm, by omega⟩
  clear hE h8 hc hm
  subst hW0
  have d0 : decide (rdk E 3 0 = 65536) = false := decide_eq_false c0; have e0 : ((rdk E 3 0) == 65536) = false := beq_eq_false_iff_ne.2 c0
  go_enter Try.func16, Try.ntmps16
  go_wp2_with (first | (go_at_call 31; ((with_reducible refine (rr_k3 w.heap.size (w.heap.size + 1) E 0 _ h0).mono ?_); rintro e w1 ⟨rfl, hr1, o1⟩; have R1 := R0.only o1 (by simp); have B1 : Below w.heap.size w w1 := Below.trans HB0 (o1.to_below (Below.size HB0) (by simp)))) | (go_at_call 31; ((with_reducible refine (rr_k1 w.heap.size (w.heap.size + 1) E 4 _ hr1).mono ?_); rintro e w2 ⟨rfl, hr2, o2⟩; have R2 := R1.only o2 (by simp); have B2 : Below w.heap.size w w2 := Below.trans B1 (o2.to_below (Below.size B1) (by simp)); have al2 : Below w2.heap.size w2 (w2.alloc (.cells #[.int .i64 (rdk E 1 4), .bool false] 40)) := (Below.refl _ _).alloc (Nat.le_refl _) _; have hr2a := hr2.below al2; have R2a := R2.below al2; have X2a : Blk (w2.alloc (.cells #[.int .i64 (rdk E 1 4), .bool false] 40)) w2.heap.size 40 #[.int .i64 (rdk E 1 4), .bool false] := Blk.new _ _ _; have nX : w2.heap.size ∉ [(w.heap.size + 1)] := (by have := hr2.low.2; simp; omega); have nXR : w2.heap.size ≠ w.heap.size := (by have := hr2.low.2; omega); have bX : w.heap.size ≤ w2.heap.size := (by have := hr2.low.2; omega); have B2a := B2.alloc (Below.size B2) (.cells #[.int .i64 (rdk E 1 4), .bool false] 40); have fa := hr2.flag; have fb := hr2a.flag; rw [decide_eq_true (by omega)] at fa fb)) | (refine wpList_store_row rfl 40 (.tmp 6) (.tmp 16) (by with_reducible rfl) w2.heap.size #[.int .i64 (rdk E 1 4), .bool false] (by rfl) (by rfl) 40 #[.int .i64 0, .bool false] (Blk.new _ _ _) sizG rfl (by simp [Value.oneCell']) ?_; rw [World.setRow_alloc_new]) | (refine wpList_build_as rfl 40 (by with_reducible rfl) zG builtG ?_) | (refine wpList_store_row rfl 40 (.tmp 2) (.tmp 39) (by with_reducible rfl) w.heap.size #[.int .i64 0, .bool false] (by rfl) (by rfl) 40 #[.int .i64 0, .bool false] R2a sizG rfl (by simp [Value.oneCell']) ?_))
  refine bodyPost_ret (v := .tuple #[.agg #[.int .i64 0, .bool false], .bool false]) ?_ rfl ?_
  · rw [results_cell_tmp rfl]
    simp [asAddr, Result.andThen, run_loadVar_row _ w.heap.size 40 40 #[.int .i64 0, .bool false] (0, 0) _ (Blk.row R2a #[.int .i64 0, .bool false]) Try.underlying40 rfl sizG]
  exact ⟨rfl, below_setRow B2a (Nat.le_refl _) _⟩
set_option maxRecDepth 100000 in
set_option maxHeartbeats 8000000 in
theorem rGlyphs_e (A : Option Addr) (c : Nat) (E : List Value) (w : World) (hE : Lists w w.heap.size A E) (h8 : Bytes8 E) (hc : E.length ≤ c) (hc2 : c ≤ 9223372036854775807) (hm : E.length ≤ 140737488355328) (c0 : ¬ rdk E 3 0 = 65536) (hn : ¬ E.length < 6) (c1 : ¬ rdk E 3 0 = 20480) : Calls Try.prog 16 #[.slice A E.length c] w fun e w' => e = .returned (.tuple #[.agg #[.int .i64 0, .bool false], .bool false]) ∧ Below w.heap.size w w' := by
  obtain ⟨W0, hW0⟩ : ∃ W0, W0 = ((w.alloc (.cells #[.int .i64 0, .bool false] 40)).alloc (.cells #[.slice A E.length c, .int .i64 0, .bool false] 70)) := ⟨_, rfl⟩
  have HB0 : Below w.heap.size w W0 := by rw [hW0]; exact below_al (below_al (Below.refl _ _) _) _
  have R0 : Blk W0 w.heap.size 40 #[.int .i64 0, .bool false] := by rw [hW0]; exact (Blk.at rfl).al _
  have h0 : RR W0 w.heap.size (w.heap.size + 1) E 0 := .inl ⟨Nat.zero_le _, A, c, by rw [hW0]; exact Blk.at (by simp), hE.below HB0, h8, Nat.zero_le _, hc, hc2, hm, by omega⟩
  clear hE h8 hc hm
  subst hW0
  have d0 : decide (rdk E 3 0 = 65536) = false := decide_eq_false c0; have e0 : ((rdk E 3 0) == 65536) = false := beq_eq_false_iff_ne.2 c0
  have d1 : decide (rdk E 3 0 = 20480) = false := decide_eq_false c1; have e1 : ((rdk E 3 0) == 20480) = false := beq_eq_false_iff_ne.2 c1
  go_enter Try.func16, Try.ntmps16
  go_wp2_with (first | (go_at_call 31; ((with_reducible refine (rr_k3 w.heap.size (w.heap.size + 1) E 0 _ h0).mono ?_); rintro e w1 ⟨rfl, hr1, o1⟩; have R1 := R0.only o1 (by simp); have B1 : Below w.heap.size w w1 := Below.trans HB0 (o1.to_below (Below.size HB0) (by simp)))) | (go_at_call 31; ((with_reducible refine (rr_k1 w.heap.size (w.heap.size + 1) E 4 _ hr1).mono ?_); rintro e w2 ⟨rfl, hr2, o2⟩; have R2 := R1.only o2 (by simp); have B2 : Below w.heap.size w w2 := Below.trans B1 (o2.to_below (Below.size B1) (by simp)); have al2 : Below w2.heap.size w2 (w2.alloc (.cells #[.int .i64 (rdk E 1 4), .bool false] 40)) := (Below.refl _ _).alloc (Nat.le_refl _) _; have hr2a := hr2.below al2; have R2a := R2.below al2; have X2a : Blk (w2.alloc (.cells #[.int .i64 (rdk E 1 4), .bool false] 40)) w2.heap.size 40 #[.int .i64 (rdk E 1 4), .bool false] := Blk.new _ _ _; have nX : w2.heap.size ∉ [(w.heap.size + 1)] := (by have := hr2.low.2; simp; omega); have nXR : w2.heap.size ≠ w.heap.size := (by have := hr2.low.2; omega); have bX : w.heap.size ≤ w2.heap.size := (by have := hr2.low.2; omega); have B2a := B2.alloc (Below.size B2) (.cells #[.int .i64 (rdk E 1 4), .bool false] 40); have fa := hr2.flag; have fb := hr2a.flag; rw [decide_eq_false (by omega)] at fa fb)) | (refine wpList_store_row rfl 40 (.tmp 6) (.tmp 16) (by with_reducible rfl) w2.heap.size #[.int .i64 (rdk E 1 4), .bool false] (by rfl) (by rfl) 40 #[.int .i64 0, .bool false] (Blk.new _ _ _) sizG rfl (by simp [Value.oneCell']) ?_; rw [World.setRow_alloc_new]) | (refine wpList_build_as rfl 40 (by with_reducible rfl) zG builtG ?_) | (refine wpList_store_row rfl 40 (.tmp 2) (.tmp 39) (by with_reducible rfl) w.heap.size #[.int .i64 0, .bool false] (by rfl) (by rfl) 40 #[.int .i64 0, .bool false] R2a sizG rfl (by simp [Value.oneCell']) ?_))
  refine bodyPost_ret (v := .tuple #[.agg #[.int .i64 0, .bool false], .bool false]) ?_ rfl ?_
  · rw [results_cell_tmp rfl]
    simp [asAddr, Result.andThen, run_loadVar_row _ w.heap.size 40 40 #[.int .i64 0, .bool false] (0, 0) _ (Blk.row R2a #[.int .i64 0, .bool false]) Try.underlying40 rfl sizG]
  exact ⟨rfl, below_setRow B2a (Nat.le_refl _) _⟩
set_option maxRecDepth 100000 in
set_option maxHeartbeats 8000000 in
theorem rGlyphs_f (A : Option Addr) (c : Nat) (E : List Value) (w : World) (hE : Lists w w.heap.size A E) (h8 : Bytes8 E) (hc : E.length ≤ c) (hc2 : c ≤ 9223372036854775807) (hm : E.length ≤ 140737488355328) (c0 : ¬ rdk E 3 0 = 65536) (hn : ¬ E.length < 6) (c1 : rdk E 3 0 = 20480) (hmay : mayG (rdk E 1 4) = false) : Calls Try.prog 16 #[.slice A E.length c] w fun e w' => e = .returned (.tuple #[.agg #[.int .i64 0, .bool false], .bool false]) ∧ Below w.heap.size w w' := by
  obtain ⟨W0, hW0⟩ : ∃ W0, W0 = ((w.alloc (.cells #[.int .i64 0, .bool false] 40)).alloc (.cells #[.slice A E.length c, .int .i64 0, .bool false] 70)) := ⟨_, rfl⟩
  have HB0 : Below w.heap.size w W0 := by rw [hW0]; exact below_al (below_al (Below.refl _ _) _) _
  have R0 : Blk W0 w.heap.size 40 #[.int .i64 0, .bool false] := by rw [hW0]; exact (Blk.at rfl).al _
  have h0 : RR W0 w.heap.size (w.heap.size + 1) E 0 := .inl ⟨Nat.zero_le _, A, c, by rw [hW0]; exact Blk.at (by simp), hE.below HB0, h8, Nat.zero_le _, hc, hc2, hm, by omega⟩
  clear hE h8 hc hm
  subst hW0
  have d0 : decide (rdk E 3 0 = 65536) = false := decide_eq_false c0; have e0 : ((rdk E 3 0) == 65536) = false := beq_eq_false_iff_ne.2 c0
  have d1 : decide (rdk E 3 0 = 20480) = true := decide_eq_true c1; have e1 : ((rdk E 3 0) == 20480) = true := beq_iff_eq.2 c1
  have CM := fun W => rMayGlyphs (rdk E 1 4) false W
  rw [hmay] at CM
  clear hmay
  go_enter Try.func16, Try.ntmps16
  go_wp2_with (first | (go_at_call 31; ((with_reducible refine (rr_k3 w.heap.size (w.heap.size + 1) E 0 _ h0).mono ?_); rintro e w1 ⟨rfl, hr1, o1⟩; have R1 := R0.only o1 (by simp); have B1 : Below w.heap.size w w1 := Below.trans HB0 (o1.to_below (Below.size HB0) (by simp)))) | (go_at_call 31; ((with_reducible refine (rr_k1 w.heap.size (w.heap.size + 1) E 4 _ hr1).mono ?_); rintro e w2 ⟨rfl, hr2, o2⟩; have R2 := R1.only o2 (by simp); have B2 : Below w.heap.size w w2 := Below.trans B1 (o2.to_below (Below.size B1) (by simp)); have al2 : Below w2.heap.size w2 (w2.alloc (.cells #[.int .i64 (rdk E 1 4), .bool false] 40)) := (Below.refl _ _).alloc (Nat.le_refl _) _; have hr2a := hr2.below al2; have R2a := R2.below al2; have X2a : Blk (w2.alloc (.cells #[.int .i64 (rdk E 1 4), .bool false] 40)) w2.heap.size 40 #[.int .i64 (rdk E 1 4), .bool false] := Blk.new _ _ _; have nX : w2.heap.size ∉ [(w.heap.size + 1)] := (by have := hr2.low.2; simp; omega); have nXR : w2.heap.size ≠ w.heap.size := (by have := hr2.low.2; omega); have bX : w.heap.size ≤ w2.heap.size := (by have := hr2.low.2; omega); have B2a := B2.alloc (Below.size B2) (.cells #[.int .i64 (rdk E 1 4), .bool false] 40); have fa := hr2.flag; have fb := hr2a.flag; rw [decide_eq_false (by omega)] at fa fb)) | (refine wpList_store_row rfl 40 (.tmp 6) (.tmp 16) (by with_reducible rfl) w2.heap.size #[.int .i64 (rdk E 1 4), .bool false] (by rfl) (by rfl) 40 #[.int .i64 0, .bool false] (Blk.new _ _ _) sizG rfl (by simp [Value.oneCell']) ?_; rw [World.setRow_alloc_new]) | (go_at_call 17; ((with_reducible refine (CM _).mono ?_); rintro e wM ⟨rfl, bM⟩; have RM := Blk.below R2a bM; have XM : Blk wM w2.heap.size 40 #[.int .i64 (rdk E 1 4), .bool false] := Blk.below X2a bM; have BM := Below.trans B2a (bM.mono (Below.size B2a)))) | (refine wpList_build_as rfl 40 (by with_reducible rfl) zG builtG ?_) | (refine wpList_store_row rfl 40 (.tmp 2) (.tmp 39) (by with_reducible rfl) w.heap.size #[.int .i64 0, .bool false] (by rfl) (by rfl) 40 #[.int .i64 0, .bool false] RM sizG rfl (by simp [Value.oneCell']) ?_))
  refine bodyPost_ret (v := .tuple #[.agg #[.int .i64 0, .bool false], .bool false]) ?_ rfl ?_
  · rw [results_cell_tmp rfl]
    simp [asAddr, Result.andThen, run_loadVar_row _ w.heap.size 40 40 #[.int .i64 0, .bool false] (0, 0) _ (Blk.row RM #[.int .i64 0, .bool false]) Try.underlying40 rfl sizG]
  exact ⟨rfl, below_setRow BM (Nat.le_refl _) _⟩
set_option maxRecDepth 100000 in
set_option maxHeartbeats 8000000 in
theorem rGlyphs_g (A : Option Addr) (c : Nat) (E : List Value) (w : World) (hE : Lists w w.heap.size A E) (h8 : Bytes8 E) (hc : E.length ≤ c) (hc2 : c ≤ 9223372036854775807) (hm : E.length ≤ 140737488355328) (c0 : ¬ rdk E 3 0 = 65536) (hn : ¬ E.length < 6) (c1 : rdk E 3 0 = 20480) (hmay : mayG (rdk E 1 4) = true) : Calls Try.prog 16 #[.slice A E.length c] w fun e w' => e = .returned (.tuple #[.agg #[.int .i64 (rdk E 1 4), .bool false], .bool true]) ∧ Below w.heap.size w w' := by
  obtain ⟨W0, hW0⟩ : ∃ W0, W0 = ((w.alloc (.cells #[.int .i64 0, .bool false] 40)).alloc (.cells #[.slice A E.length c, .int .i64 0, .bool false] 70)) := ⟨_, rfl⟩
  have HB0 : Below w.heap.size w W0 := by rw [hW0]; exact below_al (below_al (Below.refl _ _) _) _
  have R0 : Blk W0 w.heap.size 40 #[.int .i64 0, .bool false] := by rw [hW0]; exact (Blk.at rfl).al _
  have h0 : RR W0 w.heap.size (w.heap.size + 1) E 0 := .inl ⟨Nat.zero_le _, A, c, by rw [hW0]; exact Blk.at (by simp), hE.below HB0, h8, Nat.zero_le _, hc, hc2, hm, by omega⟩
  clear hE h8 hc hm
  subst hW0
  have d0 : decide (rdk E 3 0 = 65536) = false := decide_eq_false c0; have e0 : ((rdk E 3 0) == 65536) = false := beq_eq_false_iff_ne.2 c0
  have d1 : decide (rdk E 3 0 = 20480) = true := decide_eq_true c1; have e1 : ((rdk E 3 0) == 20480) = true := beq_iff_eq.2 c1
  have CM := fun W => rMayGlyphs (rdk E 1 4) false W
  rw [hmay] at CM
  clear hmay
  go_enter Try.func16, Try.ntmps16
  go_wp2_with (first | (go_at_call 31; ((with_reducible refine (rr_k3 w.heap.size (w.heap.size + 1) E 0 _ h0).mono ?_); rintro e w1 ⟨rfl, hr1, o1⟩; have R1 := R0.only o1 (by simp); have B1 : Below w.heap.size w w1 := Below.trans HB0 (o1.to_below (Below.size HB0) (by simp)))) | (go_at_call 31; ((with_reducible refine (rr_k1 w.heap.size (w.heap.size + 1) E 4 _ hr1).mono ?_); rintro e w2 ⟨rfl, hr2, o2⟩; have R2 := R1.only o2 (by simp); have B2 : Below w.heap.size w w2 := Below.trans B1 (o2.to_below (Below.size B1) (by simp)); have al2 : Below w2.heap.size w2 (w2.alloc (.cells #[.int .i64 (rdk E 1 4), .bool false] 40)) := (Below.refl _ _).alloc (Nat.le_refl _) _; have hr2a := hr2.below al2; have R2a := R2.below al2; have X2a : Blk (w2.alloc (.cells #[.int .i64 (rdk E 1 4), .bool false] 40)) w2.heap.size 40 #[.int .i64 (rdk E 1 4), .bool false] := Blk.new _ _ _; have nX : w2.heap.size ∉ [(w.heap.size + 1)] := (by have := hr2.low.2; simp; omega); have nXR : w2.heap.size ≠ w.heap.size := (by have := hr2.low.2; omega); have bX : w.heap.size ≤ w2.heap.size := (by have := hr2.low.2; omega); have B2a := B2.alloc (Below.size B2) (.cells #[.int .i64 (rdk E 1 4), .bool false] 40); have fa := hr2.flag; have fb := hr2a.flag; rw [decide_eq_false (by omega)] at fa fb)) | (refine wpList_store_row rfl 40 (.tmp 6) (.tmp 16) (by with_reducible rfl) w2.heap.size #[.int .i64 (rdk E 1 4), .bool false] (by rfl) (by rfl) 40 #[.int .i64 0, .bool false] (Blk.new _ _ _) sizG rfl (by simp [Value.oneCell']) ?_; rw [World.setRow_alloc_new]) | (go_at_call 17; ((with_reducible refine (CM _).mono ?_); rintro e wM ⟨rfl, bM⟩; have RM := Blk.below R2a bM; have XM : Blk wM w2.heap.size 40 #[.int .i64 (rdk E 1 4), .bool false] := Blk.below X2a bM; have BM := Below.trans B2a (bM.mono (Below.size B2a)))) | (refine wpList_load_row rfl 40 (.tmp 6) (by with_reducible rfl) w2.heap.size (by rfl) 40 #[.int .i64 (rdk E 1 4), .bool false] (0, 0) _ XM Try.underlying40 rfl sizG ?_) | (refine wpList_store_row rfl 40 (.tmp 2) (.tmp 40) (by with_reducible rfl) w.heap.size #[.int .i64 (rdk E 1 4), .bool false] (by rfl) (by rfl) 40 #[.int .i64 0, .bool false] RM sizG rfl (by simp [Value.oneCell']) ?_))
  refine bodyPost_ret (v := .tuple #[.agg #[.int .i64 (rdk E 1 4), .bool false], .bool true]) ?_ rfl ?_
  · rw [results_cell_tmp rfl]
    simp [asAddr, Result.andThen, run_loadVar_row _ w.heap.size 40 40 #[.int .i64 (rdk E 1 4), .bool false] (0, 0) _ (Blk.row RM #[.int .i64 (rdk E 1 4), .bool false]) Try.underlying40 rfl sizG]
  exact ⟨rfl, below_setRow BM (Nat.le_refl _) _⟩
theorem rGlyphs_any (A : Option Addr) (c : Nat) (E : List Value) (w : World) (hE : Lists w w.heap.size A E) (h8 : Bytes8 E) (hc : E.length ≤ c) (hc2 : c ≤ 9223372036854775807) (hm : E.length ≤ 140737488355328) : Calls Try.prog 16 #[.slice A E.length c] w (GotRef w (okG E) (valG E) (.agg zG)) := by
  have hi := okG_iff E h8
  have b4 := rdk1_b E h8 4
  have no : okG E = false → ∀ e w', (e = .returned (.tuple #[.agg #[.int .i64 0, .bool false], .bool false]) ∧ Below w.heap.size w w') → GotRef w (okG E) (valG E) (.agg zG) e w' := fun hk e w' h => by unfold GotRef; rw [hk]; exact h
  have hm4 : mayG (rdk E 1 4) = decide (1 ≤ rdk E 1 4) := by unfold mayG; rw [decide_eq_true b4.2, Bool.and_true]
  by_cases c0 : rdk E 3 0 = 65536
  · by_cases hn : E.length < 32
    · exact (rGlyphs_a A c E w hE h8 hc hc2 hm c0 hn).mono fun e w' h => no (by cases hk : okG E; rfl; have := hi.1 hk; omega) e w' h
    by_cases c6 : 1 ≤ rdk E 1 4
    · rw [decide_eq_true c6] at hm4
      have ok : okG E = true := hi.2 (.inr ⟨by omega, c0, c6⟩)
      refine (rGlyphs_c A c E w hE h8 hc hc2 hm c0 hn hm4).mono fun e w' h => ?_
      unfold GotRef
      rw [ok, valG_eq E (by omega), decide_eq_true c0]
      exact h
    · rw [decide_eq_false c6] at hm4
      exact (rGlyphs_b A c E w hE h8 hc hc2 hm c0 hn hm4).mono fun e w' h => no (by cases hk : okG E; rfl; have := hi.1 hk; omega) e w' h
  · by_cases hn : E.length < 6
    · exact (rGlyphs_d A c E w hE h8 hc hc2 hm c0 hn).mono fun e w' h => no (by cases hk : okG E; rfl; have := hi.1 hk; omega) e w' h
    by_cases c1 : rdk E 3 0 = 20480
    rotate_left
    · exact (rGlyphs_e A c E w hE h8 hc hc2 hm c0 hn c1).mono fun e w' h => no (by cases hk : okG E; rfl; have := hi.1 hk; omega) e w' h
    by_cases c6 : 1 ≤ rdk E 1 4
    · rw [decide_eq_true c6] at hm4
      have ok : okG E = true := hi.2 (.inl ⟨by omega, c1, c6⟩)
      refine (rGlyphs_g A c E w hE h8 hc hc2 hm c0 hn c1 hm4).mono fun e w' h => ?_
      unfold GotRef
      rw [ok, valG_eq E (by omega), decide_eq_false c0]
      exact h
    · rw [decide_eq_false c6] at hm4
      exact (rGlyphs_f A c E w hE h8 hc hc2 hm c0 hn c1 hm4).mono fun e w' h => no (by cases hk : okG E; rfl; have := hi.1 hk; omega) e w' h

end Go.Proofs.Ytbomgaacahaofaa
