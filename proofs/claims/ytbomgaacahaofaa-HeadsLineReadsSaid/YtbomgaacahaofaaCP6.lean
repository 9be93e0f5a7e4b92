/- Part 7 of the proof: Head, Read. -/
import Derived.Laws.Tables
import Derived.Laws.CopyOwn
import Derived.Test.YtbomgaacahaofaaCP5

namespace Go.Proofs.Ytbomgaacahaofaa
open Go Go.RowKit

set_option maxRecDepth 100000 in
theorem head_at0 (X : Nat) (w : World) : (Instr.fieldAt 25 (.pointer (some ⟨X, 0, none⟩)) 0).run Try.prog w = .ok (.pointer (some ⟨X, 0, none⟩)) w := by
  rfl
set_option maxRecDepth 100000 in
theorem head_at1 (X : Nat) (w : World) : (Instr.fieldAt 25 (.pointer (some ⟨X, 0, none⟩)) 1).run Try.prog w = .ok (.pointer (some ⟨X, 1, none⟩)) w := by
  rfl
set_option maxRecDepth 100000 in
theorem head_at2 (X : Nat) (w : World) : (Instr.fieldAt 25 (.pointer (some ⟨X, 0, none⟩)) 2).run Try.prog w = .ok (.pointer (some ⟨X, 2, none⟩)) w := by
  rfl
set_option maxRecDepth 100000 in
theorem head_at3 (X : Nat) (w : World) : (Instr.fieldAt 25 (.pointer (some ⟨X, 0, none⟩)) 3).run Try.prog w = .ok (.pointer (some ⟨X, 6, none⟩)) w := by
  rfl
set_option maxRecDepth 100000 in
theorem head_at4 (X : Nat) (w : World) : (Instr.fieldAt 25 (.pointer (some ⟨X, 0, none⟩)) 4).run Try.prog w = .ok (.pointer (some ⟨X, 7, none⟩)) w := by
  rfl
set_option maxRecDepth 100000 in
theorem head_at5 (X : Nat) (w : World) : (Instr.fieldAt 25 (.pointer (some ⟨X, 0, none⟩)) 5).run Try.prog w = .ok (.pointer (some ⟨X, 8, none⟩)) w := by
  rfl
set_option maxRecDepth 100000 in
theorem box_at0 (X : Nat) (w : World) : (Instr.fieldAt 23 (.pointer (some ⟨X, 2, none⟩)) 0).run Try.prog w = .ok (.pointer (some ⟨X, 2, none⟩)) w := by
  rfl
set_option maxRecDepth 100000 in
theorem box_at1 (X : Nat) (w : World) : (Instr.fieldAt 23 (.pointer (some ⟨X, 2, none⟩)) 1).run Try.prog w = .ok (.pointer (some ⟨X, 3, none⟩)) w := by
  rfl
set_option maxRecDepth 100000 in
theorem box_at2 (X : Nat) (w : World) : (Instr.fieldAt 23 (.pointer (some ⟨X, 2, none⟩)) 2).run Try.prog w = .ok (.pointer (some ⟨X, 4, none⟩)) w := by
  rfl
set_option maxRecDepth 100000 in
theorem box_at3 (X : Nat) (w : World) : (Instr.fieldAt 23 (.pointer (some ⟨X, 2, none⟩)) 3).run Try.prog w = .ok (.pointer (some ⟨X, 5, none⟩)) w := by
  rfl
set_option maxRecDepth 100000 in
theorem row2 (X o0 o1 : Nat) (w : World) : (Instr.buildSlice 111 2 #[(0, .pointer (some ⟨X, o0, none⟩)), (1, .pointer (some ⟨X, o1, none⟩))]).run Try.prog w = .ok (.slice (some ⟨w.heap.size, 0, none⟩) 2 2) (w.alloc (.cells #[.pointer (some ⟨X, o0, none⟩), .pointer (some ⟨X, o1, none⟩)] 96)) := by
  go_simp
set_option maxRecDepth 100000 in
theorem row4 (X o0 o1 o2 o3 : Nat) (w : World) : (Instr.buildSlice 111 4 #[(0, .pointer (some ⟨X, o0, none⟩)), (1, .pointer (some ⟨X, o1, none⟩)), (2, .pointer (some ⟨X, o2, none⟩)), (3, .pointer (some ⟨X, o3, none⟩))]).run Try.prog w = .ok (.slice (some ⟨w.heap.size, 0, none⟩) 4 4) (w.alloc (.cells #[.pointer (some ⟨X, o0, none⟩), .pointer (some ⟨X, o1, none⟩), .pointer (some ⟨X, o2, none⟩), .pointer (some ⟨X, o3, none⟩)] 96)) := by
  go_simp
set_option maxRecDepth 100000 in
theorem row_fn12 (g0 g1 g2 g3 g4 g5 g6 g7 g8 g9 g10 g11 : Fn) (l0 l1 l2 l3 l4 l5 l6 l7 l8 l9 l10 l11 : Array Value) (w : World) : (Instr.buildSlice 87 12 #[(0, .func g0 #[] l0), (1, .func g1 #[] l1), (2, .func g2 #[] l2), (3, .func g3 #[] l3), (4, .func g4 #[] l4), (5, .func g5 #[] l5), (6, .func g6 #[] l6), (7, .func g7 #[] l7), (8, .func g8 #[] l8), (9, .func g9 #[] l9), (10, .func g10 #[] l10), (11, .func g11 #[] l11)]).run Try.prog w = .ok (.slice (some ⟨w.heap.size, 0, none⟩) 12 12) (w.alloc (.cells #[.func g0 #[] l0, .func g1 #[] l1, .func g2 #[] l2, .func g3 #[] l3, .func g4 #[] l4, .func g5 #[] l5, .func g6 #[] l6, .func g7 #[] l7, .func g8 #[] l8, .func g9 #[] l9, .func g10 #[] l10, .func g11 #[] l11] 91)) := by
  go_simp

def hDst : Nat → Nat
  | 0 => 3
  | 1 => 4
  | 2 => 5
  | 3 => 6
  | 4 => 7
  | 5 => 8
  | 6 => 9
  | 7 => 10
  | 8 => 11
  | 9 => 12
  | 10 => 13
  | 11 => 14
  | 12 => 15
  | 13 => 16
  | 14 => 17
  | 15 => 18
  | 16 => 19
  | 17 => 20
  | 18 => 21
  | 19 => 22
  | 20 => 23
  | 21 => 24
  | 22 => 25
  | 23 => 26
  | 24 => 27
  | 25 => 28
  | 26 => 29
  | 27 => 30
  | 28 => 31
  | 29 => 32
  | 30 => 33
  | 31 => 34
  | 32 => 35
  | 33 => 36
  | 34 => 37
  | 35 => 38
  | 36 => 39
  | 37 => 40
  | 38 => 41
  | 39 => 42
  | 40 => 43
  | 41 => 44
  | 42 => 45
  | 43 => 46
  | 44 => 47
  | 45 => 48
  | 46 => 49
  | 47 => 50
  | 48 => 2
  | _ => 0
def hDep : Nat → List Nat
  | 5 => [4]
  | 6 => [5]
  | 7 => [6]
  | 8 => [7]
  | 10 => [9]
  | 11 => [10]
  | 12 => [11]
  | 13 => [12]
  | 16 => [15]
  | 17 => [16]
  | 18 => [17]
  | 20 => [19]
  | 21 => [20]
  | 22 => [21]
  | 24 => [23]
  | 25 => [24]
  | 26 => [25]
  | 28 => [27]
  | 29 => [28]
  | 30 => [29]
  | 31 => [18, 22, 26, 30]
  | 32 => [31]
  | 34 => [33]
  | 35 => [34]
  | 37 => [36]
  | 38 => [37]
  | 39 => [35, 38]
  | 40 => [39]
  | 43 => [42]
  | 44 => [43]
  | 45 => [44]
  | 47 => [0, 1, 2, 3, 8, 13, 14, 32, 40, 41, 45, 46]
  | 48 => [47]
  | _ => []
def hBook : Nat → Bk
  | 0 => .fld (.just 1 1)
  | 1 => .fld (.just 1 0)
  | 2 => .fld (.free 8)
  | 3 => .fld (.just 3 1594834165)
  | 4 => .ptr 0
  | 5 => .ptr 0
  | 6 => .ptr 1
  | 7 => .row [1]
  | 8 => .fld (.nums 1 0 65535 [1])
  | 9 => .ptr 0
  | 10 => .ptr 0
  | 11 => .ptr 0
  | 12 => .row [0]
  | 13 => .fld (.nums 1 16 16384 [0])
  | 14 => .fld (.free 16)
  | 15 => .ptr 0
  | 16 => .ptr 0
  | 17 => .ptr 2
  | 18 => .ptr 2
  | 19 => .ptr 0
  | 20 => .ptr 0
  | 21 => .ptr 2
  | 22 => .ptr 3
  | 23 => .ptr 0
  | 24 => .ptr 0
  | 25 => .ptr 2
  | 26 => .ptr 4
  | 27 => .ptr 0
  | 28 => .ptr 0
  | 29 => .ptr 2
  | 30 => .ptr 5
  | 31 => .row [2, 3, 4, 5]
  | 32 => .fld (.nums 2 (-32768) 32767 [2, 3, 4, 5])
  | 33 => .ptr 0
  | 34 => .ptr 0
  | 35 => .ptr 6
  | 36 => .ptr 0
  | 37 => .ptr 0
  | 38 => .ptr 7
  | 39 => .row [6, 7]
  | 40 => .fld (.nums 1 0 65535 [6, 7])
  | 41 => .fld (.free 2)
  | 42 => .ptr 0
  | 43 => .ptr 0
  | 44 => .ptr 8
  | 45 => .fld (.eith 1 0 1 8)
  | 46 => .fld (.just 1 0)
  | 47 => .top [0, 1, 2, 3, 8, 13, 14, 32, 40, 41, 45, 46]
  | 48 => .last 47
  | _ => .ptr 0
def hEats (j k : Nat) : Bool := (j == 8 && k == 7) || (j == 13 && k == 12) || (j == 32 && k == 31) || (j == 40 && k == 39)

set_option maxRecDepth 100000 in
set_option maxHeartbeats 1000000 in
theorem headFields_any (X : Nat) (w : World) : Calls Try.prog 25 #[.pointer (some ⟨X, 0, none⟩)] w (GaveFs w X [.just 1 1, .just 1 0, .free 8, .just 3 1594834165, .nums 1 0 65535 [1], .nums 1 16 16384 [0], .free 16, .nums 2 (-32768) 32767 [2, 3, 4, 5], .nums 1 0 65535 [6, 7], .free 2, .eith 1 0 1 8, .just 1 0]) := by
  go_enter Try.func25, Try.ntmps25
  go_wp2
  refine wp_region_book (by kernel_rfl) hDst ?_ ?_ ?_ hDep ?_ ?_ hEats ?_ (fun i V w F => BkAt X V w F i (hBook i)) ?_ ?_ ?_
  · intro i o ho
    rcases i with _ | _ | _ | _ | _ | _ | _ | _ | _ | _ | _ | _ | _ | _ | _ | _ | _ | _ | _ | _ | _ | _ | _ | _ | _ | _ | _ | _ | _ | _ | _ | _ | _ | _ | _ | _ | _ | _ | _ | _ | _ | _ | _ | _ | _ | _ | _ | _ | _ | i <;> cases ho <;> rfl
  · have h : ∀ i < 49, ∀ j < 49, hDst i = hDst j → i = j := by decide
    exact fun i j hi hj => h i hi j hj
  · have h : ∀ i < 49, hDst i < 51 ∧ hDst i ≠ 0 := by decide
    exact fun i hi => h i hi
  · intro i o ho
    rcases i with _ | _ | _ | _ | _ | _ | _ | _ | _ | _ | _ | _ | _ | _ | _ | _ | _ | _ | _ | _ | _ | _ | _ | _ | _ | _ | _ | _ | _ | _ | _ | _ | _ | _ | _ | _ | _ | _ | _ | _ | _ | _ | _ | _ | _ | _ | _ | _ | _ | i <;> cases ho <;> decide
  · intro i o ho
    rcases i with _ | _ | _ | _ | _ | _ | _ | _ | _ | _ | _ | _ | _ | _ | _ | _ | _ | _ | _ | _ | _ | _ | _ | _ | _ | _ | _ | _ | _ | _ | _ | _ | _ | _ | _ | _ | _ | _ | _ | _ | _ | _ | _ | _ | _ | _ | _ | _ | _ | i <;> cases ho <;> decide
  · intro j k i h hi
    simp only [hEats, Bool.or_eq_true, Bool.and_eq_true, beq_iff_eq, Bool.or_eq_false_iff, Bool.and_eq_false_iff, beq_eq_false_iff_ne] at h ⊢
    omega
  · intro i V V1 w w1 F h hV hb
    refine h.keep (dep := hDep i) ?_ hV hb
    rcases i with _ | _ | _ | _ | _ | _ | _ | _ | _ | _ | _ | _ | _ | _ | _ | _ | _ | _ | _ | _ | _ | _ | _ | _ | _ | _ | _ | _ | _ | _ | _ | _ | _ | _ | _ | _ | _ | _ | _ | _ | _ | _ | _ | _ | _ | _ | _ | _ | _ | i <;> first | decide | (intro k hk; cases hk)
  · intro i o ho a1 w1 V F hs h0 hb hd
    rcases i with _ | _ | _ | _ | _ | _ | _ | _ | _ | _ | _ | _ | _ | _ | _ | _ | _ | _ | _ | _ | _ | _ | _ | _ | _ | _ | _ | _ | _ | _ | _ | _ | _ | _ | _ | _ | _ | _ | _ | _ | _ | _ | _ | _ | _ | _ | _ | _ | _ | i <;> cases ho
    · refine step_call rfl (run_call _ _ _ _ _ #[.int .i64 1, .int .i64 1] _ rfl (by simp only [List.map_toArray, List.map_cons, List.map_nil]; try rfl) rfl) ((just_new X 1 1 w1).mono ?_)
      rintro e w2 ⟨fv, fp, own, rfl, hF, k1, k2, k3, k4⟩
      exact ⟨fv, rfl, k4, fp, ⟨own, hF, k3⟩, fun b hb => (k1 b hb).elim (fun h => (nomatch h)) .inr, k2⟩
    · refine step_call rfl (run_call _ _ _ _ _ #[.int .i64 1, .int .i64 0] _ rfl (by simp only [List.map_toArray, List.map_cons, List.map_nil]; try rfl) rfl) ((just_new X 1 0 w1).mono ?_)
      rintro e w2 ⟨fv, fp, own, rfl, hF, k1, k2, k3, k4⟩
      exact ⟨fv, rfl, k4, fp, ⟨own, hF, k3⟩, fun b hb => (k1 b hb).elim (fun h => (nomatch h)) .inr, k2⟩
    · refine step_call rfl (run_call _ _ _ _ _ #[.int .i64 8] _ rfl (by simp only [List.map_toArray, List.map_cons, List.map_nil]; try rfl) rfl) ((free_new X 8 w1).mono ?_)
      rintro e w2 ⟨fv, fp, own, rfl, hF, k1, k2, k3, k4⟩
      exact ⟨fv, rfl, k4, fp, ⟨own, hF, k3⟩, fun b hb => (k1 b hb).elim (fun h => (nomatch h)) .inr, k2⟩
    · refine step_call rfl (run_call _ _ _ _ _ #[.int .i64 3, .int .i64 1594834165] _ rfl (by simp only [List.map_toArray, List.map_cons, List.map_nil]; try rfl) rfl) ((just_new X 3 1594834165 w1).mono ?_)
      rintro e w2 ⟨fv, fp, own, rfl, hF, k1, k2, k3, k4⟩
      exact ⟨fv, rfl, k4, fp, ⟨own, hF, k3⟩, fun b hb => (k1 b hb).elim (fun h => (nomatch h)) .inr, k2⟩
    · exact step_val rfl (run_move _ _ _ _ rfl) ⟨Below.refl _ _, [], ⟨(if_pos rfl).trans (eval_tmp (h0.trans rfl)), rfl⟩, fun _ h => (nomatch h), fun _ h => (nomatch h)⟩
    · obtain ⟨v4, b4⟩ := hd 4 (by decide); exact step_val rfl (run_nilCheck _ _ _ _ _ rfl ((eval_tmp v4).trans b4.1)) ⟨Below.refl _ _, [], ⟨if_pos rfl, rfl⟩, fun _ h => (nomatch h), fun _ h => (nomatch h)⟩
    · obtain ⟨v5, b5⟩ := hd 5 (by decide); exact step_val rfl (run_field _ _ _ _ _ _ _ _ rfl ((eval_tmp v5).trans b5.1) (head_at1 X _)) ⟨Below.refl _ _, [], ⟨if_pos rfl, rfl⟩, fun _ h => (nomatch h), fun _ h => (nomatch h)⟩
    · obtain ⟨v6, b6⟩ := hd 6 (by decide); have u6 : a1.eval (.tmp 9) = .pointer (some ⟨X, 1, none⟩) := (eval_tmp v6).trans b6.1
      refine step_val rfl (run_slice _ _ _ _ _ #[(0, .pointer (some ⟨X, 1, none⟩))] _ _ _ rfl (by simp only [List.map_toArray, List.map_cons, List.map_nil, u6]; try rfl) (row1 X 1 w1)) ⟨(Below.refl _ _).alloc (Nat.le_refl _) _, [w1.heap.size], ⟨w1.heap.size, 1, if_pos rfl, Blk.at rfl, rfl⟩, fun b hb => .inr (by have e : b = w1.heap.size := (by simpa using hb); omega), fun b hb => (by have e : b = w1.heap.size := (by simpa using hb); rw [al_size]; omega)⟩
    · obtain ⟨v7, b7⟩ := hd 7 (by decide); obtain ⟨r, c, e1, e2, e3⟩ := b7
      have u7 : a1.eval (.tmp 10) = .slice (some ⟨r, 0, none⟩) 1 c := (eval_tmp v7).trans e1
      refine step_call rfl (run_call _ _ _ _ _ #[.int .i64 1, .int .i64 0, .int .i64 65535, .slice (some ⟨r, 0, none⟩) 1 c] _ rfl (by simp only [List.map_toArray, List.map_cons, List.map_nil, u7]; try rfl) rfl) ((numbers_new X 1 0 65535 [1] r c w1 e2).mono ?_)
      rintro e w2 ⟨fv, fp, own, rfl, hF, k1, k2, k3, k4⟩
      exact ⟨fv, rfl, k4, fp, ⟨own, hF, k3⟩, fun b hb => (k1 b hb).elim (fun h => .inl ⟨7, by decide, rfl, e3 ▸ h⟩) .inr, k2⟩
    · exact step_val rfl (run_move _ _ _ _ rfl) ⟨Below.refl _ _, [], ⟨(if_pos rfl).trans (eval_tmp (h0.trans rfl)), rfl⟩, fun _ h => (nomatch h), fun _ h => (nomatch h)⟩
    · obtain ⟨v9, b9⟩ := hd 9 (by decide); exact step_val rfl (run_nilCheck _ _ _ _ _ rfl ((eval_tmp v9).trans b9.1)) ⟨Below.refl _ _, [], ⟨if_pos rfl, rfl⟩, fun _ h => (nomatch h), fun _ h => (nomatch h)⟩
    · obtain ⟨v10, b10⟩ := hd 10 (by decide); exact step_val rfl (run_field _ _ _ _ _ _ _ _ rfl ((eval_tmp v10).trans b10.1) (head_at0 X _)) ⟨Below.refl _ _, [], ⟨if_pos rfl, rfl⟩, fun _ h => (nomatch h), fun _ h => (nomatch h)⟩
    · obtain ⟨v11, b11⟩ := hd 11 (by decide); have u11 : a1.eval (.tmp 14) = .pointer (some ⟨X, 0, none⟩) := (eval_tmp v11).trans b11.1
      refine step_val rfl (run_slice _ _ _ _ _ #[(0, .pointer (some ⟨X, 0, none⟩))] _ _ _ rfl (by simp only [List.map_toArray, List.map_cons, List.map_nil, u11]; try rfl) (row1 X 0 w1)) ⟨(Below.refl _ _).alloc (Nat.le_refl _) _, [w1.heap.size], ⟨w1.heap.size, 1, if_pos rfl, Blk.at rfl, rfl⟩, fun b hb => .inr (by have e : b = w1.heap.size := (by simpa using hb); omega), fun b hb => (by have e : b = w1.heap.size := (by simpa using hb); rw [al_size]; omega)⟩
    · obtain ⟨v12, b12⟩ := hd 12 (by decide); obtain ⟨r, c, e1, e2, e3⟩ := b12
      have u12 : a1.eval (.tmp 15) = .slice (some ⟨r, 0, none⟩) 1 c := (eval_tmp v12).trans e1
      refine step_call rfl (run_call _ _ _ _ _ #[.int .i64 1, .int .i64 16, .int .i64 16384, .slice (some ⟨r, 0, none⟩) 1 c] _ rfl (by simp only [List.map_toArray, List.map_cons, List.map_nil, u12]; try rfl) rfl) ((numbers_new X 1 16 16384 [0] r c w1 e2).mono ?_)
      rintro e w2 ⟨fv, fp, own, rfl, hF, k1, k2, k3, k4⟩
      exact ⟨fv, rfl, k4, fp, ⟨own, hF, k3⟩, fun b hb => (k1 b hb).elim (fun h => .inl ⟨12, by decide, rfl, e3 ▸ h⟩) .inr, k2⟩
    · refine step_call rfl (run_call _ _ _ _ _ #[.int .i64 16] _ rfl (by simp only [List.map_toArray, List.map_cons, List.map_nil]; try rfl) rfl) ((free_new X 16 w1).mono ?_)
      rintro e w2 ⟨fv, fp, own, rfl, hF, k1, k2, k3, k4⟩
      exact ⟨fv, rfl, k4, fp, ⟨own, hF, k3⟩, fun b hb => (k1 b hb).elim (fun h => (nomatch h)) .inr, k2⟩
    · exact step_val rfl (run_move _ _ _ _ rfl) ⟨Below.refl _ _, [], ⟨(if_pos rfl).trans (eval_tmp (h0.trans rfl)), rfl⟩, fun _ h => (nomatch h), fun _ h => (nomatch h)⟩
    · obtain ⟨v15, b15⟩ := hd 15 (by decide); exact step_val rfl (run_nilCheck _ _ _ _ _ rfl ((eval_tmp v15).trans b15.1)) ⟨Below.refl _ _, [], ⟨if_pos rfl, rfl⟩, fun _ h => (nomatch h), fun _ h => (nomatch h)⟩
    · obtain ⟨v16, b16⟩ := hd 16 (by decide); exact step_val rfl (run_field _ _ _ _ _ _ _ _ rfl ((eval_tmp v16).trans b16.1) (head_at2 X _)) ⟨Below.refl _ _, [], ⟨if_pos rfl, rfl⟩, fun _ h => (nomatch h), fun _ h => (nomatch h)⟩
    · obtain ⟨v17, b17⟩ := hd 17 (by decide); exact step_val rfl (run_field _ _ _ _ _ _ _ _ rfl ((eval_tmp v17).trans b17.1) (box_at0 X _)) ⟨Below.refl _ _, [], ⟨if_pos rfl, rfl⟩, fun _ h => (nomatch h), fun _ h => (nomatch h)⟩
    · exact step_val rfl (run_move _ _ _ _ rfl) ⟨Below.refl _ _, [], ⟨(if_pos rfl).trans (eval_tmp (h0.trans rfl)), rfl⟩, fun _ h => (nomatch h), fun _ h => (nomatch h)⟩
    · obtain ⟨v19, b19⟩ := hd 19 (by decide); exact step_val rfl (run_nilCheck _ _ _ _ _ rfl ((eval_tmp v19).trans b19.1)) ⟨Below.refl _ _, [], ⟨if_pos rfl, rfl⟩, fun _ h => (nomatch h), fun _ h => (nomatch h)⟩
    · obtain ⟨v20, b20⟩ := hd 20 (by decide); exact step_val rfl (run_field _ _ _ _ _ _ _ _ rfl ((eval_tmp v20).trans b20.1) (head_at2 X _)) ⟨Below.refl _ _, [], ⟨if_pos rfl, rfl⟩, fun _ h => (nomatch h), fun _ h => (nomatch h)⟩
    · obtain ⟨v21, b21⟩ := hd 21 (by decide); exact step_val rfl (run_field _ _ _ _ _ _ _ _ rfl ((eval_tmp v21).trans b21.1) (box_at1 X _)) ⟨Below.refl _ _, [], ⟨if_pos rfl, rfl⟩, fun _ h => (nomatch h), fun _ h => (nomatch h)⟩
    · exact step_val rfl (run_move _ _ _ _ rfl) ⟨Below.refl _ _, [], ⟨(if_pos rfl).trans (eval_tmp (h0.trans rfl)), rfl⟩, fun _ h => (nomatch h), fun _ h => (nomatch h)⟩
    · obtain ⟨v23, b23⟩ := hd 23 (by decide); exact step_val rfl (run_nilCheck _ _ _ _ _ rfl ((eval_tmp v23).trans b23.1)) ⟨Below.refl _ _, [], ⟨if_pos rfl, rfl⟩, fun _ h => (nomatch h), fun _ h => (nomatch h)⟩
    · obtain ⟨v24, b24⟩ := hd 24 (by decide); exact step_val rfl (run_field _ _ _ _ _ _ _ _ rfl ((eval_tmp v24).trans b24.1) (head_at2 X _)) ⟨Below.refl _ _, [], ⟨if_pos rfl, rfl⟩, fun _ h => (nomatch h), fun _ h => (nomatch h)⟩
    · obtain ⟨v25, b25⟩ := hd 25 (by decide); exact step_val rfl (run_field _ _ _ _ _ _ _ _ rfl ((eval_tmp v25).trans b25.1) (box_at2 X _)) ⟨Below.refl _ _, [], ⟨if_pos rfl, rfl⟩, fun _ h => (nomatch h), fun _ h => (nomatch h)⟩
    · exact step_val rfl (run_move _ _ _ _ rfl) ⟨Below.refl _ _, [], ⟨(if_pos rfl).trans (eval_tmp (h0.trans rfl)), rfl⟩, fun _ h => (nomatch h), fun _ h => (nomatch h)⟩
    · obtain ⟨v27, b27⟩ := hd 27 (by decide); exact step_val rfl (run_nilCheck _ _ _ _ _ rfl ((eval_tmp v27).trans b27.1)) ⟨Below.refl _ _, [], ⟨if_pos rfl, rfl⟩, fun _ h => (nomatch h), fun _ h => (nomatch h)⟩
    · obtain ⟨v28, b28⟩ := hd 28 (by decide); exact step_val rfl (run_field _ _ _ _ _ _ _ _ rfl ((eval_tmp v28).trans b28.1) (head_at2 X _)) ⟨Below.refl _ _, [], ⟨if_pos rfl, rfl⟩, fun _ h => (nomatch h), fun _ h => (nomatch h)⟩
    · obtain ⟨v29, b29⟩ := hd 29 (by decide); exact step_val rfl (run_field _ _ _ _ _ _ _ _ rfl ((eval_tmp v29).trans b29.1) (box_at3 X _)) ⟨Below.refl _ _, [], ⟨if_pos rfl, rfl⟩, fun _ h => (nomatch h), fun _ h => (nomatch h)⟩
    · obtain ⟨v18, b18⟩ := hd 18 (by decide); obtain ⟨v22, b22⟩ := hd 22 (by decide); obtain ⟨v26, b26⟩ := hd 26 (by decide); obtain ⟨v30, b30⟩ := hd 30 (by decide); have u18 : a1.eval (.tmp 21) = .pointer (some ⟨X, 2, none⟩) := (eval_tmp v18).trans b18.1
      have u22 : a1.eval (.tmp 25) = .pointer (some ⟨X, 3, none⟩) := (eval_tmp v22).trans b22.1
      have u26 : a1.eval (.tmp 29) = .pointer (some ⟨X, 4, none⟩) := (eval_tmp v26).trans b26.1
      have u30 : a1.eval (.tmp 33) = .pointer (some ⟨X, 5, none⟩) := (eval_tmp v30).trans b30.1
      refine step_val rfl (run_slice _ _ _ _ _ #[(0, .pointer (some ⟨X, 2, none⟩)), (1, .pointer (some ⟨X, 3, none⟩)), (2, .pointer (some ⟨X, 4, none⟩)), (3, .pointer (some ⟨X, 5, none⟩))] _ _ _ rfl (by simp only [List.map_toArray, List.map_cons, List.map_nil, u18, u22, u26, u30]; try rfl) (row4 X 2 3 4 5 w1)) ⟨(Below.refl _ _).alloc (Nat.le_refl _) _, [w1.heap.size], ⟨w1.heap.size, 4, if_pos rfl, Blk.at rfl, rfl⟩, fun b hb => .inr (by have e : b = w1.heap.size := (by simpa using hb); omega), fun b hb => (by have e : b = w1.heap.size := (by simpa using hb); rw [al_size]; omega)⟩
    · obtain ⟨v31, b31⟩ := hd 31 (by decide); obtain ⟨r, c, e1, e2, e3⟩ := b31
      have u31 : a1.eval (.tmp 34) = .slice (some ⟨r, 0, none⟩) 4 c := (eval_tmp v31).trans e1
      refine step_call rfl (run_call _ _ _ _ _ #[.int .i64 2, .int .i64 (-32768), .int .i64 32767, .slice (some ⟨r, 0, none⟩) 4 c] _ rfl (by simp only [List.map_toArray, List.map_cons, List.map_nil, u31]; try rfl) rfl) ((numbers_new X 2 (-32768) 32767 [2, 3, 4, 5] r c w1 e2).mono ?_)
      rintro e w2 ⟨fv, fp, own, rfl, hF, k1, k2, k3, k4⟩
      exact ⟨fv, rfl, k4, fp, ⟨own, hF, k3⟩, fun b hb => (k1 b hb).elim (fun h => .inl ⟨31, by decide, rfl, e3 ▸ h⟩) .inr, k2⟩
    · exact step_val rfl (run_move _ _ _ _ rfl) ⟨Below.refl _ _, [], ⟨(if_pos rfl).trans (eval_tmp (h0.trans rfl)), rfl⟩, fun _ h => (nomatch h), fun _ h => (nomatch h)⟩
    · obtain ⟨v33, b33⟩ := hd 33 (by decide); exact step_val rfl (run_nilCheck _ _ _ _ _ rfl ((eval_tmp v33).trans b33.1)) ⟨Below.refl _ _, [], ⟨if_pos rfl, rfl⟩, fun _ h => (nomatch h), fun _ h => (nomatch h)⟩
    · obtain ⟨v34, b34⟩ := hd 34 (by decide); exact step_val rfl (run_field _ _ _ _ _ _ _ _ rfl ((eval_tmp v34).trans b34.1) (head_at3 X _)) ⟨Below.refl _ _, [], ⟨if_pos rfl, rfl⟩, fun _ h => (nomatch h), fun _ h => (nomatch h)⟩
    · exact step_val rfl (run_move _ _ _ _ rfl) ⟨Below.refl _ _, [], ⟨(if_pos rfl).trans (eval_tmp (h0.trans rfl)), rfl⟩, fun _ h => (nomatch h), fun _ h => (nomatch h)⟩
    · obtain ⟨v36, b36⟩ := hd 36 (by decide); exact step_val rfl (run_nilCheck _ _ _ _ _ rfl ((eval_tmp v36).trans b36.1)) ⟨Below.refl _ _, [], ⟨if_pos rfl, rfl⟩, fun _ h => (nomatch h), fun _ h => (nomatch h)⟩
    · obtain ⟨v37, b37⟩ := hd 37 (by decide); exact step_val rfl (run_field _ _ _ _ _ _ _ _ rfl ((eval_tmp v37).trans b37.1) (head_at4 X _)) ⟨Below.refl _ _, [], ⟨if_pos rfl, rfl⟩, fun _ h => (nomatch h), fun _ h => (nomatch h)⟩
    · obtain ⟨v35, b35⟩ := hd 35 (by decide); obtain ⟨v38, b38⟩ := hd 38 (by decide); have u35 : a1.eval (.tmp 38) = .pointer (some ⟨X, 6, none⟩) := (eval_tmp v35).trans b35.1
      have u38 : a1.eval (.tmp 41) = .pointer (some ⟨X, 7, none⟩) := (eval_tmp v38).trans b38.1
      refine step_val rfl (run_slice _ _ _ _ _ #[(0, .pointer (some ⟨X, 6, none⟩)), (1, .pointer (some ⟨X, 7, none⟩))] _ _ _ rfl (by simp only [List.map_toArray, List.map_cons, List.map_nil, u35, u38]; try rfl) (row2 X 6 7 w1)) ⟨(Below.refl _ _).alloc (Nat.le_refl _) _, [w1.heap.size], ⟨w1.heap.size, 2, if_pos rfl, Blk.at rfl, rfl⟩, fun b hb => .inr (by have e : b = w1.heap.size := (by simpa using hb); omega), fun b hb => (by have e : b = w1.heap.size := (by simpa using hb); rw [al_size]; omega)⟩
    · obtain ⟨v39, b39⟩ := hd 39 (by decide); obtain ⟨r, c, e1, e2, e3⟩ := b39
      have u39 : a1.eval (.tmp 42) = .slice (some ⟨r, 0, none⟩) 2 c := (eval_tmp v39).trans e1
      refine step_call rfl (run_call _ _ _ _ _ #[.int .i64 1, .int .i64 0, .int .i64 65535, .slice (some ⟨r, 0, none⟩) 2 c] _ rfl (by simp only [List.map_toArray, List.map_cons, List.map_nil, u39]; try rfl) rfl) ((numbers_new X 1 0 65535 [6, 7] r c w1 e2).mono ?_)
      rintro e w2 ⟨fv, fp, own, rfl, hF, k1, k2, k3, k4⟩
      exact ⟨fv, rfl, k4, fp, ⟨own, hF, k3⟩, fun b hb => (k1 b hb).elim (fun h => .inl ⟨39, by decide, rfl, e3 ▸ h⟩) .inr, k2⟩
    · refine step_call rfl (run_call _ _ _ _ _ #[.int .i64 2] _ rfl (by simp only [List.map_toArray, List.map_cons, List.map_nil]; try rfl) rfl) ((free_new X 2 w1).mono ?_)
      rintro e w2 ⟨fv, fp, own, rfl, hF, k1, k2, k3, k4⟩
      exact ⟨fv, rfl, k4, fp, ⟨own, hF, k3⟩, fun b hb => (k1 b hb).elim (fun h => (nomatch h)) .inr, k2⟩
    · exact step_val rfl (run_move _ _ _ _ rfl) ⟨Below.refl _ _, [], ⟨(if_pos rfl).trans (eval_tmp (h0.trans rfl)), rfl⟩, fun _ h => (nomatch h), fun _ h => (nomatch h)⟩
    · obtain ⟨v42, b42⟩ := hd 42 (by decide); exact step_val rfl (run_nilCheck _ _ _ _ _ rfl ((eval_tmp v42).trans b42.1)) ⟨Below.refl _ _, [], ⟨if_pos rfl, rfl⟩, fun _ h => (nomatch h), fun _ h => (nomatch h)⟩
    · obtain ⟨v43, b43⟩ := hd 43 (by decide); exact step_val rfl (run_field _ _ _ _ _ _ _ _ rfl ((eval_tmp v43).trans b43.1) (head_at5 X _)) ⟨Below.refl _ _, [], ⟨if_pos rfl, rfl⟩, fun _ h => (nomatch h), fun _ h => (nomatch h)⟩
    · obtain ⟨v44, b44⟩ := hd 44 (by decide); have u44 : a1.eval (.tmp 47) = .pointer (some ⟨X, 8, none⟩) := (eval_tmp v44).trans b44.1
      refine step_call rfl (run_call _ _ _ _ _ #[.int .i64 1, .int .i64 0, .int .i64 1, .pointer (some ⟨X, 8, none⟩)] _ rfl (by simp only [List.map_toArray, List.map_cons, List.map_nil, u44]; try rfl) rfl) ((either_new X 1 0 1 8 w1).mono ?_)
      rintro e w2 ⟨fv, fp, own, rfl, hF, k1, k2, k3, k4⟩
      exact ⟨fv, rfl, k4, fp, ⟨own, hF, k3⟩, fun b hb => (k1 b hb).elim (fun h => (nomatch h)) .inr, k2⟩
    · refine step_call rfl (run_call _ _ _ _ _ #[.int .i64 1, .int .i64 0] _ rfl (by simp only [List.map_toArray, List.map_cons, List.map_nil]; try rfl) rfl) ((just_new X 1 0 w1).mono ?_)
      rintro e w2 ⟨fv, fp, own, rfl, hF, k1, k2, k3, k4⟩
      exact ⟨fv, rfl, k4, fp, ⟨own, hF, k3⟩, fun b hb => (k1 b hb).elim (fun h => (nomatch h)) .inr, k2⟩
    · obtain ⟨v0, b0⟩ := hd 0 (by decide); obtain ⟨v1, b1⟩ := hd 1 (by decide); obtain ⟨v2, b2⟩ := hd 2 (by decide); obtain ⟨v3, b3⟩ := hd 3 (by decide); obtain ⟨v8, b8⟩ := hd 8 (by decide); obtain ⟨v13, b13⟩ := hd 13 (by decide); obtain ⟨v14, b14⟩ := hd 14 (by decide); obtain ⟨v32, b32⟩ := hd 32 (by decide); obtain ⟨v40, b40⟩ := hd 40 (by decide); obtain ⟨v41, b41⟩ := hd 41 (by decide); obtain ⟨v45, b45⟩ := hd 45 (by decide); obtain ⟨v46, b46⟩ := hd 46 (by decide); obtain ⟨_, f0, _⟩ := b0; obtain ⟨g0, l0, y0⟩ := f0.func; have u0 : a1.eval (.tmp 3) = .func g0 #[] l0 := (eval_tmp v0).trans y0
      obtain ⟨_, f1, _⟩ := b1; obtain ⟨g1, l1, y1⟩ := f1.func; have u1 : a1.eval (.tmp 4) = .func g1 #[] l1 := (eval_tmp v1).trans y1
      obtain ⟨_, f2, _⟩ := b2; obtain ⟨g2, l2, y2⟩ := f2.func; have u2 : a1.eval (.tmp 5) = .func g2 #[] l2 := (eval_tmp v2).trans y2
      obtain ⟨_, f3, _⟩ := b3; obtain ⟨g3, l3, y3⟩ := f3.func; have u3 : a1.eval (.tmp 6) = .func g3 #[] l3 := (eval_tmp v3).trans y3
      obtain ⟨_, f8, _⟩ := b8; obtain ⟨g8, l8, y8⟩ := f8.func; have u8 : a1.eval (.tmp 11) = .func g8 #[] l8 := (eval_tmp v8).trans y8
      obtain ⟨_, f13, _⟩ := b13; obtain ⟨g13, l13, y13⟩ := f13.func; have u13 : a1.eval (.tmp 16) = .func g13 #[] l13 := (eval_tmp v13).trans y13
      obtain ⟨_, f14, _⟩ := b14; obtain ⟨g14, l14, y14⟩ := f14.func; have u14 : a1.eval (.tmp 17) = .func g14 #[] l14 := (eval_tmp v14).trans y14
      obtain ⟨_, f32, _⟩ := b32; obtain ⟨g32, l32, y32⟩ := f32.func; have u32 : a1.eval (.tmp 35) = .func g32 #[] l32 := (eval_tmp v32).trans y32
      obtain ⟨_, f40, _⟩ := b40; obtain ⟨g40, l40, y40⟩ := f40.func; have u40 : a1.eval (.tmp 43) = .func g40 #[] l40 := (eval_tmp v40).trans y40
      obtain ⟨_, f41, _⟩ := b41; obtain ⟨g41, l41, y41⟩ := f41.func; have u41 : a1.eval (.tmp 44) = .func g41 #[] l41 := (eval_tmp v41).trans y41
      obtain ⟨_, f45, _⟩ := b45; obtain ⟨g45, l45, y45⟩ := f45.func; have u45 : a1.eval (.tmp 48) = .func g45 #[] l45 := (eval_tmp v45).trans y45
      obtain ⟨_, f46, _⟩ := b46; obtain ⟨g46, l46, y46⟩ := f46.func; have u46 : a1.eval (.tmp 49) = .func g46 #[] l46 := (eval_tmp v46).trans y46
      refine step_val rfl (run_slice _ _ _ _ _ #[(0, .func g0 #[] l0), (1, .func g1 #[] l1), (2, .func g2 #[] l2), (3, .func g3 #[] l3), (4, .func g8 #[] l8), (5, .func g13 #[] l13), (6, .func g14 #[] l14), (7, .func g32 #[] l32), (8, .func g40 #[] l40), (9, .func g41 #[] l41), (10, .func g45 #[] l45), (11, .func g46 #[] l46)] _ _ _ rfl (by simp only [List.map_toArray, List.map_cons, List.map_nil, u0, u1, u2, u3, u8, u13, u14, u32, u40, u41, u45, u46]; try rfl) (row_fn12 g0 g1 g2 g3 g8 g13 g14 g32 g40 g41 g45 g46 l0 l1 l2 l3 l8 l13 l14 l32 l40 l41 l45 l46 w1)) ⟨(Below.refl _ _).alloc (Nat.le_refl _) _, [w1.heap.size], ⟨w1.heap.size, 12, if_pos rfl, ?_, rfl⟩, fun b hb => .inr (by have e : b = w1.heap.size := (by simpa using hb); omega), fun b hb => (by have e : b = w1.heap.size := (by simpa using hb); rw [al_size]; omega)⟩
      simp only [List.map_cons, List.map_nil, y0, y1, y2, y3, y8, y13, y14, y32, y40, y41, y45, y46]
      exact Blk.at rfl
    · obtain ⟨v47, b47⟩ := hd 47 (by decide); exact step_val rfl (run_assign _ _ _ _ rfl) ⟨Below.refl _ _, [], ⟨(if_pos rfl).trans (eval_tmp v47), rfl⟩, fun _ h => (nomatch h), fun _ h => (nomatch h)⟩
  · intro a1 w1 V F listed hl g
    have T := fun i h => And.intro (g.val i (hl i h)) (g.fact i (hl i h))
    obtain ⟨r, c, e1, e2, e3⟩ := (T 47 (by decide)).2
    have hv : V 48 = .slice (some ⟨r, 0, none⟩) (List.length [0, 1, 2, 3, 8, 13, 14, 32, 40, 41, 45, 46]) c := (T 48 (by decide)).2.1.trans e1
    have hfin : GaveFs w X [.just 1 1, .just 1 0, .free 8, .just 3 1594834165, .nums 1 0 65535 [1], .nums 1 16 16384 [0], .free 16, .nums 2 (-32768) 32767 [2, 3, 4, 5], .nums 1 0 65535 [6, 7], .free 2, .eith 1 0 1 8, .just 1 0] (.returned (V 48)) w1 := by
      have hsep : ∀ i < 49, ∀ j < 49, i ≠ j → hEats i j = false → hEats j i = false → ∀ b ∈ F i, b ∉ F j := fun i hi j hj h1 h2 h3 => g.sep i j (hl i hi) (hl j hj) h1 h2 h3
      refine gaveFs_of (V := V) (F := F) [0, 1, 2, 3, 8, 13, 14, 32, 40, 41, 45, 46] [.just 1 1, .just 1 0, .free 8, .just 3 1594834165, .nums 1 0 65535 [1], .nums 1 16 16384 [0], .free 16, .nums 2 (-32768) 32767 [2, 3, 4, 5], .nums 1 0 65535 [6, 7], .free 2, .eith 1 0 1 8, .just 1 0] r c _ hv rfl e2 ?_ ?_ ?_ ?_ g.below
      · intro j k d hk hd
        rcases j with _ | _ | _ | _ | _ | _ | _ | _ | _ | _ | _ | _ | j <;> cases hk <;> cases hd <;> first | exact (T 0 (by decide)).2 | exact (T 1 (by decide)).2 | exact (T 2 (by decide)).2 | exact (T 3 (by decide)).2 | exact (T 8 (by decide)).2 | exact (T 13 (by decide)).2 | exact (T 14 (by decide)).2 | exact (T 32 (by decide)).2 | exact (T 40 (by decide)).2 | exact (T 41 (by decide)).2 | exact (T 45 (by decide)).2 | exact (T 46 (by decide)).2
      · intro k hk
        have : k < 49 := by revert k; decide
        exact fun b hb => g.low k (hl k this) b hb
      · intro i j k l hij hk hl2
        rcases i with _ | _ | _ | _ | _ | _ | _ | _ | _ | _ | _ | _ | j <;> cases hk <;> rcases j with _ | _ | _ | _ | _ | _ | _ | _ | _ | _ | _ | _ | j <;> first | (exfalso; omega) | (cases hl2 <;> exact hsep _ (by decide) _ (by decide) (by decide) rfl rfl)
      · intro k hk hm
        have hall : ∀ k ∈ [0, 1, 2, 3, 8, 13, 14, 32, 40, 41, 45, 46], k < 49 ∧ k ≠ 47 ∧ hEats k 47 = false ∧ hEats 47 k = false := by decide
        have h1 := hall k hk
        exact hsep 47 (by decide) k h1.1 (Ne.symm h1.2.1) h1.2.2.2 h1.2.2.1 r (by rw [e3]; simp) hm
    have hval := (T 48 (by decide)).1
    obtain ⟨tm, df⟩ := a1
    obtain rfl : df = [] := g.defers
    have hv2 : tm[2]? = some (V 48) := hval
    have hv3 : tm.getD 2 undef = V 48 := by rw [Array.getD_eq_getD_getElem?, hv2]; rfl
    clear g T hval
    (try simp only [Exit.then])
    first | go_at_K | skip
    go_wp2
    go_ret
    rw [hv3]
    exact hfin

end Go.Proofs.Ytbomgaacahaofaa

namespace Go.Proofs.Ytbomgaacahaofaa
open Go Go.RowKit

theorem from_new (p : Nat) (w : World) : Calls Try.prog 50 #[.pointer (some ⟨p, 0, none⟩)] w fun e w' => e = .returned (.func (.func 63) #[] #[.pointer (some ⟨w.heap.size, 0, none⟩)]) ∧ w' = w.alloc (.cells #[.pointer (some ⟨p, 0, none⟩)] 99) := by
  go_enter Try.func50, Try.ntmps50
  go_wp2
  go_ret
  exact ⟨rfl, rfl⟩
theorem into_new (p : Nat) (w : World) : Calls Try.prog 43 #[.pointer (some ⟨p, 0, none⟩)] w fun e w' => e = .returned (.func (.func 53) #[] #[.pointer (some ⟨w.heap.size, 0, none⟩)]) ∧ w' = w.alloc (.cells #[.pointer (some ⟨p, 0, none⟩)] 81) := by
  go_enter Try.func43, Try.ntmps43
  go_wp2
  go_ret
  exact ⟨rfl, rfl⟩
theorem rs_done {q : Nat → Prop} (p : Nat) (bs : List Value) (k : Nat) (w : World) (h : RS q w p bs k) : Calls Try.prog 51 #[.pointer (some ⟨p, 0, none⟩)] w fun e w' => e = .returned (.int .i64 (if k ≤ bs.length then 0 else 30)) ∧ w = w' := by
  rcases h with ⟨h1, A, c, hb, _⟩ | ⟨h1, i, A, c, hb, _⟩
  · rw [if_pos h1]
    exact rdone_low p bs.length c k A false w hb
  · rw [if_neg (by omega)]
    exact rdone_low p bs.length c i A true w hb

theorem numRun_size {σ : Type} (step : Nat → σ → Int → σ) (val : Nat → σ → Int → Int) (kd : Nat) (la lb : Int) : ∀ (os : List Nat) (s : σ) (cs : Array Value) (m : Bool), (numRun step val kd la lb os s cs m).2.2.size = cs.size
  | [], _, _, _ => rfl
  | o :: os, s, cs, m => by rw [numRun_cons, numRun_size step val kd la lb os, Array.size_setIfInBounds]
theorem fdRun_size {σ : Type} (step : Nat → σ → Int → σ) (val : Nat → σ → Int → Int) (s : σ) (cs : Array Value) (d : FD) : (fdRun step val s cs d).2.2.size = cs.size := by
  cases d with
  | nums kd la lb os => exact numRun_size step val kd la lb os s cs true
  | just kd x => rfl
  | free n => rfl
  | eith kd no yes o => exact Array.size_setIfInBounds
  | cond o n => rfl
theorem runAll_size {σ : Type} (step : Nat → σ → Int → σ) (val : Nat → σ → Int → Int) : ∀ (ds : List FD) (s : σ) (cs : Array Value), (runAll step val ds s cs).2.2.size = cs.size
  | [], _, _ => rfl
  | d :: ds, s, cs => by
    rw [runAll_cons]
    split
    · rw [runAll_size step val ds, fdRun_size]
    · exact fdRun_size step val s cs d
theorem bools_one {l : List Value} (h : l.all (·.oneCell') = true) : ∀ v ∈ l, v.oneCell' = true := fun v hv => List.all_eq_true.1 h v hv
theorem set_one {cs : Array Value} (h : cs.all (·.oneCell') = true) (o : Nat) {v : Value} (hv : v.oneCell' = true) : (cs.setIfInBounds o v).all (·.oneCell') = true := by
  rw [Array.all_eq_true_iff_forall_mem] at h ⊢
  intro x hx
  rcases Array.mem_or_eq_of_mem_setIfInBounds hx with h1 | rfl
  · exact h x h1
  · exact hv
theorem numRun_one {σ : Type} (step : Nat → σ → Int → σ) (val : Nat → σ → Int → Int) (kd : Nat) (la lb : Int) : ∀ (os : List Nat) (s : σ) (cs : Array Value) (m : Bool), cs.all (·.oneCell') = true → (numRun step val kd la lb os s cs m).2.2.all (·.oneCell') = true
  | [], _, _, _, h => h
  | o :: os, s, cs, m, h => by rw [numRun_cons]; exact numRun_one step val kd la lb os _ _ _ (set_one h o rfl)
theorem fdRun_one {σ : Type} (step : Nat → σ → Int → σ) (val : Nat → σ → Int → Int) (s : σ) (cs : Array Value) (d : FD) (h : cs.all (·.oneCell') = true) : (fdRun step val s cs d).2.2.all (·.oneCell') = true := by
  cases d with
  | nums kd la lb os => exact numRun_one step val kd la lb os s cs true h
  | just kd x => exact h
  | free n => exact h
  | eith kd no yes o => exact set_one h o rfl
  | cond o n => exact h
theorem runAll_one {σ : Type} (step : Nat → σ → Int → σ) (val : Nat → σ → Int → Int) : ∀ (ds : List FD) (s : σ) (cs : Array Value), cs.all (·.oneCell') = true → (runAll step val ds s cs).2.2.all (·.oneCell') = true
  | [], _, _, h => h
  | d :: ds, s, cs, h => by
    rw [runAll_cons]
    split
    · exact runAll_one step val ds _ _ (fdRun_one step val s cs d h)
    · exact fdRun_one step val s cs d h
theorem Blk.row {w : World} {p : Nat} {T : TypeId} {cs : Array Value} (h : Blk w p T cs) (cs1 : Array Value) : Blk (w.setRow p cs1) p T cs1 := setRow_heap w p cs cs1 T (0, 0) h

/-- The reader behind from, and that what was there before stays. -/
def IFrom2 (w0 : World) (q : Nat → Prop) (r p : Nat) (bs : List Value) (k : Nat) (w : World) : Prop := IFrom q r p bs k w ∧ Below w0.heap.size w0 w
theorem from_carr2 (w0 : World) (q : Nat → Prop) (r p : Nat) (bs : List Value) (hL : bs.length ≤ 4611686018427387904) (R : Nat) (hp0 : w0.heap.size ≤ p) :
    Carr 63 #[.pointer (some ⟨r, 0, none⟩)] (IFrom2 w0 q r p bs) (fun b => (¬ q b ∧ b ≠ r) ∧ w0.heap.size ≤ b) id R (fun kd k _ => k + wid kd) (fun kd k _ => rdk bs kd k) where
  eg := fun _ _ => rfl
  below := fun s w w' ⟨h, hb0⟩ hb => ⟨(from_carr q r p bs hL R).below s w w' h hb, hb0.trans (hb.mono hb0.size)⟩
  store := fun s w w' b T cs ⟨h, hb0⟩ ok hT hb o => ⟨(from_carr q r p bs hL R).store s w w' b T cs h ok.1 hT hb o, hb0.trans (o.to_below hb0.size (by simpa using ok.2))⟩
  fresh := fun s w b ⟨h, hb0⟩ hb => ⟨(from_carr q r p bs hL R).fresh s w b h hb, Nat.le_trans hb0.size hb⟩
  size := fun _ _ _ _ => rfl
  call := fun w s kd b o T cs x hk ⟨⟨h1, h2, ⟨_, h3⟩, h4⟩, hb0⟩ ok hT hb ho hlen => by
    have hp := blk_ne hb h3 (plain_ne hT).2.2.2
    refine (from_any kd hk r p b o s bs T cs w h2 h1 hL hb ?_ hp ok.1.1).mono ?_
    · rcases Nat.lt_or_ge o cs.size with h | h
      · exact h
      · rw [Array.getElem?_eq_none h] at ho; cases ho
    · rintro e w' ⟨rfl, hs, hb1, o1⟩
      have n1 : r ≠ p := blk_ne h2 h3 (by decide)
      have key : ∀ (q : Nat) (T1 : TypeId) (cs1 : Array Value), plain T1 = true → q ≠ b → Blk w q T1 cs1 → Blk w' q T1 cs1 :=
        fun q1 T1 cs1 hT1 hq hk => hk.only o1 (by simpa using ⟨blk_ne hk h3 (plain_ne hT1).2.2.2, hq⟩)
      exact ⟨rfl, ⟨⟨hs, key r _ _ (by decide) ok.1.2.symm h2, rs_blk hs, fun b hq => Nat.lt_of_lt_of_le (h4 b hq) o1.size⟩, hb0.trans (o1.to_below hb0.size (by intro x hx; simp at hx; rcases hx with rfl | rfl; exact hp0; exact ok.2))⟩, hb1, o1.size, key⟩

/-- What fields come to out of bytes, and into bytes. -/
def rdRun (bs : List Value) (ds : List FD) (cs : Array Value) : Bool × Nat × Array Value := runAll (fun kd k _ => k + wid kd) (fun kd k _ => rdk bs kd k) ds 0 cs
def wrRun (ds : List FD) (cs : Array Value) : Bool × List Value × Array Value := runAll (fun kd L x => L ++ bek kd x) (fun _ _ x => x) ds [] cs
theorem shRunAll {σ : Type} {step : Nat → σ → Int → σ} {val : Nat → σ → Int → Int} {is bs : List Nat} (hd : ∀ o ∈ is, o ∉ bs) : ∀ (ds : List FD) (s : σ) (cs : Array Value), (∀ d ∈ ds, fdOk is bs d) → Sh is bs cs → Sh is bs (runAll step val ds s cs).2.2
  | [], s, cs, _, h => h
  | d :: ds, s, cs, hk, h => by
    have h1 := h.run (step := step) (val := val) (s := s) hd (hk d (by simp))
    rw [runAll_cons]
    split
    · exact shRunAll hd ds _ _ (fun x hx => hk x (by simp [hx])) h1
    · exact h1
/-- A table was read. -/
def GotR (w : World) (mk : Array Value → Value) (cs0 : Array Value) (err : Int) (r : Bool × Nat × Array Value) (n : Nat) (e : Ending) (w' : World) : Prop :=
  e = .returned (.tuple #[if r.1 && decide (r.2.1 ≤ n) then mk r.2.2 else mk cs0, .int .i64 (if r.1 && decide (r.2.1 ≤ n) then 0 else err)]) ∧ Below w.heap.size w w'

def mkG (cs : Array Value) : Value := .agg cs
def dsG : List FD := [.eith 3 20480 65536 1, .nums 1 1 65535 [0], .cond 1 26]
def zG : Array Value := #[.int .i64 0, .bool false]

def mkL (cs : Array Value) : Value := .agg cs
def dsL : List FD := [.just 1 1, .just 1 0, .nums 2 (-32768) 32767 [0, 1, 2], .free 22, .just 1 0, .nums 1 1 65535 [3]]
def zL : Array Value := #[.int .i64 0, .int .i64 0, .int .i64 0, .int .i64 0]

def mkH (cs : Array Value) : Value := .agg cs
def dsH : List FD := [.just 1 1, .just 1 0, .free 8, .just 3 1594834165, .nums 1 0 65535 [1], .nums 1 16 16384 [0], .free 16, .nums 2 (-32768) 32767 [2, 3, 4, 5], .nums 1 0 65535 [6, 7], .free 2, .eith 1 0 1 8, .just 1 0]
def zH : Array Value := #[.int .i64 0, .int .i64 0, .int .i64 0, .int .i64 0, .int .i64 0, .int .i64 0, .int .i64 0, .int .i64 0, .bool false]

end Go.Proofs.Ytbomgaacahaofaa
