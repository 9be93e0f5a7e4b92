/- Part 5 of the proof of HeadsHeadReads: Head, Read, Hm, Hw, Hb. -/
import Derived.Laws.Tables
import Derived.Laws.CopyOwn
import Derived.Test.YtbomgaacahaofaaM3HeadsHeadReads

namespace Go.Proofs.Ytbomgaacahaofaa
open Go Go.RowKit

set_option maxRecDepth 100000 in
theorem head_at0 (X : Nat) (w : World) : (Instr.fieldAt 25 (.pointer (some ⟨X, 0, none⟩)) 0).run Try.prog w = .ok (.pointer (some ⟨X, 0, none⟩)) w := by
  rfl
set_option maxRecDepth 100000 in
theorem head_at1 (X : Nat) (w : World) : (Instr.fieldAt 25 (.pointer (some ⟨X, 0, none⟩)) 1).run Try.prog w = .ok (.pointer (some ⟨X, 1, none⟩)) w := by
  rfl
set_option maxRecDepth 100000 in
theorem head_at2 (X : Nat) (w : World) : (Instr.fieldAt 25 (.pointer (some ⟨X, 0, none⟩)) 2).run Try.prog w = .ok (.pointer (some ⟨X, 2, none⟩)) w := by
  rfl
set_option maxRecDepth 100000 in
theorem head_at3 (X : Nat) (w : World) : (Instr.fieldAt 25 (.pointer (some ⟨X, 0, none⟩)) 3).run Try.prog w = .ok (.pointer (some ⟨X, 6, none⟩)) w := by
  rfl
set_option maxRecDepth 100000 in
theorem head_at4 (X : Nat) (w : World) : (Instr.fieldAt 25 (.pointer (some ⟨X, 0, none⟩)) 4).run Try.prog w = .ok (.pointer (some ⟨X, 7, none⟩)) w := by
  rfl
set_option maxRecDepth 100000 in
theorem head_at5 (X : Nat) (w : World) : (Instr.fieldAt 25 (.pointer (some ⟨X, 0, none⟩)) 5).run Try.prog w = .ok (.pointer (some ⟨X, 8, none⟩)) w := by
  rfl
set_option maxRecDepth 100000 in
theorem box_at0 (X : Nat) (w : World) : (Instr.fieldAt 23 (.pointer (some ⟨X, 2, none⟩)) 0).run Try.prog w = .ok (.pointer (some ⟨X, 2, none⟩)) w := by
  rfl
set_option maxRecDepth 100000 in
theorem box_at1 (X : Nat) (w : World) : (Instr.fieldAt 23 (.pointer (some ⟨X, 2, none⟩)) 1).run Try.prog w = .ok (.pointer (some ⟨X, 3, none⟩)) w := by
  rfl
set_option maxRecDepth 100000 in
theorem box_at2 (X : Nat) (w : World) : (Instr.fieldAt 23 (.pointer (some ⟨X, 2, none⟩)) 2).run Try.prog w = .ok (.pointer (some ⟨X, 4, none⟩)) w := by
  rfl
set_option maxRecDepth 100000 in
theorem box_at3 (X : Nat) (w : World) : (Instr.fieldAt 23 (.pointer (some ⟨X, 2, none⟩)) 3).run Try.prog w = .ok (.pointer (some ⟨X, 5, none⟩)) w := by
  rfl
set_option maxRecDepth 100000 in
theorem row2 (X o0 o1 : Nat) (w : World) : (Instr.buildSlice 111 2 #[(0, .pointer (some ⟨X, o0, none⟩)), (1, .pointer (some ⟨X, o1, none⟩))]).run Try.prog w = .ok (.slice (some ⟨w.heap.size, 0, none⟩) 2 2) (w.alloc (.cells #[.pointer (some ⟨X, o0, none⟩), .pointer (some ⟨X, o1, none⟩)] 96)) := by
  go_simp
set_option maxRecDepth 100000 in
theorem row4 (X o0 o1 o2 o3 : Nat) (w : World) : (Instr.buildSlice 111 4 #[(0, .pointer (some ⟨X, o0, none⟩)), (1, .pointer (some ⟨X, o1, none⟩)), (2, .pointer (some ⟨X, o2, none⟩)), (3, .pointer (some ⟨X, o3, none⟩))]).run Try.prog w = .ok (.slice (some ⟨w.heap.size, 0, none⟩) 4 4) (w.alloc (.cells #[.pointer (some ⟨X, o0, none⟩), .pointer (some ⟨X, o1, none⟩), .pointer (some ⟨X, o2, none⟩), .pointer (some ⟨X, o3, none⟩)] 96)) := by
  go_simp
set_option maxRecDepth 100000 in
theorem row_fn12 (g0 g1 g2 g3 g4 g5 g6 g7 g8 g9 g10 g11 : Fn) (l0 l1 l2 l3 l4 l5 l6 l7 l8 l9 l10 l11 : Array Value) (w : World) : (Instr.buildSlice 87 12 #[(0, .func g0 #[] l0), (1, .func g1 #[] l1), (2, .func g2 #[] l2), (3, .func g3 #[] l3), (4, .func g4 #[] l4), (5, .func g5 #[] l5), (6, .func g6 #[] l6), (7, .func g7 #[] l7), (8, .func g8 #[] l8), (9, .func g9 #[] l9), (10, .func g10 #[] l10), (11, .func g11 #[] l11)]).run Try.prog w = .ok (.slice (some ⟨w.heap.size, 0, none⟩) 12 12) (w.alloc (.cells #[.func g0 #[] l0, .func g1 #[] l1, .func g2 #[] l2, .func g3 #[] l3, .func g4 #[] l4, .func g5 #[] l5, .func g6 #[] l6, .func g7 #[] l7, .func g8 #[] l8, .func g9 #[] l9, .func g10 #[] l10, .func g11 #[] l11] 91)) := by
  go_simp

def hDst : Nat → Nat
  | 0 => 3
  | 1 => 4
  | 2 => 5
  | 3 => 6
  | 4 => 7
  | 5 => 8
  | 6 => 9
  | 7 => 10
  | 8 => 11
  | 9 => 12
  | 10 => 13
  | 11 => 14
  | 12 => 15
  | 13 => 16
  | 14 => 17
  | 15 => 18
  | 16 => 19
  | 17 => 20
  | 18 => 21
  | 19 => 22
  | 20 => 23
  | 21 => 24
  | 22 => 25
  | 23 => 26
  | 24 => 27
  | 25 => 28
  | 26 => 29
  | 27 => 30
  | 28 => 31
  | 29 => 32
  | 30 => 33
  | 31 => 34
  | 32 => 35
  | 33 => 36
  | 34 => 37
  | 35 => 38
  | 36 => 39
  | 37 => 40
  | 38 => 41
  | 39 => 42
  | 40 => 43
  | 41 => 44
  | 42 => 45
  | 43 => 46
  | 44 => 47
  | 45 => 48
  | 46 => 49
  | 47 => 50
  | 48 => 2
  | _ => 0
def hDep : Nat → List Nat
  | 5 => [4]
  | 6 => [5]
  | 7 => [6]
  | 8 => [7]
  | 10 => [9]
  | 11 => [10]
  | 12 => [11]
  | 13 => [12]
  | 16 => [15]
  | 17 => [16]
  | 18 => [17]
  | 20 => [19]
  | 21 => [20]
  | 22 => [21]
  | 24 => [23]
  | 25 => [24]
  | 26 => [25]
  | 28 => [27]
  | 29 => [28]
  | 30 => [29]
  | 31 => [18, 22, 26, 30]
  | 32 => [31]
  | 34 => [33]
  | 35 => [34]
  | 37 => [36]
  | 38 => [37]
  | 39 => [35, 38]
  | 40 => [39]
  | 43 => [42]
  | 44 => [43]
  | 45 => [44]
  | 47 => [0, 1, 2, 3, 8, 13, 14, 32, 40, 41, 45, 46]
  | 48 => [47]
  | _ => []
def hBook : Nat → Bk
  | 0 => .fld (.just 1 1)
  | 1 => .fld (.just 1 0)
  | 2 => .fld (.free 8)
  | 3 => .fld (.just 3 1594834165)
  | 4 => .ptr 0
  | 5 => .ptr 0
  | 6 => .ptr 1
  | 7 => .row [1]
  | 8 => .fld (.nums 1 0 65535 [1])
  | 9 => .ptr 0
  | 10 => .ptr 0
  | 11 => .ptr 0
  | 12 => .row [0]
  | 13 => .fld (.nums 1 16 16384 [0])
  | 14 => .fld (.free 16)
  | 15 => .ptr 0
  | 16 => .ptr 0
  | 17 => .ptr 2
  | 18 => .ptr 2
  | 19 => .ptr 0
  | 20 => .ptr 0
  | 21 => .ptr 2
  | 22 => .ptr 3
  | 23 => .ptr 0
  | 24 => .ptr 0
  | 25 => .ptr 2
  | 26 => .ptr 4
  | 27 => .ptr 0
  | 28 => .ptr 0
  | 29 => .ptr 2
  | 30 => .ptr 5
  | 31 => .row [2, 3, 4, 5]
  | 32 => .fld (.nums 2 (-32768) 32767 [2, 3, 4, 5])
  | 33 => .ptr 0
  | 34 => .ptr 0
  | 35 => .ptr 6
  | 36 => .ptr 0
  | 37 => .ptr 0
  | 38 => .ptr 7
  | 39 => .row [6, 7]
  | 40 => .fld (.nums 1 0 65535 [6, 7])
  | 41 => .fld (.free 2)
  | 42 => .ptr 0
  | 43 => .ptr 0
  | 44 => .ptr 8
  | 45 => .fld (.eith 1 0 1 8)
  | 46 => .fld (.just 1 0)
  | 47 => .top [0, 1, 2, 3, 8, 13, 14, 32, 40, 41, 45, 46]
  | 48 => .last 47
  | _ => .ptr 0
def hEats (j k : Nat) : Bool := (j == 8 && k == 7) || (j == 13 && k == 12) || (j == 32 && k == 31) || (j == 40 && k == 39)

set_option maxRecDepth 100000 in
set_option maxHeartbeats 1000000 in
theorem headFields_any (X : Nat) (w : World) : Calls Try.prog 25 #[.pointer (some ⟨X, 0, none⟩)] w (GaveFs w X [.just 1 1, .just 1 0, .free 8, .just 3 1594834165, .nums 1 0 65535 [1], .nums 1 16 16384 [0], .free 16, .nums 2 (-32768) 32767 [2, 3, 4, 5], .nums 1 0 65535 [6, 7], .free 2, .eith 1 0 1 8, .just 1 0]) := by
  go_enter Try.func25, Try.ntmps25
  go_wp2
  refine wp_region_book (by kernel_rfl) hDst ?_ ?_ ?_ hDep ?_ ?_ hEats ?_ (fun i V w F => BkAt X V w F i (hBook i)) ?_ ?_ ?_
  · intro i o ho
    rcases i with _ | _ | _ | _ | _ | _ | _ | _ | _ | _ | _ | _ | _ | _ | _ | _ | _ | _ | _ | _ | _ | _ | _ | _ | _ | _ | _ | _ | _ | _ | _ | _ | _ | _ | _ | _ | _ | _ | _ | _ | _ | _ | _ | _ | _ | _ | _ | _ | _ | i <;> cases ho <;> rfl
  · have h : ∀ i < 49, ∀ j < 49, hDst i = hDst j → i = j := by decide
    exact fun i j hi hj => h i hi j hj
  · have h : ∀ i < 49, hDst i < 51 ∧ hDst i ≠ 0 := by decide
    exact fun i hi => h i hi
  · intro i o ho
    rcases i with _ | _ | _ | _ | _ | _ | _ | _ | _ | _ | _ | _ | _ | _ | _ | _ | _ | _ | _ | _ | _ | _ | _ | _ | _ | _ | _ | _ | _ | _ | _ | _ | _ | _ | _ | _ | _ | _ | _ | _ | _ | _ | _ | _ | _ | _ | _ | _ | _ | i <;> cases ho <;> decide
  · intro i o ho
    rcases i with _ | _ | _ | _ | _ | _ | _ | _ | _ | _ | _ | _ | _ | _ | _ | _ | _ | _ | _ | _ | _ | _ | _ | _ | _ | _ | _ | _ | _ | _ | _ | _ | _ | _ | _ | _ | _ | _ | _ | _ | _ | _ | _ | _ | _ | _ | _ | _ | _ | i <;> cases ho <;> decide
  · intro j k i h hi
    simp only [hEats, Bool.or_eq_true, Bool.and_eq_true, beq_iff_eq, Bool.or_eq_false_iff, Bool.and_eq_false_iff, beq_eq_false_iff_ne] at h ⊢
    omega
  · intro i V V1 w w1 F h hV hb
    refine h.keep (dep := hDep i) ?_ hV hb
    rcases i with _ | _ | _ | _ | _ | _ | _ | _ | _ | _ | _ | _ | _ | _ | _ | _ | _ | _ | _ | _ | _ | _ | _ | _ | _ | _ | _ | _ | _ | _ | _ | _ | _ | _ | _ | _ | _ | _ | _ | _ | _ | _ | _ | _ | _ | _ | _ | _ | _ | i <;> first | decide | (intro k hk; cases hk)
  · intro i o ho a1 w1 V F hs h0 hb hd
    rcases i with _ | _ | _ | _ | _ | _ | _ | _ | _ | _ | _ | _ | _ | _ | _ | _ | _ | _ | _ | _ | _ | _ | _ | _ | _ | _ | _ | _ | _ | _ | _ | _ | _ | _ | _ | _ | _ | _ | _ | _ | _ | _ | _ | _ | _ | _ | _ | _ | _ | i <;> cases ho
    · refine step_call rfl (run_call _ _ _ _ _ #[.int .i64 1, .int .i64 1] _ rfl (by simp only [List.map_toArray, List.map_cons, List.map_nil]; try rfl) rfl) ((just_new X 1 1 w1).mono ?_)
      rintro e w2 ⟨fv, fp, own, rfl, hF, k1, k2, k3, k4⟩
      exact ⟨fv, rfl, k4, fp, ⟨own, hF, k3⟩, fun b hb => (k1 b hb).elim (fun h => (nomatch h)) .inr, k2⟩
    · refine step_call rfl (run_call _ _ _ _ _ #[.int .i64 1, .int .i64 0] _ rfl (by simp only [List.map_toArray, List.map_cons, List.map_nil]; try rfl) rfl) ((just_new X 1 0 w1).mono ?_)
      rintro e w2 ⟨fv, fp, own, rfl, hF, k1, k2, k3, k4⟩
      exact ⟨fv, rfl, k4, fp, ⟨own, hF, k3⟩, fun b hb => (k1 b hb).elim (fun h => (nomatch h)) .inr, k2⟩
    · refine step_call rfl (run_call _ _ _ _ _ #[.int .i64 8] _ rfl (by simp only [List.map_toArray, List.map_cons, List.map_nil]; try rfl) rfl) ((free_new X 8 w1).mono ?_)
      rintro e w2 ⟨fv, fp, own, rfl, hF, k1, k2, k3, k4⟩
      exact ⟨fv, rfl, k4, fp, ⟨own, hF, k3⟩, fun b hb => (k1 b hb).elim (fun h => (nomatch h)) .inr, k2⟩
    · refine step_call rfl (run_call _ _ _ _ _ #[.int .i64 3, .int .i64 1594834165] _ rfl (by simp only [List.map_toArray, List.map_cons, List.map_nil]; try rfl) rfl) ((just_new X 3 1594834165 w1).mono ?_)
      rintro e w2 ⟨fv, fp, own, rfl, hF, k1, k2, k3, k4⟩
      exact ⟨fv, rfl, k4, fp, ⟨own, hF, k3⟩, fun b hb => (k1 b hb).elim (fun h => (nomatch h)) .inr, k2⟩
    · exact step_val rfl (run_move _ _ _ _ rfl) ⟨Below.refl _ _, [], ⟨(if_pos rfl).trans (eval_tmp (h0.trans rfl)), rfl⟩, fun _ h => (nomatch h), fun _ h => (nomatch h)⟩
    · obtain ⟨v4, b4⟩ := hd 4 (by decide); exact step_val rfl (run_nilCheck _ _ _ _ _ rfl ((eval_tmp v4).trans b4.1)) ⟨Below.refl _ _, [], ⟨if_pos rfl, rfl⟩, fun _ h => (nomatch h), fun _ h => (nomatch h)⟩
    · obtain ⟨v5, b5⟩ := hd 5 (by decide); exact step_val rfl (run_field _ _ _ _ _ _ _ _ rfl ((eval_tmp v5).trans b5.1) (head_at1 X _)) ⟨Below.refl _ _, [], ⟨if_pos rfl, rfl⟩, fun _ h => (nomatch h), fun _ h => (nomatch h)⟩
    · obtain ⟨v6, b6⟩ := hd 6 (by decide); have u6 : a1.eval (.tmp 9) = .pointer (some ⟨X, 1, none⟩) := (eval_tmp v6).trans b6.1
      refine step_val rfl (run_slice _ _ _ _ _ #[(0, .pointer (some ⟨X, 1, none⟩))] _ _ _ rfl (by simp only [List.map_toArray, List.map_cons, List.map_nil, u6]; try rfl) (row1 X 1 w1)) ⟨(Below.refl _ _).alloc (Nat.le_refl _) _, [w1.heap.size], ⟨w1.heap.size, 1, if_pos rfl, Blk.at rfl, rfl⟩, fun b hb => .inr (by have e : b = w1.heap.size := (by simpa using hb); omega), fun b hb => (by have e : b = w1.heap.size := (by simpa using hb); rw [al_size]; omega)⟩
    · obtain ⟨v7, b7⟩ := hd 7 (by decide); obtain ⟨r, c, e1, e2, e3⟩ := b7
      have u7 : a1.eval (.tmp 10) = .slice (some ⟨r, 0, none⟩) 1 c := (eval_tmp v7).trans e1
      refine step_call rfl (run_call _ _ _ _ _ #[.int .i64 1, .int .i64 0, .int .i64 65535, .slice (some ⟨r, 0, none⟩) 1 c] _ rfl (by simp only [List.map_toArray, List.map_cons, List.map_nil, u7]; try rfl) rfl) ((numbers_new X 1 0 65535 [1] r c w1 e2).mono ?_)
      rintro e w2 ⟨fv, fp, own, rfl, hF, k1, k2, k3, k4⟩
      exact ⟨fv, rfl, k4, fp, ⟨own, hF, k3⟩, fun b hb => (k1 b hb).elim (fun h => .inl ⟨7, by decide, rfl, e3 ▸ h⟩) .inr, k2⟩
    · exact step_val rfl (run_move _ _ _ _ rfl) ⟨Below.refl _ _, [], ⟨(if_pos rfl).trans (eval_tmp (h0.trans rfl)), rfl⟩, fun _ h => (nomatch h), fun _ h => (nomatch h)⟩
    · obtain ⟨v9, b9⟩ := hd 9 (by decide); exact step_val rfl (run_nilCheck _ _ _ _ _ rfl ((eval_tmp v9).trans b9.1)) ⟨Below.refl _ _, [], ⟨if_pos rfl, rfl⟩, fun _ h => (nomatch h), fun _ h => (nomatch h)⟩
    · obtain ⟨v10, b10⟩ := hd 10 (by decide); exact step_val rfl (run_field _ _ _ _ _ _ _ _ rfl ((eval_tmp v10).trans b10.1) (head_at0 X _)) ⟨Below.refl _ _, [], ⟨if_pos rfl, rfl⟩, fun _ h => (nomatch h), fun _ h => (nomatch h)⟩
    · obtain ⟨v11, b11⟩ := hd 11 (by decide); have u11 : a1.eval (.tmp 14) = .pointer (some ⟨X, 0, none⟩) := (eval_tmp v11).trans b11.1
      refine step_val rfl (run_slice _ _ _ _ _ #[(0, .pointer (some ⟨X, 0, none⟩))] _ _ _ rfl (by simp only [List.map_toArray, List.map_cons, List.map_nil, u11]; try rfl) (row1 X 0 w1)) ⟨(Below.refl _ _).alloc (Nat.le_refl _) _, [w1.heap.size], ⟨w1.heap.size, 1, if_pos rfl, Blk.at rfl, rfl⟩, fun b hb => .inr (by have e : b = w1.heap.size := (by simpa using hb); omega), fun b hb => (by have e : b = w1.heap.size := (by simpa using hb); rw [al_size]; omega)⟩
    · obtain ⟨v12, b12⟩ := hd 12 (by decide); obtain ⟨r, c, e1, e2, e3⟩ := b12
      have u12 : a1.eval (.tmp 15) = .slice (some ⟨r, 0, none⟩) 1 c := (eval_tmp v12).trans e1
      refine step_call rfl (run_call _ _ _ _ _ #[.int .i64 1, .int .i64 16, .int .i64 16384, .slice (some ⟨r, 0, none⟩) 1 c] _ rfl (by simp only [List.map_toArray, List.map_cons, List.map_nil, u12]; try rfl) rfl) ((numbers_new X 1 16 16384 [0] r c w1 e2).mono ?_)
      rintro e w2 ⟨fv, fp, own, rfl, hF, k1, k2, k3, k4⟩
      exact ⟨fv, rfl, k4, fp, ⟨own, hF, k3⟩, fun b hb => (k1 b hb).elim (fun h => .inl ⟨12, by decide, rfl, e3 ▸ h⟩) .inr, k2⟩
    · refine step_call rfl (run_call _ _ _ _ _ #[.int .i64 16] _ rfl (by simp only [List.map_toArray, List.map_cons, List.map_nil]; try rfl) rfl) ((free_new X 16 w1).mono ?_)
      rintro e w2 ⟨fv, fp, own, rfl, hF, k1, k2, k3, k4⟩
      exact ⟨fv, rfl, k4, fp, ⟨own, hF, k3⟩, fun b hb => (k1 b hb).elim (fun h => (nomatch h)) .inr, k2⟩
    · exact step_val rfl (run_move _ _ _ _ rfl) ⟨Below.refl _ _, [], ⟨(if_pos rfl).trans (eval_tmp (h0.trans rfl)), rfl⟩, fun _ h => (nomatch h), fun _ h => (nomatch h)⟩
    · obtain ⟨v15, b15⟩ := hd 15 (by decide); exact step_val rfl (run_nilCheck _ _ _ _ _ rfl ((eval_tmp v15).trans b15.1)) ⟨Below.refl _ _, [], ⟨if_pos rfl, rfl⟩, fun _ h => (nomatch h), fun _ h => (nomatch h)⟩
    · obtain ⟨v16, b16⟩ := hd 16 (by decide); exact step_val rfl (run_field _ _ _ _ _ _ _ _ rfl ((eval_tmp v16).trans b16.1) (head_at2 X _)) ⟨Below.refl _ _, [], ⟨if_pos rfl, rfl⟩, fun _ h => (nomatch h), fun _ h => (nomatch h)⟩
    · obtain ⟨v17, b17⟩ := hd 17 (by decide); exact step_val rfl (run_field _ _ _ _ _ _ _ _ rfl ((eval_tmp v17).trans b17.1) (box_at0 X _)) ⟨Below.refl _ _, [], ⟨if_pos rfl, rfl⟩, fun _ h => (nomatch h), fun _ h => (nomatch h)⟩
    · exact step_val rfl (run_move _ _ _ _ rfl) ⟨Below.refl _ _, [], ⟨(if_pos rfl).trans (eval_tmp (h0.trans rfl)), rfl⟩, fun _ h => (nomatch h), fun _ h => (nomatch h)⟩
    · obtain ⟨v19, b19⟩ := hd 19 (by decide); exact step_val rfl (run_nilCheck _ _ _ _ _ rfl ((eval_tmp v19).trans b19.1)) ⟨Below.refl _ _, [], ⟨if_pos rfl, rfl⟩, fun _ h => (nomatch h), fun _ h => (nomatch h)⟩
    · obtain ⟨v20, b20⟩ := hd 20 (by decide); exact step_val rfl (run_field _ _ _ _ _ _ _ _ rfl ((eval_tmp v20).trans b20.1) (head_at2 X _)) ⟨Below.refl _ _, [], ⟨if_pos rfl, rfl⟩, fun _ h => (nomatch h), fun _ h => (nomatch h)⟩
    · obtain ⟨v21, b21⟩ := hd 21 (by decide); exact step_val rfl (run_field _ _ _ _ _ _ _ _ rfl ((eval_tmp v21).trans b21.1) (box_at1 X _)) ⟨Below.refl _ _, [], ⟨if_pos rfl, rfl⟩, fun _ h => (nomatch h), fun _ h => (nomatch h)⟩
    · exact step_val rfl (run_move _ _ _ _ rfl) ⟨Below.refl _ _, [], ⟨(if_pos rfl).trans (eval_tmp (h0.trans rfl)), rfl⟩, fun _ h => (nomatch h), fun _ h => (nomatch h)⟩
    · obtain ⟨v23, b23⟩ := hd 23 (by decide); exact step_val rfl (run_nilCheck _ _ _ _ _ rfl ((eval_tmp v23).trans b23.1)) ⟨Below.refl _ _, [], ⟨if_pos rfl, rfl⟩, fun _ h => (nomatch h), fun _ h => (nomatch h)⟩
    · obtain ⟨v24, b24⟩ := hd 24 (by decide); exact step_val rfl (run_field _ _ _ _ _ _ _ _ rfl ((eval_tmp v24).trans b24.1) (head_at2 X _)) ⟨Below.refl _ _, [], ⟨if_pos rfl, rfl⟩, fun _ h => (nomatch h), fun _ h => (nomatch h)⟩
    · obtain ⟨v25, b25⟩ := hd 25 (by decide); exact step_val rfl (run_field _ _ _ _ _ _ _ _ rfl ((eval_tmp v25).trans b25.1) (box_at2 X _)) ⟨Below.refl _ _, [], ⟨if_pos rfl, rfl⟩, fun _ h => (nomatch h), fun _ h => (nomatch h)⟩
    · exact step_val rfl (run_move _ _ _ _ rfl) ⟨Below.refl _ _, [], ⟨(if_pos rfl).trans (eval_tmp (h0.trans rfl)), rfl⟩, fun _ h => (nomatch h), fun _ h => (nomatch h)⟩
    · obtain ⟨v27, b27⟩ := hd 27 (by decide); exact step_val rfl (run_nilCheck _ _ _ _ _ rfl ((eval_tmp v27).trans b27.1)) ⟨Below.refl _ _, [], ⟨if_pos rfl, rfl⟩, fun _ h => (nomatch h), fun _ h => (nomatch h)⟩
    · obtain ⟨v28, b28⟩ := hd 28 (by decide); exact step_val rfl (run_field _ _ _ _ _ _ _ _ rfl ((eval_tmp v28).trans b28.1) (head_at2 X _)) ⟨Below.refl _ _, [], ⟨if_pos rfl, rfl⟩, fun _ h => (nomatch h), fun _ h => (nomatch h)⟩
    · obtain ⟨v29, b29⟩ := hd 29 (by decide); exact step_val rfl (run_field _ _ _ _ _ _ _ _ rfl ((eval_tmp v29).trans b29.1) (box_at3 X _)) ⟨Below.refl _ _, [], ⟨if_pos rfl, rfl⟩, fun _ h => (nomatch h), fun _ h => (nomatch h)⟩
    · obtain ⟨v18, b18⟩ := hd 18 (by decide); obtain ⟨v22, b22⟩ := hd 22 (by decide); obtain ⟨v26, b26⟩ := hd 26 (by decide); obtain ⟨v30, b30⟩ := hd 30 (by decide); have u18 : a1.eval (.tmp 21) = .pointer (some ⟨X, 2, none⟩) := (eval_tmp v18).trans b18.1
      have u22 : a1.eval (.tmp 25) = .pointer (some ⟨X, 3, none⟩) := (eval_tmp v22).trans b22.1
      have u26 : a1.eval (.tmp 29) = .pointer (some ⟨X, 4, none⟩) := (eval_tmp v26).trans b26.1
      have u30 : a1.eval (.tmp 33) = .pointer (some ⟨X, 5, none⟩) := (eval_tmp v30).trans b30.1
      refine step_val rfl (run_slice _ _ _ _ _ #[(0, .pointer (some ⟨X, 2, none⟩)), (1, .pointer (some ⟨X, 3, none⟩)), (2, .pointer (some ⟨X, 4, none⟩)), (3, .pointer (some ⟨X, 5, none⟩))] _ _ _ rfl (by simp only [List.map_toArray, List.map_cons, List.map_nil, u18, u22, u26, u30]; try rfl) (row4 X 2 3 4 5 w1)) ⟨(Below.refl _ _).alloc (Nat.le_refl _) _, [w1.heap.size], ⟨w1.heap.size, 4, if_pos rfl, Blk.at rfl, rfl⟩, fun b hb => .inr (by have e : b = w1.heap.size := (by simpa using hb); omega), fun b hb => (by have e : b = w1.heap.size := (by simpa using hb); rw [al_size]; omega)⟩
    · obtain ⟨v31, b31⟩ := hd 31 (by decide); obtain ⟨r, c, e1, e2, e3⟩ := b31
      have u31 : a1.eval (.tmp 34) = .slice (some ⟨r, 0, none⟩) 4 c := (eval_tmp v31).trans e1
      refine step_call rfl (run_call _ _ _ _ _ #[.int .i64 2, .int .i64 (-32768), .int .i64 32767, .slice (some ⟨r, 0, none⟩) 4 c] _ rfl (by simp only [List.map_toArray, List.map_cons, List.map_nil, u31]; try rfl) rfl) ((numbers_new X 2 (-32768) 32767 [2, 3, 4, 5] r c w1 e2).mono ?_)
      rintro e w2 ⟨fv, fp, own, rfl, hF, k1, k2, k3, k4⟩
      exact ⟨fv, rfl, k4, fp, ⟨own, hF, k3⟩, fun b hb => (k1 b hb).elim (fun h => .inl ⟨31, by decide, rfl, e3 ▸ h⟩) .inr, k2⟩
    · exact step_val rfl (run_move _ _ _ _ rfl) ⟨Below.refl _ _, [], ⟨(if_pos rfl).trans (eval_tmp (h0.trans rfl)), rfl⟩, fun _ h => (nomatch h), fun _ h => (nomatch h)⟩
    · obtain ⟨v33, b33⟩ := hd 33 (by decide); exact step_val rfl (run_nilCheck _ _ _ _ _ rfl ((eval_tmp v33).trans b33.1)) ⟨Below.refl _ _, [], ⟨if_pos rfl, rfl⟩, fun _ h => (nomatch h), fun _ h => (nomatch h)⟩
    · obtain ⟨v34, b34⟩ := hd 34 (by decide); exact step_val rfl (run_field _ _ _ _ _ _ _ _ rfl ((eval_tmp v34).trans b34.1) (head_at3 X _)) ⟨Below.refl _ _, [], ⟨if_pos rfl, rfl⟩, fun _ h => (nomatch h), fun _ h => (nomatch h)⟩
    · exact step_val rfl (run_move _ _ _ _ rfl) ⟨Below.refl _ _, [], ⟨(if_pos rfl).trans (eval_tmp (h0.trans rfl)), rfl⟩, fun _ h => (nomatch h), fun _ h => (nomatch h)⟩
    · obtain ⟨v36, b36⟩ := hd 36 (by decide); exact step_val rfl (run_nilCheck _ _ _ _ _ rfl ((eval_tmp v36).trans b36.1)) ⟨Below.refl _ _, [], ⟨if_pos rfl, rfl⟩, fun _ h => (nomatch h), fun _ h => (nomatch h)⟩
    · obtain ⟨v37, b37⟩ := hd 37 (by decide); exact step_val rfl (run_field _ _ _ _ _ _ _ _ rfl ((eval_tmp v37).trans b37.1) (head_at4 X _)) ⟨Below.refl _ _, [], ⟨if_pos rfl, rfl⟩, fun _ h => (nomatch h), fun _ h => (nomatch h)⟩
    · obtain ⟨v35, b35⟩ := hd 35 (by decide); obtain ⟨v38, b38⟩ := hd 38 (by decide); have u35 : a1.eval (.tmp 38) = .pointer (some ⟨X, 6, none⟩) := (eval_tmp v35).trans b35.1
      have u38 : a1.eval (.tmp 41) = .pointer (some ⟨X, 7, none⟩) := (eval_tmp v38).trans b38.1
      refine step_val rfl (run_slice _ _ _ _ _ #[(0, .pointer (some ⟨X, 6, none⟩)), (1, .pointer (some ⟨X, 7, none⟩))] _ _ _ rfl (by simp only [List.map_toArray, List.map_cons, List.map_nil, u35, u38]; try rfl) (row2 X 6 7 w1)) ⟨(Below.refl _ _).alloc (Nat.le_refl _) _, [w1.heap.size], ⟨w1.heap.size, 2, if_pos rfl, Blk.at rfl, rfl⟩, fun b hb => .inr (by have e : b = w1.heap.size := (by simpa using hb); omega), fun b hb => (by have e : b = w1.heap.size := (by simpa using hb); rw [al_size]; omega)⟩
    · obtain ⟨v39, b39⟩ := hd 39 (by decide); obtain ⟨r, c, e1, e2, e3⟩ := b39
      have u39 : a1.eval (.tmp 42) = .slice (some ⟨r, 0, none⟩) 2 c := (eval_tmp v39).trans e1
      refine step_call rfl (run_call _ _ _ _ _ #[.int .i64 1, .int .i64 0, .int .i64 65535, .slice (some ⟨r, 0, none⟩) 2 c] _ rfl (by simp only [List.map_toArray, List.map_cons, List.map_nil, u39]; try rfl) rfl) ((numbers_new X 1 0 65535 [6, 7] r c w1 e2).mono ?_)
      rintro e w2 ⟨fv, fp, own, rfl, hF, k1, k2, k3, k4⟩
      exact ⟨fv, rfl, k4, fp, ⟨own, hF, k3⟩, fun b hb => (k1 b hb).elim (fun h => .inl ⟨39, by decide, rfl, e3 ▸ h⟩) .inr, k2⟩
    · refine step_call rfl (run_call _ _ _ _ _ #[.int .i64 2] _ rfl (by simp only [List.map_toArray, List.map_cons, List.map_nil]; try rfl) rfl) ((free_new X 2 w1).mono ?_)
      rintro e w2 ⟨fv, fp, own, rfl, hF, k1, k2, k3, k4⟩
      exact ⟨fv, rfl, k4, fp, ⟨own, hF, k3⟩, fun b hb => (k1 b hb).elim (fun h => (nomatch h)) .inr, k2⟩
    · exact step_val rfl (run_move _ _ _ _ rfl) ⟨Below.refl _ _, [], ⟨(if_pos rfl).trans (eval_tmp (h0.trans rfl)), rfl⟩, fun _ h => (nomatch h), fun _ h => (nomatch h)⟩
    · obtain ⟨v42, b42⟩ := hd 42 (by decide); exact step_val rfl (run_nilCheck _ _ _ _ _ rfl ((eval_tmp v42).trans b42.1)) ⟨Below.refl _ _, [], ⟨if_pos rfl, rfl⟩, fun _ h => (nomatch h), fun _ h => (nomatch h)⟩
    · obtain ⟨v43, b43⟩ := hd 43 (by decide); exact step_val rfl (run_field _ _ _ _ _ _ _ _ rfl ((eval_tmp v43).trans b43.1) (head_at5 X _)) ⟨Below.refl _ _, [], ⟨if_pos rfl, rfl⟩, fun _ h => (nomatch h), fun _ h => (nomatch h)⟩
    · obtain ⟨v44, b44⟩ := hd 44 (by decide); have u44 : a1.eval (.tmp 47) = .pointer (some ⟨X, 8, none⟩) := (eval_tmp v44).trans b44.1
      refine step_call rfl (run_call _ _ _ _ _ #[.int .i64 1, .int .i64 0, .int .i64 1, .pointer (some ⟨X, 8, none⟩)] _ rfl (by simp only [List.map_toArray, List.map_cons, List.map_nil, u44]; try rfl) rfl) ((either_new X 1 0 1 8 w1).mono ?_)
      rintro e w2 ⟨fv, fp, own, rfl, hF, k1, k2, k3, k4⟩
      exact ⟨fv, rfl, k4, fp, ⟨own, hF, k3⟩, fun b hb => (k1 b hb).elim (fun h => (nomatch h)) .inr, k2⟩
    · refine step_call rfl (run_call _ _ _ _ _ #[.int .i64 1, .int .i64 0] _ rfl (by simp only [List.map_toArray, List.map_cons, List.map_nil]; try rfl) rfl) ((just_new X 1 0 w1).mono ?_)
      rintro e w2 ⟨fv, fp, own, rfl, hF, k1, k2, k3, k4⟩
      exact ⟨fv, rfl, k4, fp, ⟨own, hF, k3⟩, fun b hb => (k1 b hb).elim (fun h => (nomatch h)) .inr, k2⟩
    · obtain ⟨v0, b0⟩ := hd 0 (by decide); obtain ⟨v1, b1⟩ := hd 1 (by decide); obtain ⟨v2, b2⟩ := hd 2 (by decide); obtain ⟨v3, b3⟩ := hd 3 (by decide); obtain ⟨v8, b8⟩ := hd 8 (by decide); obtain ⟨v13, b13⟩ := hd 13 (by decide); obtain ⟨v14, b14⟩ := hd 14 (by decide); obtain ⟨v32, b32⟩ := hd 32 (by decide); obtain ⟨v40, b40⟩ := hd 40 (by decide); obtain ⟨v41, b41⟩ := hd 41 (by decide); obtain ⟨v45, b45⟩ := hd 45 (by decide); obtain ⟨v46, b46⟩ := hd 46 (by decide); obtain ⟨_, f0, _⟩ := b0; obtain ⟨g0, l0, y0⟩ := f0.func; have u0 : a1.eval (.tmp 3) = .func g0 #[] l0 := (eval_tmp v0).trans y0
      obtain ⟨_, f1, _⟩ := b1; obtain ⟨g1, l1, y1⟩ := f1.func; have u1 : a1.eval (.tmp 4) = .func g1 #[] l1 := (eval_tmp v1).trans y1
      obtain ⟨_, f2, _⟩ := b2; obtain ⟨g2, l2, y2⟩ := f2.func; have u2 : a1.eval (.tmp 5) = .func g2 #[] l2 := (eval_tmp v2).trans y2
      obtain ⟨_, f3, _⟩ := b3; obtain ⟨g3, l3, y3⟩ := f3.func; have u3 : a1.eval (.tmp 6) = .func g3 #[] l3 := (eval_tmp v3).trans y3
      obtain ⟨_, f8, _⟩ := b8; obtain ⟨g8, l8, y8⟩ := f8.func; have u8 : a1.eval (.tmp 11) = .func g8 #[] l8 := (eval_tmp v8).trans y8
      obtain ⟨_, f13, _⟩ := b13; obtain ⟨g13, l13, y13⟩ := f13.func; have u13 : a1.eval (.tmp 16) = .func g13 #[] l13 := (eval_tmp v13).trans y13
      obtain ⟨_, f14, _⟩ := b14; obtain ⟨g14, l14, y14⟩ := f14.func; have u14 : a1.eval (.tmp 17) = .func g14 #[] l14 := (eval_tmp v14).trans y14
      obtain ⟨_, f32, _⟩ := b32; obtain ⟨g32, l32, y32⟩ := f32.func; have u32 : a1.eval (.tmp 35) = .func g32 #[] l32 := (eval_tmp v32).trans y32
      obtain ⟨_, f40, _⟩ := b40; obtain ⟨g40, l40, y40⟩ := f40.func; have u40 : a1.eval (.tmp 43) = .func g40 #[] l40 := (eval_tmp v40).trans y40
      obtain ⟨_, f41, _⟩ := b41; obtain ⟨g41, l41, y41⟩ := f41.func; have u41 : a1.eval (.tmp 44) = .func g41 #[] l41 := (eval_tmp v41).trans y41
      obtain ⟨_, f45, _⟩ := b45; obtain ⟨g45, l45, y45⟩ := f45.func; have u45 : a1.eval (.tmp 48) = .func g45 #[] l45 := (eval_tmp v45).trans y45
      obtain ⟨_, f46, _⟩ := b46; obtain ⟨g46, l46, y46⟩ := f46.func; have u46 : a1.eval (.tmp 49) = .func g46 #[] l46 := (eval_tmp v46).trans y46
      refine step_val rfl (run_slice _ _ _ _ _ #[(0, .func g0 #[] l0), (1, .func g1 #[] l1), (2, .func g2 #[] l2), (3, .func g3 #[] l3), (4, .func g8 #[] l8), (5, .func g13 #[] l13), (6, .func g14 #[] l14), (7, .func g32 #[] l32), (8, .func g40 #[] l40), (9, .func g41 #[] l41), (10, .func g45 #[] l45), (11, .func g46 #[] l46)] _ _ _ rfl (by simp only [List.map_toArray, List.map_cons, List.map_nil, u0, u1, u2, u3, u8, u13, u14, u32, u40, u41, u45, u46]; try rfl) (row_fn12 g0 g1 g2 g3 g8 g13 g14 g32 g40 g41 g45 g46 l0 l1 l2 l3 l8 l13 l14 l32 l40 l41 l45 l46 w1)) ⟨(Below.refl _ _).alloc (Nat.le_refl _) _, [w1.heap.size], ⟨w1.heap.size, 12, if_pos rfl, ?_, rfl⟩, fun b hb => .inr (by have e : b = w1.heap.size := (by simpa using hb); omega), fun b hb => (by have e : b = w1.heap.size := (by simpa using hb); rw [al_size]; omega)⟩
      simp only [List.map_cons, List.map_nil, y0, y1, y2, y3, y8, y13, y14, y32, y40, y41, y45, y46]
      exact Blk.at rfl
    · obtain ⟨v47, b47⟩ := hd 47 (by decide); exact step_val rfl (run_assign _ _ _ _ rfl) ⟨Below.refl _ _, [], ⟨(if_pos rfl).trans (eval_tmp v47), rfl⟩, fun _ h => (nomatch h), fun _ h => (nomatch h)⟩
  · intro a1 w1 V F listed hl g
    have T := fun i h => And.intro (g.val i (hl i h)) (g.fact i (hl i h))
    obtain ⟨r, c, e1, e2, e3⟩ := (T 47 (by decide)).2
    have hv : V 48 = .slice (some ⟨r, 0, none⟩) (List.length [0, 1, 2, 3, 8, 13, 14, 32, 40, 41, 45, 46]) c := (T 48 (by decide)).2.1.trans e1
    have hfin : GaveFs w X [.just 1 1, .just 1 0, .free 8, .just 3 1594834165, .nums 1 0 65535 [1], .nums 1 16 16384 [0], .free 16, .nums 2 (-32768) 32767 [2, 3, 4, 5], .nums 1 0 65535 [6, 7], .free 2, .eith 1 0 1 8, .just 1 0] (.returned (V 48)) w1 := by
      have hsep : ∀ i < 49, ∀ j < 49, i ≠ j → hEats i j = false → hEats j i = false → ∀ b ∈ F i, b ∉ F j := fun i hi j hj h1 h2 h3 => g.sep i j (hl i hi) (hl j hj) h1 h2 h3
      refine gaveFs_of (V := V) (F := F) [0, 1, 2, 3, 8, 13, 14, 32, 40, 41, 45, 46] [.just 1 1, .just 1 0, .free 8, .just 3 1594834165, .nums 1 0 65535 [1], .nums 1 16 16384 [0], .free 16, .nums 2 (-32768) 32767 [2, 3, 4, 5], .nums 1 0 65535 [6, 7], .free 2, .eith 1 0 1 8, .just 1 0] r c _ hv rfl e2 ?_ ?_ ?_ ?_ g.below
      · intro j k d hk hd
        rcases j with _ | _ | _ | _ | _ | _ | _ | _ | _ | _ | _ | _ | j <;> cases hk <;> cases hd <;> first | exact (T 0 (by decide)).2 | exact (T 1 (by decide)).2 | exact (T 2 (by decide)).2 | exact (T 3 (by decide)).2 | exact (T 8 (by decide)).2 | exact (T 13 (by decide)).2 | exact (T 14 (by decide)).2 | exact (T 32 (by decide)).2 | exact (T 40 (by decide)).2 | exact (T 41 (by decide)).2 | exact (T 45 (by decide)).2 | exact (T 46 (by decide)).2
      · intro k hk
        have : k < 49 := by revert k; decide
        exact fun b hb => g.low k (hl k this) b hb
      · intro i j k l hij hk hl2
        rcases i with _ | _ | _ | _ | _ | _ | _ | _ | _ | _ | _ | _ | j <;> cases hk <;> rcases j with _ | _ | _ | _ | _ | _ | _ | _ | _ | _ | _ | _ | j <;> first | (exfalso; omega) | (cases hl2 <;> exact hsep _ (by decide) _ (by decide) (by decide) rfl rfl)
      · intro k hk hm
        have hall : ∀ k ∈ [0, 1, 2, 3, 8, 13, 14, 32, 40, 41, 45, 46], k < 49 ∧ k ≠ 47 ∧ hEats k 47 = false ∧ hEats 47 k = false := by decide
        have h1 := hall k hk
        exact hsep 47 (by decide) k h1.1 (Ne.symm h1.2.1) h1.2.2.2 h1.2.2.1 r (by rw [e3]; simp) hm
    have hval := (T 48 (by decide)).1
    obtain ⟨tm, df⟩ := a1
    obtain rfl : df = [] := g.defers
    have hv2 : tm[2]? = some (V 48) := hval
    have hv3 : tm.getD 2 undef = V 48 := by rw [Array.getD_eq_getD_getElem?, hv2]; rfl
    clear g T hval
    (try simp only [Exit.then])
    first | go_at_K | skip
    go_wp2
    go_ret
    rw [hv3]
    exact hfin

end Go.Proofs.Ytbomgaacahaofaa

namespace Go.Proofs.Ytbomgaacahaofaa
open Go Go.RowKit

theorem from_new (p : Nat) (w : World) : Calls Try.prog 50 #[.pointer (some ⟨p, 0, none⟩)] w fun e w' => e = .returned (.func (.func 63) #[] #[.pointer (some ⟨w.heap.size, 0, none⟩)]) ∧ w' = w.alloc (.cells #[.pointer (some ⟨p, 0, none⟩)] 99) := by
  go_enter Try.func50, Try.ntmps50
  go_wp2
  go_ret
  exact ⟨rfl, rfl⟩
theorem into_new (p : Nat) (w : World) : Calls Try.prog 43 #[.pointer (some ⟨p, 0, none⟩)] w fun e w' => e = .returned (.func (.func 53) #[] #[.pointer (some ⟨w.heap.size, 0, none⟩)]) ∧ w' = w.alloc (.cells #[.pointer (some ⟨p, 0, none⟩)] 81) := by
  go_enter Try.func43, Try.ntmps43
  go_wp2
  go_ret
  exact ⟨rfl, rfl⟩
theorem rs_done {q : Nat → Prop} (p : Nat) (bs : List Value) (k : Nat) (w : World) (h : RS q w p bs k) : Calls Try.prog 51 #[.pointer (some ⟨p, 0, none⟩)] w fun e w' => e = .returned (.int .i64 (if k ≤ bs.length then 0 else 30)) ∧ w = w' := by
  rcases h with ⟨h1, A, c, hb, _⟩ | ⟨h1, i, A, c, hb, _⟩
  · rw [if_pos h1]
    exact rdone_low p bs.length c k A false w hb
  · rw [if_neg (by omega)]
    exact rdone_low p bs.length c i A true w hb

theorem numRun_size {σ : Type} (step : Nat → σ → Int → σ) (val : Nat → σ → Int → Int) (kd : Nat) (la lb : Int) : ∀ (os : List Nat) (s : σ) (cs : Array Value) (m : Bool), (numRun step val kd la lb os s cs m).2.2.size = cs.size
  | [], _, _, _ => rfl
  | o :: os, s, cs, m => by rw [numRun_cons, numRun_size step val kd la lb os, Array.size_setIfInBounds]
theorem fdRun_size {σ : Type} (step : Nat → σ → Int → σ) (val : Nat → σ → Int → Int) (s : σ) (cs : Array Value) (d : FD) : (fdRun step val s cs d).2.2.size = cs.size := by
  cases d with
  | nums kd la lb os => exact numRun_size step val kd la lb os s cs true
  | just kd x => rfl
  | free n => rfl
  | eith kd no yes o => exact Array.size_setIfInBounds
  | cond o n => rfl
theorem runAll_size {σ : Type} (step : Nat → σ → Int → σ) (val : Nat → σ → Int → Int) : ∀ (ds : List FD) (s : σ) (cs : Array Value), (runAll step val ds s cs).2.2.size = cs.size
  | [], _, _ => rfl
  | d :: ds, s, cs => by
    rw [runAll_cons]
    split
    · rw [runAll_size step val ds, fdRun_size]
    · exact fdRun_size step val s cs d
theorem bools_one {l : List Value} (h : l.all (·.oneCell') = true) : ∀ v ∈ l, v.oneCell' = true := fun v hv => List.all_eq_true.1 h v hv
theorem set_one {cs : Array Value} (h : cs.all (·.oneCell') = true) (o : Nat) {v : Value} (hv : v.oneCell' = true) : (cs.setIfInBounds o v).all (·.oneCell') = true := by
  rw [Array.all_eq_true_iff_forall_mem] at h ⊢
  intro x hx
  rcases Array.mem_or_eq_of_mem_setIfInBounds hx with h1 | rfl
  · exact h x h1
  · exact hv
theorem numRun_one {σ : Type} (step : Nat → σ → Int → σ) (val : Nat → σ → Int → Int) (kd : Nat) (la lb : Int) : ∀ (os : List Nat) (s : σ) (cs : Array Value) (m : Bool), cs.all (·.oneCell') = true → (numRun step val kd la lb os s cs m).2.2.all (·.oneCell') = true
  | [], _, _, _, h => h
  | o :: os, s, cs, m, h => by rw [numRun_cons]; exact numRun_one step val kd la lb os _ _ _ (set_one h o rfl)
theorem fdRun_one {σ : Type} (step : Nat → σ → Int → σ) (val : Nat → σ → Int → Int) (s : σ) (cs : Array Value) (d : FD) (h : cs.all (·.oneCell') = true) : (fdRun step val s cs d).2.2.all (·.oneCell') = true := by
  cases d with
  | nums kd la lb os => exact numRun_one step val kd la lb os s cs true h
  | just kd x => exact h
  | free n => exact h
  | eith kd no yes o => exact set_one h o rfl
  | cond o n => exact h
theorem runAll_one {σ : Type} (step : Nat → σ → Int → σ) (val : Nat → σ → Int → Int) : ∀ (ds : List FD) (s : σ) (cs : Array Value), cs.all (·.oneCell') = true → (runAll step val ds s cs).2.2.all (·.oneCell') = true
  | [], _, _, h => h
  | d :: ds, s, cs, h => by
    rw [runAll_cons]
    split
    · exact runAll_one step val ds _ _ (fdRun_one step val s cs d h)
    · exact fdRun_one step val s cs d h
theorem Blk.row {w : World} {p : Nat} {T : TypeId} {cs : Array Value} (h : Blk w p T cs) (cs1 : Array Value) : Blk (w.setRow p cs1) p T cs1 := setRow_heap w p cs cs1 T (0, 0) h

/-- The reader behind from, and that what was there before stays. -/
def IFrom2 (w0 : World) (q : Nat → Prop) (r p : Nat) (bs : List Value) (k : Nat) (w : World) : Prop := IFrom q r p bs k w ∧ Below w0.heap.size w0 w
theorem from_carr2 (w0 : World) (q : Nat → Prop) (r p : Nat) (bs : List Value) (hL : bs.length ≤ 4611686018427387904) (R : Nat) (hp0 : w0.heap.size ≤ p) :
    Carr 63 #[.pointer (some ⟨r, 0, none⟩)] (IFrom2 w0 q r p bs) (fun b => (¬ q b ∧ b ≠ r) ∧ w0.heap.size ≤ b) id R (fun kd k _ => k + wid kd) (fun kd k _ => rdk bs kd k) where
  eg := fun _ _ => rfl
  below := fun s w w' ⟨h, hb0⟩ hb => ⟨(from_carr q r p bs hL R).below s w w' h hb, hb0.trans (hb.mono hb0.size)⟩
  store := fun s w w' b T cs ⟨h, hb0⟩ ok hT hb o => ⟨(from_carr q r p bs hL R).store s w w' b T cs h ok.1 hT hb o, hb0.trans (o.to_below hb0.size (by simpa using ok.2))⟩
  fresh := fun s w b ⟨h, hb0⟩ hb => ⟨(from_carr q r p bs hL R).fresh s w b h hb, Nat.le_trans hb0.size hb⟩
  size := fun _ _ _ _ => rfl
  call := fun w s kd b o T cs x hk ⟨⟨h1, h2, ⟨_, h3⟩, h4⟩, hb0⟩ ok hT hb ho hlen => by
    have hp := blk_ne hb h3 (plain_ne hT).2.2.2
    refine (from_any kd hk r p b o s bs T cs w h2 h1 hL hb ?_ hp ok.1.1).mono ?_
    · rcases Nat.lt_or_ge o cs.size with h | h
      · exact h
      · rw [Array.getElem?_eq_none h] at ho; cases ho
    · rintro e w' ⟨rfl, hs, hb1, o1⟩
      have n1 : r ≠ p := blk_ne h2 h3 (by decide)
      have key : ∀ (q : Nat) (T1 : TypeId) (cs1 : Array Value), plain T1 = true → q ≠ b → Blk w q T1 cs1 → Blk w' q T1 cs1 :=
        fun q1 T1 cs1 hT1 hq hk => hk.only o1 (by simpa using ⟨blk_ne hk h3 (plain_ne hT1).2.2.2, hq⟩)
      exact ⟨rfl, ⟨⟨hs, key r _ _ (by decide) ok.1.2.symm h2, rs_blk hs, fun b hq => Nat.lt_of_lt_of_le (h4 b hq) o1.size⟩, hb0.trans (o1.to_below hb0.size (by intro x hx; simp at hx; rcases hx with rfl | rfl; exact hp0; exact ok.2))⟩, hb1, o1.size, key⟩

/-- What fields come to out of bytes, and into bytes. -/
def rdRun (bs : List Value) (ds : List FD) (cs : Array Value) : Bool × Nat × Array Value := runAll (fun kd k _ => k + wid kd) (fun kd k _ => rdk bs kd k) ds 0 cs
def wrRun (ds : List FD) (cs : Array Value) : Bool × List Value × Array Value := runAll (fun kd L x => L ++ bek kd x) (fun _ _ x => x) ds [] cs
theorem shRunAll {σ : Type} {step : Nat → σ → Int → σ} {val : Nat → σ → Int → Int} {is bs : List Nat} (hd : ∀ o ∈ is, o ∉ bs) : ∀ (ds : List FD) (s : σ) (cs : Array Value), (∀ d ∈ ds, fdOk is bs d) → Sh is bs cs → Sh is bs (runAll step val ds s cs).2.2
  | [], s, cs, _, h => h
  | d :: ds, s, cs, hk, h => by
    have h1 := h.run (step := step) (val := val) (s := s) hd (hk d (by simp))
    rw [runAll_cons]
    split
    · exact shRunAll hd ds _ _ (fun x hx => hk x (by simp [hx])) h1
    · exact h1
/-- A table was read. -/
def GotR (w : World) (mk : Array Value → Value) (cs0 : Array Value) (err : Int) (r : Bool × Nat × Array Value) (n : Nat) (e : Ending) (w' : World) : Prop :=
  e = .returned (.tuple #[if r.1 && decide (r.2.1 ≤ n) then mk r.2.2 else mk cs0, .int .i64 (if r.1 && decide (r.2.1 ≤ n) then 0 else err)]) ∧ Below w.heap.size w w'

def mkG (cs : Array Value) : Value := .agg cs
def dsG : List FD := [.eith 3 20480 65536 1, .nums 1 1 65535 [0], .cond 1 26]
def zG : Array Value := #[.int .i64 0, .bool false]

def mkL (cs : Array Value) : Value := .agg cs
def dsL : List FD := [.just 1 1, .just 1 0, .nums 2 (-32768) 32767 [0, 1, 2], .free 22, .just 1 0, .nums 1 1 65535 [3]]
def zL : Array Value := #[.int .i64 0, .int .i64 0, .int .i64 0, .int .i64 0]

def mkH (cs : Array Value) : Value := .agg cs
def dsH : List FD := [.just 1 1, .just 1 0, .free 8, .just 3 1594834165, .nums 1 0 65535 [1], .nums 1 16 16384 [0], .free 16, .nums 2 (-32768) 32767 [2, 3, 4, 5], .nums 1 0 65535 [6, 7], .free 2, .eith 1 0 1 8, .just 1 0]
def zH : Array Value := #[.int .i64 0, .int .i64 0, .int .i64 0, .int .i64 0, .int .i64 0, .int .i64 0, .int .i64 0, .int .i64 0, .bool false]

end Go.Proofs.Ytbomgaacahaofaa

namespace Go.Proofs.Ytbomgaacahaofaa
open Go Go.RowKit

theorem rsn_take (E : List Value) (n m k x : Nat) (h : k + m ≤ n) : rsn (E.take n) m k x = rsn E m k x := by
  unfold rsn
  rw [List.length_take]
  by_cases h1 : k + m ≤ E.length
  · rw [if_pos h1, if_pos (by omega)]
  · rw [if_neg h1, if_neg (by omega)]
theorem rdk_take (E : List Value) (n kd k : Nat) (hk : kd < 4) (h : k + wid kd ≤ n) : rdk (E.take n) kd k = rdk E kd k := by
  rcases kd with _ | _ | _ | _ | kd
  · have h : k + 1 ≤ n := h
    show ((rsn (E.take n) 1 k _ : Nat) : Int) = _
    rw [rsn_take _ _ _ _ _ h, byteAt_take (by omega)]; rfl
  · have h : k + 2 ≤ n := h
    show ((rsn (E.take n) 2 k _ : Nat) : Int) = _
    rw [rsn_take _ _ _ _ _ h, rd2_take (by omega)]; rfl
  · have h : k + 2 ≤ n := h
    show s16 (rsn (E.take n) 2 k _) = _
    rw [rsn_take _ _ _ _ _ h, rd2_take (by omega)]; rfl
  · have h : k + 4 ≤ n := h
    show ((rsn (E.take n) 4 k _ : Nat) : Int) = _
    rw [rsn_take _ _ _ _ _ h, rd4_take (by omega)]; rfl
  · omega
theorem rdk1_in (E : List Value) (k : Nat) (h : k + 2 ≤ E.length) : rdk E 1 k = ((rd2 E k : Nat) : Int) := by
  show ((rsn E 2 k _ : Nat) : Int) = _
  unfold rsn; rw [if_pos h]
theorem rdk2_in (E : List Value) (k : Nat) (h : k + 2 ≤ E.length) : rdk E 2 k = s16 (rd2 E k) := by
  show s16 (rsn E 2 k _) = _
  unfold rsn; rw [if_pos h]
theorem rdk3_in (E : List Value) (k : Nat) (h : k + 4 ≤ E.length) : rdk E 3 k = ((rd4 E k : Nat) : Int) := by
  show ((rsn E 4 k _ : Nat) : Int) = _
  unfold rsn; rw [if_pos h]
theorem rdk1_out (E : List Value) (k : Nat) (h : E.length < k + 2) : rdk E 1 k = 0 := by
  show ((rsn E 2 k _ : Nat) : Int) = _
  unfold rsn; rw [if_neg (by omega)]; rfl
theorem rdk3_out (E : List Value) (k : Nat) (h : E.length < k + 4) : rdk E 3 k = 0 := by
  show ((rsn E 4 k _ : Nat) : Int) = _
  unfold rsn; rw [if_neg (by omega)]; rfl
theorem rdk1_b (E : List Value) (h8 : Bytes8 E) (k : Nat) : 0 ≤ rdk E 1 k ∧ rdk E 1 k ≤ 65535 := by
  have h1 : rsn E 2 k (rd2 E k) < 65536 := rsn_lt (rd2_lt h8 k)
  have h2 : rdk E 1 k = ((rsn E 2 k (rd2 E k) : Nat) : Int) := rfl
  omega
theorem s16_b {x : Nat} (h : x < 65536) : -32768 ≤ s16 x ∧ s16 x ≤ 32767 := by unfold s16; split <;> omega
theorem rdk2_b (E : List Value) (h8 : Bytes8 E) (k : Nat) : -32768 ≤ rdk E 2 k ∧ rdk E 2 k ≤ 32767 := s16_b (rsn_lt (rd2_lt h8 k))
theorem free_rd : ∀ (n k : Nat), freeRun (fun kd k (_ : Int) => k + wid kd) n k = k + n
  | 0, k => rfl
  | n + 1, k => by
    rw [freeRun_succ, free_rd n]
    have : wid 0 = 1 := rfl
    omega
theorem free_wr : ∀ (n : Nat) (L : List Value), freeRun (fun kd (L : List Value) x => L ++ bek kd x) n L = L ++ List.replicate n (.int .u8 0)
  | 0, L => by simp [freeRun]
  | n + 1, L => by
    rw [freeRun_succ, free_wr n, List.append_assoc]
    rfl
theorem wid0 : wid 0 = 1 := rfl
theorem wid1 : wid 1 = 2 := rfl
theorem wid2 : wid 2 = 2 := rfl
theorem wid3 : wid 3 = 4 := rfl
theorem intAt_get {cs : Array Value} {o : Nat} {x : Int} (h : cs[o]? = some (.int .i64 x)) : intAt cs o = x := by unfold intAt; rw [h]
theorem boolAt_get {cs : Array Value} {o : Nat} {x : Bool} (h : cs[o]? = some (.bool x)) : boolAt cs o = x := by unfold boolAt; rw [h]

/-- May these bytes be glyphs, lines, a head? -/
def okG (E : List Value) : Bool := (decide (6 ≤ E.length) && (rd4 E 0 == 20480) && decide (1 ≤ rd2 E 4)) || (decide (32 ≤ E.length) && (rd4 E 0 == 65536) && decide (1 ≤ rd2 E 4))
def valG (E : List Value) : Value := .agg #[.int .i64 (rd2 E 4 : Nat), .bool (rd4 E 0 == 65536)]
def okL (E : List Value) : Bool := decide (36 ≤ E.length) && (rd2 E 0 == 1) && (rd2 E 2 == 0) && (rd2 E 32 == 0) && decide (1 ≤ rd2 E 34)
def valL (E : List Value) : Value := .agg #[.int .i64 (s16 (rd2 E 4)), .int .i64 (s16 (rd2 E 6)), .int .i64 (s16 (rd2 E 8)), .int .i64 (rd2 E 34 : Nat)]
def okH (E : List Value) : Bool := decide (54 ≤ E.length) && (rd2 E 0 == 1) && (rd2 E 2 == 0) && (rd4 E 12 == 1594834165) && decide (16 ≤ rd2 E 18) && decide (rd2 E 18 ≤ 16384) && decide (rd2 E 50 < 2) && (rd2 E 52 == 0)
def valH (E : List Value) : Value := .agg #[.int .i64 (rd2 E 18 : Nat), .int .i64 (rd2 E 16 : Nat), .int .i64 (s16 (rd2 E 36)), .int .i64 (s16 (rd2 E 38)), .int .i64 (s16 (rd2 E 40)), .int .i64 (s16 (rd2 E 42)), .int .i64 (rd2 E 44 : Nat), .int .i64 (rd2 E 46 : Nat), .bool (rd2 E 50 == 1)]

theorem jst {v x : Int} (h : v = x) : (decide (x ≤ v) && decide (v ≤ x)) = true := by subst h; simp
theorem njst {v x : Int} (h : ¬ v = x) : (decide (x ≤ v) && decide (v ≤ x)) = false := by
  cases h1 : decide (x ≤ v) <;> cases h2 : decide (v ≤ x) <;> simp_all <;> omega
theorem rng {v a b : Int} (h : a ≤ v) (h2 : v ≤ b) (m : Bool) : ((m && decide (a ≤ v)) && decide (v ≤ b)) = m := by rw [decide_eq_true h, decide_eq_true h2]; simp
theorem nrng {v a b : Int} (h : ¬ (a ≤ v ∧ v ≤ b)) (m : Bool) : ((m && decide (a ≤ v)) && decide (v ≤ b)) = false := by
  by_cases h1 : a ≤ v
  · rw [decide_eq_false (fun h2 => h ⟨h1, h2⟩), Bool.and_false]
  · rw [decide_eq_false h1, Bool.and_false, Bool.false_and]

/-- The bounds of what is read. -/
structure FB (f : Nat → Nat → Int) : Prop where
  b1 : ∀ k, 0 ≤ f 1 k ∧ f 1 k ≤ 65535
  b2 : ∀ k, -32768 ≤ f 2 k ∧ f 2 k ≤ 32767
theorem runL_yes (f : Nat → Nat → Int) (B : FB f) (h0 : f 1 0 = 1) (h1 : f 1 2 = 0) (h5 : f 1 32 = 0) (h6 : 1 ≤ f 1 34) :
    runAll (fun kd k _ => k + wid kd) (fun kd k _ => f kd k) dsL 0 zL = (true, 36, #[.int .i64 (f 2 4), .int .i64 (f 2 6), .int .i64 (f 2 8), .int .i64 (f 1 34)]) := by
  have c0 := jst h0; have c1 := jst h1; have c5 := jst h5
  have r4 := rng (B.b2 4).1 (B.b2 4).2; have r6 := rng (B.b2 6).1 (B.b2 6).2; have r8 := rng (B.b2 8).1 (B.b2 8).2; have r34 := rng h6 (B.b1 34).2
  simp only [dsL, zL, runAll_cons, runAll_nil, fdRun, numRun_cons, numRun_nil, free_rd, wid1, wid2, Nat.zero_add, Nat.reduceAdd, c0, c1, c5, r4, r6, r8, r34, if_true]
  rfl
theorem runL_no (f : Nat → Nat → Int) (B : FB f) (h : ¬ (f 1 0 = 1 ∧ f 1 2 = 0 ∧ f 1 32 = 0 ∧ 1 ≤ f 1 34)) :
    (runAll (fun kd k _ => k + wid kd) (fun kd k _ => f kd k) dsL 0 zL).1 = false := by
  have r4 := rng (B.b2 4).1 (B.b2 4).2; have r6 := rng (B.b2 6).1 (B.b2 6).2; have r8 := rng (B.b2 8).1 (B.b2 8).2
  by_cases h0 : f 1 0 = 1
  · have c0 := jst h0
    by_cases h1 : f 1 2 = 0
    · have c1 := jst h1
      by_cases h5 : f 1 32 = 0
      · have c5 := jst h5
        have r34 := nrng (v := f 1 34) (a := 1) (b := 65535) (fun hh => h ⟨h0, h1, h5, hh.1⟩)
        simp only [dsL, zL, runAll_cons, runAll_nil, fdRun, numRun_cons, numRun_nil, free_rd, wid1, wid2, Nat.zero_add, Nat.reduceAdd, c0, c1, c5, r4, r6, r8, r34, if_true, if_false, Bool.false_eq_true]
      · have c5 := njst h5
        simp only [dsL, zL, runAll_cons, runAll_nil, fdRun, numRun_cons, numRun_nil, free_rd, wid1, wid2, Nat.zero_add, Nat.reduceAdd, c0, c1, c5, r4, r6, r8, if_true, if_false, Bool.false_eq_true]
    · have c1 := njst h1
      simp only [dsL, zL, runAll_cons, runAll_nil, fdRun, numRun_cons, numRun_nil, free_rd, wid1, wid2, Nat.zero_add, Nat.reduceAdd, c0, c1, if_true, if_false, Bool.false_eq_true]
  · have c0 := njst h0
    simp only [dsL, zL, runAll_cons, runAll_nil, fdRun, numRun_cons, numRun_nil, free_rd, wid1, wid2, Nat.zero_add, Nat.reduceAdd, c0, if_true, if_false, Bool.false_eq_true]

theorem runG_yes (f : Nat → Nat → Int) (B : FB f) (t : Bool) (h0 : f 3 0 = if t then 65536 else 20480) (h1 : 1 ≤ f 1 4) :
    runAll (fun kd k _ => k + wid kd) (fun kd k _ => f kd k) dsG 0 zG = (true, if t then 32 else 6, #[.int .i64 (f 1 4), .bool t]) := by
  have r4 := rng h1 (B.b1 4).2
  cases t
  · have e1 : (f 3 0 == 20480) = true := by rw [h0]; rfl
    have e2 : (f 3 0 == 65536) = false := by rw [h0]; rfl
    simp only [dsG, zG, runAll_cons, runAll_nil, fdRun, numRun_cons, numRun_nil, free_rd, wid1, wid3, Nat.zero_add, Nat.reduceAdd, eithRun, condRun, e1, e2, r4, if_true, Bool.true_or]
    rfl
  · have e1 : (f 3 0 == 20480) = false := by rw [h0]; rfl
    have e2 : (f 3 0 == 65536) = true := by rw [h0]; rfl
    simp only [dsG, zG, runAll_cons, runAll_nil, fdRun, numRun_cons, numRun_nil, free_rd, wid1, wid3, Nat.zero_add, Nat.reduceAdd, eithRun, condRun, e1, e2, r4, if_true, Bool.or_true]
    rfl
theorem runG_no (f : Nat → Nat → Int) (h : ¬ ((f 3 0 = 65536 ∨ f 3 0 = 20480) ∧ 1 ≤ f 1 4)) :
    (runAll (fun kd k _ => k + wid kd) (fun kd k _ => f kd k) dsG 0 zG).1 = false := by
  by_cases h0 : f 3 0 = 65536 ∨ f 3 0 = 20480
  · have e1 : ((f 3 0 == 20480) || (f 3 0 == 65536)) = true := by rcases h0 with h | h <;> rw [h] <;> rfl
    have r4 := nrng (v := f 1 4) (a := 1) (b := 65535) (fun hh => h ⟨h0, hh.1⟩)
    simp only [dsG, zG, runAll_cons, runAll_nil, fdRun, numRun_cons, numRun_nil, wid1, wid3, Nat.zero_add, Nat.reduceAdd, eithRun, e1, r4, if_true, if_false, Bool.false_eq_true]
  · have e1 : ((f 3 0 == 20480) || (f 3 0 == 65536)) = false := by simp; omega
    simp only [dsG, zG, runAll_cons, runAll_nil, fdRun, numRun_cons, numRun_nil, wid1, wid3, Nat.zero_add, Nat.reduceAdd, eithRun, e1, if_false, Bool.false_eq_true]

set_option maxHeartbeats 4000000 in
theorem runH_yes (f : Nat → Nat → Int) (B : FB f) (h0 : f 1 0 = 1) (h1 : f 1 2 = 0) (h2 : f 3 12 = 1594834165) (h3 : 16 ≤ f 1 18) (h4 : f 1 18 ≤ 16384) (h5 : f 1 50 = 0 ∨ f 1 50 = 1) (h6 : f 1 52 = 0) :
    runAll (fun kd k _ => k + wid kd) (fun kd k _ => f kd k) dsH 0 zH = (true, 54, #[.int .i64 (f 1 18), .int .i64 (f 1 16), .int .i64 (f 2 36), .int .i64 (f 2 38), .int .i64 (f 2 40), .int .i64 (f 2 42), .int .i64 (f 1 44), .int .i64 (f 1 46), .bool (f 1 50 == 1)]) := by
  have c0 := jst h0; have c1 := jst h1; have c2 := jst h2; have c6 := jst h6
  have r16 := rng (B.b1 16).1 (B.b1 16).2; have r18 := rng h3 h4; have r36 := rng (B.b2 36).1 (B.b2 36).2; have r38 := rng (B.b2 38).1 (B.b2 38).2; have r40 := rng (B.b2 40).1 (B.b2 40).2; have r42 := rng (B.b2 42).1 (B.b2 42).2; have r44 := rng (B.b1 44).1 (B.b1 44).2; have r46 := rng (B.b1 46).1 (B.b1 46).2
  have e5 : ((f 1 50 == 0) || (f 1 50 == 1)) = true := by rcases h5 with h | h <;> rw [h] <;> rfl
  simp only [dsH, zH, runAll_cons, runAll_nil, fdRun, numRun_cons, numRun_nil, free_rd, wid1, wid2, wid3, Nat.zero_add, Nat.reduceAdd, eithRun, c0, c1, c2, c6, r16, r18, r36, r38, r40, r42, r44, r46, e5, if_true]
  rfl
set_option maxHeartbeats 4000000 in
theorem runH_no (f : Nat → Nat → Int) (B : FB f) (h : ¬ (f 1 0 = 1 ∧ f 1 2 = 0 ∧ f 3 12 = 1594834165 ∧ (16 ≤ f 1 18 ∧ f 1 18 ≤ 16384) ∧ (f 1 50 = 0 ∨ f 1 50 = 1) ∧ f 1 52 = 0)) :
    (runAll (fun kd k _ => k + wid kd) (fun kd k _ => f kd k) dsH 0 zH).1 = false := by
  have r16 := rng (B.b1 16).1 (B.b1 16).2; have r36 := rng (B.b2 36).1 (B.b2 36).2; have r38 := rng (B.b2 38).1 (B.b2 38).2; have r40 := rng (B.b2 40).1 (B.b2 40).2; have r42 := rng (B.b2 42).1 (B.b2 42).2; have r44 := rng (B.b1 44).1 (B.b1 44).2; have r46 := rng (B.b1 46).1 (B.b1 46).2
  by_cases h0 : f 1 0 = 1
  rotate_left
  · have c0 := njst h0
    simp only [dsH, zH, runAll_cons, runAll_nil, fdRun, numRun_cons, numRun_nil, free_rd, wid1, wid2, wid3, Nat.zero_add, Nat.reduceAdd, c0, if_true, if_false, Bool.false_eq_true]
  have c0 := jst h0
  by_cases h1 : f 1 2 = 0
  rotate_left
  · have c1 := njst h1
    simp only [dsH, zH, runAll_cons, runAll_nil, fdRun, numRun_cons, numRun_nil, free_rd, wid1, wid2, wid3, Nat.zero_add, Nat.reduceAdd, c0, c1, if_true, if_false, Bool.false_eq_true]
  have c1 := jst h1
  by_cases h2 : f 3 12 = 1594834165
  rotate_left
  · have c2 := njst h2
    simp only [dsH, zH, runAll_cons, runAll_nil, fdRun, numRun_cons, numRun_nil, free_rd, wid1, wid2, wid3, Nat.zero_add, Nat.reduceAdd, c0, c1, c2, if_true, if_false, Bool.false_eq_true]
  have c2 := jst h2
  by_cases h3 : 16 ≤ f 1 18 ∧ f 1 18 ≤ 16384
  rotate_left
  · have r18 := nrng h3
    simp only [dsH, zH, runAll_cons, runAll_nil, fdRun, numRun_cons, numRun_nil, free_rd, wid1, wid2, wid3, Nat.zero_add, Nat.reduceAdd, c0, c1, c2, r16, r18, if_true, if_false, Bool.false_eq_true]
  have r18 := rng h3.1 h3.2
  by_cases h5 : f 1 50 = 0 ∨ f 1 50 = 1
  rotate_left
  · have e5 : ((f 1 50 == 0) || (f 1 50 == 1)) = false := by simp; omega
    simp only [dsH, zH, runAll_cons, runAll_nil, fdRun, numRun_cons, numRun_nil, free_rd, wid1, wid2, wid3, Nat.zero_add, Nat.reduceAdd, eithRun, c0, c1, c2, r16, r18, r36, r38, r40, r42, r44, r46, e5, if_true, if_false, Bool.false_eq_true]
  have e5 : ((f 1 50 == 0) || (f 1 50 == 1)) = true := by rcases h5 with h | h <;> rw [h] <;> rfl
  have c6 := njst (v := f 1 52) (x := 0) (fun h6 => h ⟨h0, h1, h2, h3, h5, h6⟩)
  simp only [dsH, zH, runAll_cons, runAll_nil, fdRun, numRun_cons, numRun_nil, free_rd, wid1, wid2, wid3, Nat.zero_add, Nat.reduceAdd, eithRun, c0, c1, c2, c6, r16, r18, r36, r38, r40, r42, r44, r46, e5, if_true, if_false, Bool.false_eq_true]

theorem fbOf (E : List Value) (h8 : Bytes8 E) : FB (fun kd k => rdk E kd k) := ⟨fun k => rdk1_b E h8 k, fun k => rdk2_b E h8 k⟩
theorem bytes_take {E : List Value} (h8 : Bytes8 E) (n : Nat) : Bytes8 (E.take n) := fun u hu => h8 u (List.mem_of_mem_take hu)

/-- What is answered of these bytes. -/
theorem rdL_eq (E : List Value) (h8 : Bytes8 E) : ((rdRun (E.take 36) dsL zL).1 && decide ((rdRun (E.take 36) dsL zL).2.1 ≤ (E.take 36).length)) = okL E ∧ (okL E = true → mkL (rdRun (E.take 36) dsL zL).2.2 = valL E) := by
  have hl : (E.take 36).length = min 36 E.length := List.length_take
  have B := fbOf _ (bytes_take h8 36)
  have t := fun kd k hk h => rdk_take E 36 kd k hk h
  cases hok : okL E with
  | true =>
    unfold okL at hok
    simp only [Bool.and_eq_true, decide_eq_true_eq, beq_iff_eq] at hok
    obtain ⟨⟨⟨⟨hlen, h0⟩, h1⟩, h5⟩, h6⟩ := hok
    have e := runL_yes _ B (by show rdk (E.take 36) 1 0 = 1; rw [t _ _ (by decide) (by decide), rdk1_in E _ (by omega), h0]; rfl) (by show rdk (E.take 36) 1 2 = 0; rw [t _ _ (by decide) (by decide), rdk1_in E _ (by omega), h1]; rfl) (by show rdk (E.take 36) 1 32 = 0; rw [t _ _ (by decide) (by decide), rdk1_in E _ (by omega), h5]; rfl) (by show 1 ≤ rdk (E.take 36) 1 34; rw [t _ _ (by decide) (by decide), rdk1_in E _ (by omega)]; omega)
    have e : rdRun (E.take 36) dsL zL = _ := e
    rw [e]
    refine ⟨by rw [hl]; simp; omega, fun _ => ?_⟩
    unfold valL
    rw [← rdk2_in E 4 (by omega), ← rdk2_in E 6 (by omega), ← rdk2_in E 8 (by omega), ← rdk1_in E 34 (by omega), ← t 2 4 (by decide) (by decide), ← t 2 6 (by decide) (by decide), ← t 2 8 (by decide) (by decide), ← t 1 34 (by decide) (by decide)]
    rfl
  | false =>
    refine ⟨?_, fun h => (nomatch h)⟩
    have e := runL_no _ B (by
      rintro ⟨h0, h1, h5, h6⟩
      have h0 : rdk (E.take 36) 1 0 = 1 := h0
      have h1 : rdk (E.take 36) 1 2 = 0 := h1
      have h5 : rdk (E.take 36) 1 32 = 0 := h5
      have h6 : 1 ≤ rdk (E.take 36) 1 34 := h6
      rw [t _ _ (by decide) (by decide)] at h0 h1 h5 h6
      rcases Nat.lt_or_ge E.length 36 with hlen | hlen
      · rw [rdk1_out E 34 (by omega)] at h6; omega
      · rw [rdk1_in E _ (by omega)] at h0 h1 h5 h6
        unfold okL at hok
        rw [decide_eq_true hlen, show rd2 E 0 = 1 by omega, show rd2 E 2 = 0 by omega, show rd2 E 32 = 0 by omega, decide_eq_true (show 1 ≤ rd2 E 34 by omega)] at hok
        cases hok)
    have e : (rdRun (E.take 36) dsL zL).1 = false := e
    rw [e]; rfl
theorem rdG_eq (E : List Value) (h8 : Bytes8 E) : ((rdRun (E.take 32) dsG zG).1 && decide ((rdRun (E.take 32) dsG zG).2.1 ≤ (E.take 32).length)) = okG E ∧ (okG E = true → mkG (rdRun (E.take 32) dsG zG).2.2 = valG E) := by
  have hl : (E.take 32).length = min 32 E.length := List.length_take
  have B := fbOf _ (bytes_take h8 32)
  have t := fun kd k hk h => rdk_take E 32 kd k hk h
  by_cases hy : (rdk (E.take 32) 3 0 = 65536 ∨ rdk (E.take 32) 3 0 = 20480) ∧ 1 ≤ rdk (E.take 32) 1 4
  · obtain ⟨h0, h1⟩ := hy
    have h6 : 6 ≤ E.length := by
      rcases Nat.lt_or_ge E.length 6 with h | h
      · rw [t _ _ (by decide) (by decide), rdk1_out E 4 (by omega)] at h1; omega
      · exact h
    obtain ⟨tt, htt⟩ : ∃ tt : Bool, rdk (E.take 32) 3 0 = if tt then 65536 else 20480 := by rcases h0 with h | h; exact ⟨true, h⟩; exact ⟨false, h⟩
    have e := runG_yes _ B tt htt h1
    have e : rdRun (E.take 32) dsG zG = _ := e
    rw [e]
    have h4 := htt
    rw [t _ _ (by decide) (by decide), rdk3_in E 0 (by omega)] at h4
    rw [t _ _ (by decide) (by decide), rdk1_in E 4 (by omega)] at h1
    have hv : valG E = .agg #[.int .i64 (rdk (E.take 32) 1 4), .bool tt] := by
      unfold valG
      rw [t 1 4 (by decide) (by decide), rdk1_in E 4 (by omega)]
      cases tt
      · have : rd4 E 0 = 20480 := by simp at h4; omega
        rw [this]; rfl
      · have : rd4 E 0 = 65536 := by simp at h4; omega
        rw [this]; rfl
    refine ⟨?_, fun _ => by rw [hv]; rfl⟩
    rw [hl]
    unfold okG
    have d1 : decide (1 ≤ rd2 E 4) = true := by simp; omega
    have d6 : decide (6 ≤ E.length) = true := by simp; omega
    rw [d1, d6]
    cases tt
    · have : rd4 E 0 = 20480 := by simp at h4; omega
      rw [this]; simp; omega
    · have : rd4 E 0 = 65536 := by simp at h4; omega
      rw [this]; simp; omega
  · have e := runG_no _ hy
    have e : (rdRun (E.take 32) dsG zG).1 = false := e
    have ok : okG E = false := by
      cases hok : okG E
      · rfl
      · exfalso
        unfold okG at hok
        simp only [Bool.or_eq_true, Bool.and_eq_true, decide_eq_true_eq, beq_iff_eq] at hok
        have h6 : 6 ≤ E.length := by omega
        refine hy ⟨?_, ?_⟩
        · rw [t _ _ (by decide) (by decide), rdk3_in E 0 (by omega)]; omega
        · rw [t _ _ (by decide) (by decide), rdk1_in E 4 (by omega)]; omega
    rw [e, ok]
    exact ⟨rfl, fun h => (nomatch h)⟩
theorem rdH_eq (E : List Value) (h8 : Bytes8 E) : ((rdRun (E.take 54) dsH zH).1 && decide ((rdRun (E.take 54) dsH zH).2.1 ≤ (E.take 54).length)) = okH E ∧ (okH E = true → mkH (rdRun (E.take 54) dsH zH).2.2 = valH E) := by
  have hl : (E.take 54).length = min 54 E.length := List.length_take
  have B := fbOf _ (bytes_take h8 54)
  have t := fun kd k hk h => rdk_take E 54 kd k hk h
  by_cases hy : rdk (E.take 54) 1 0 = 1 ∧ rdk (E.take 54) 1 2 = 0 ∧ rdk (E.take 54) 3 12 = 1594834165 ∧ (16 ≤ rdk (E.take 54) 1 18 ∧ rdk (E.take 54) 1 18 ≤ 16384) ∧ (rdk (E.take 54) 1 50 = 0 ∨ rdk (E.take 54) 1 50 = 1) ∧ rdk (E.take 54) 1 52 = 0
  · have e := runH_yes _ B hy.1 hy.2.1 hy.2.2.1 hy.2.2.2.1.1 hy.2.2.2.1.2 hy.2.2.2.2.1 hy.2.2.2.2.2
    have e : rdRun (E.take 54) dsH zH = _ := e
    rw [e]
    rcases Nat.lt_or_ge E.length 54 with hlen | hlen
    · have ok : okH E = false := by unfold okH; rw [decide_eq_false (by omega)]; rfl
      rw [ok, hl]
      refine ⟨?_, fun h => (nomatch h)⟩
      simp; omega
    · rw [t _ _ (by decide) (by decide), t _ _ (by decide) (by decide), t _ _ (by decide) (by decide), t _ _ (by decide) (by decide), t _ _ (by decide) (by decide), t _ _ (by decide) (by decide), rdk1_in E _ (by omega), rdk1_in E _ (by omega), rdk3_in E _ (by omega), rdk1_in E _ (by omega), rdk1_in E _ (by omega), rdk1_in E _ (by omega)] at hy
      obtain ⟨h0, h1, h2, h3, h5, h6⟩ := hy
      refine ⟨?_, fun _ => ?_⟩
      · unfold okH
        rw [decide_eq_true hlen, show rd2 E 0 = 1 by omega, show rd2 E 2 = 0 by omega, show rd4 E 12 = 1594834165 by omega, show rd2 E 52 = 0 by omega, decide_eq_true (show 16 ≤ rd2 E 18 by omega), decide_eq_true (show rd2 E 18 ≤ 16384 by omega), decide_eq_true (show rd2 E 50 < 2 by omega), hl]
        simp; omega
      · unfold valH
        have e50 : (rdk (E.take 54) 1 50 == 1) = (rd2 E 50 == 1) := by
          rw [t _ _ (by decide) (by decide), rdk1_in E _ (by omega)]
          rcases h5 with h | h
          · rw [h, show rd2 E 50 = 0 by omega]; rfl
          · rw [h, show rd2 E 50 = 1 by omega]; rfl
        rw [← e50, ← rdk1_in E 18 (by omega), ← rdk1_in E 16 (by omega), ← rdk2_in E 36 (by omega), ← rdk2_in E 38 (by omega), ← rdk2_in E 40 (by omega), ← rdk2_in E 42 (by omega), ← rdk1_in E 44 (by omega), ← rdk1_in E 46 (by omega),
          ← t 1 18 (by decide) (by decide), ← t 1 16 (by decide) (by decide), ← t 2 36 (by decide) (by decide), ← t 2 38 (by decide) (by decide), ← t 2 40 (by decide) (by decide), ← t 2 42 (by decide) (by decide), ← t 1 44 (by decide) (by decide), ← t 1 46 (by decide) (by decide)]
        rfl
  · have e := runH_no _ B hy
    have e : (rdRun (E.take 54) dsH zH).1 = false := e
    have ok : okH E = false := by
      cases hok : okH E
      · rfl
      · exfalso
        unfold okH at hok
        simp only [Bool.and_eq_true, decide_eq_true_eq, beq_iff_eq] at hok
        obtain ⟨⟨⟨⟨⟨⟨⟨hlen, h0⟩, h1⟩, h2⟩, h3⟩, h4⟩, h5⟩, h6⟩ := hok
        refine hy ?_
        rw [t _ _ (by decide) (by decide), t _ _ (by decide) (by decide), t _ _ (by decide) (by decide), t _ _ (by decide) (by decide), t _ _ (by decide) (by decide), t _ _ (by decide) (by decide), rdk1_in E _ (by omega), rdk1_in E _ (by omega), rdk3_in E _ (by omega), rdk1_in E _ (by omega), rdk1_in E _ (by omega), rdk1_in E _ (by omega)]
        omega
    rw [e, ok]
    exact ⟨rfl, fun h => (nomatch h)⟩

end Go.Proofs.Ytbomgaacahaofaa

namespace Go.Proofs.Ytbomgaacahaofaa
open Go Go.RowKit

set_option linter.unusedSimpArgs false

def z8s (n : Nat) : List Value := List.replicate n (.int .u8 0)
theorem z8s_len (n : Nat) : (z8s n).length = n := by simp [z8s]
theorem z8s_bytes (n : Nat) : Bytes8 (z8s n) := fun u hu => ⟨0, by omega, (List.mem_replicate.1 hu).2⟩
theorem be2_len (x : Int) : (be2 x).length = 2 := rfl
theorem be4_len (x : Int) : (be4 x).length = 4 := rfl
def inS (x : Int) : Bool := decide (-32768 ≤ x) && decide (x ≤ 32767)
def inW (x : Int) : Bool := decide (0 ≤ x) && decide (x ≤ 65535)
def mayG (a0 : Int) : Bool := decide (1 ≤ a0) && decide (a0 ≤ 65535)
def mayL (a0 a1 a2 a3 : Int) : Bool := inS a0 && inS a1 && inS a2 && mayG a3
def mayH (a0 a1 a2 a3 a4 a5 a6 a7 : Int) : Bool := decide (16 ≤ a0) && decide (a0 ≤ 16384) && inW a1 && inW a6 && inW a7 && inS a2 && inS a3 && inS a4 && inS a5
def putGs (a0 : Int) (b1 : Bool) : List Value := be4 (if b1 then 65536 else 20480) ++ be2 a0 ++ (if b1 then z8s 26 else [])
def putLs (a0 a1 a2 a3 : Int) : List Value := be2 1 ++ be2 0 ++ be2 a0 ++ be2 a1 ++ be2 a2 ++ z8s 22 ++ be2 0 ++ be2 a3
def putHs (a0 a1 a2 a3 a4 a5 a6 a7 : Int) (b8 : Bool) : List Value := be2 1 ++ be2 0 ++ z8s 8 ++ be4 1594834165 ++ be2 a1 ++ be2 a0 ++ z8s 16 ++ be2 a2 ++ be2 a3 ++ be2 a4 ++ be2 a5 ++ be2 a6 ++ be2 a7 ++ z8s 2 ++ be2 (if b8 then 1 else 0) ++ be2 0
theorem putGs_bytes (a0 : Int) (b1 : Bool) : Bytes8 (putGs a0 b1) := ((be4_bytes _).append (be2_bytes _)).append (by cases b1; exact fun u hu => (by cases hu); exact z8s_bytes 26)
theorem putLs_bytes (a0 a1 a2 a3 : Int) : Bytes8 (putLs a0 a1 a2 a3) := (((((((be2_bytes _).append (be2_bytes _)).append (be2_bytes _)).append (be2_bytes _)).append (be2_bytes _)).append (z8s_bytes 22)).append (be2_bytes _)).append (be2_bytes _)
theorem putHs_bytes (a0 a1 a2 a3 a4 a5 a6 a7 : Int) (b8 : Bool) : Bytes8 (putHs a0 a1 a2 a3 a4 a5 a6 a7 b8) := (((((((((((((((be2_bytes _).append (be2_bytes _)).append (z8s_bytes 8)).append (be4_bytes _)).append (be2_bytes _)).append (be2_bytes _)).append (z8s_bytes 16)).append (be2_bytes _)).append (be2_bytes _)).append (be2_bytes _)).append (be2_bytes _)).append (be2_bytes _)).append (be2_bytes _)).append (z8s_bytes 2)).append (be2_bytes _)).append (be2_bytes _)
theorem putGs_len (a0 : Int) (b1 : Bool) : (putGs a0 b1).length = if b1 then 32 else 6 := by cases b1 <;> rfl
theorem putLs_len (a0 a1 a2 a3 : Int) : (putLs a0 a1 a2 a3).length = 36 := rfl
theorem putHs_len (a0 a1 a2 a3 a4 a5 a6 a7 : Int) (b8 : Bool) : (putHs a0 a1 a2 a3 a4 a5 a6 a7 b8).length = 54 := rfl

theorem bek1 (x : Int) : bek 1 x = be2 x := rfl
theorem bek2 (x : Int) : bek 2 x = be2 x := rfl
theorem bek3 (x : Int) : bek 3 x = be4 x := rfl
theorem free_wr2 (n : Nat) (L : List Value) : freeRun (fun kd (L : List Value) x => L ++ bek kd x) n L = L ++ z8s n := free_wr n L
theorem self_in (x : Int) : (decide (x ≤ x) && decide (x ≤ x)) = true := by simp
theorem rngB {v a b : Int} (m : Bool) : ((m && decide (a ≤ v)) && decide (v ≤ b)) = (m && (decide (a ≤ v) && decide (v ≤ b))) := Bool.and_assoc _ _ _
theorem wrG_run (a0 : Int) (b1 : Bool) : (wrRun dsG #[.int .i64 a0, .bool b1]).1 = mayG a0 ∧ (mayG a0 = true → (wrRun dsG #[.int .i64 a0, .bool b1]).2.1 = putGs a0 b1) := by
  have hm : mayG a0 = decide (1 ≤ a0 ∧ a0 ≤ 65535) := by unfold mayG; simp
  have i0 : ∀ b, intAt #[.int .i64 a0, .bool b] 0 = a0 := fun _ => rfl
  have b0 : ∀ b, boolAt #[.int .i64 a0, .bool b] 1 = b := fun _ => rfl
  have s0 : ∀ b c, (#[Value.int .i64 a0, .bool b].setIfInBounds 1 (.bool c)) = #[.int .i64 a0, .bool c] := fun _ _ => rfl
  have s1 : ∀ b, (#[Value.int .i64 a0, .bool b].setIfInBounds 0 (.int .i64 a0)) = #[.int .i64 a0, .bool b] := fun _ => rfl
  have e1 : ((20480 : Int) == 65536) = false := rfl
  have e2 : ((65536 : Int) == 65536) = true := rfl
  rw [hm]
  by_cases h : 1 ≤ a0 ∧ a0 ≤ 65535 <;> cases b1 <;> simp [wrRun, dsG, runAll_cons, runAll_nil, fdRun, numRun_cons, numRun_nil, eithRun, condRun, i0, b0, s0, s1, h, bek1, bek3, free_wr2, putGs, e1, e2]
theorem wrL_run (a0 a1 a2 a3 : Int) : (wrRun dsL #[.int .i64 a0, .int .i64 a1, .int .i64 a2, .int .i64 a3]).1 = mayL a0 a1 a2 a3 ∧ (mayL a0 a1 a2 a3 = true → (wrRun dsL #[.int .i64 a0, .int .i64 a1, .int .i64 a2, .int .i64 a3]).2.1 = putLs a0 a1 a2 a3) := by
  have i0 : intAt #[.int .i64 a0, .int .i64 a1, .int .i64 a2, .int .i64 a3] 0 = a0 := rfl
  have i1 : intAt #[.int .i64 a0, .int .i64 a1, .int .i64 a2, .int .i64 a3] 1 = a1 := rfl
  have i2 : intAt #[.int .i64 a0, .int .i64 a1, .int .i64 a2, .int .i64 a3] 2 = a2 := rfl
  have i3 : intAt #[.int .i64 a0, .int .i64 a1, .int .i64 a2, .int .i64 a3] 3 = a3 := rfl
  have s0 : (#[Value.int .i64 a0, .int .i64 a1, .int .i64 a2, .int .i64 a3].setIfInBounds 0 (.int .i64 a0)) = #[.int .i64 a0, .int .i64 a1, .int .i64 a2, .int .i64 a3] := rfl
  have s1 : (#[Value.int .i64 a0, .int .i64 a1, .int .i64 a2, .int .i64 a3].setIfInBounds 1 (.int .i64 a1)) = #[.int .i64 a0, .int .i64 a1, .int .i64 a2, .int .i64 a3] := rfl
  have s2 : (#[Value.int .i64 a0, .int .i64 a1, .int .i64 a2, .int .i64 a3].setIfInBounds 2 (.int .i64 a2)) = #[.int .i64 a0, .int .i64 a1, .int .i64 a2, .int .i64 a3] := rfl
  have s3 : (#[Value.int .i64 a0, .int .i64 a1, .int .i64 a2, .int .i64 a3].setIfInBounds 3 (.int .i64 a3)) = #[.int .i64 a0, .int .i64 a1, .int .i64 a2, .int .i64 a3] := rfl
  have h2 : ((((true && (decide (-32768 ≤ a0) && decide (a0 ≤ 32767))) && (decide (-32768 ≤ a1) && decide (a1 ≤ 32767))) && (decide (-32768 ≤ a2) && decide (a2 ≤ 32767)))) = (inS a0 && inS a1 && inS a2) := rfl
  have h3 : (true && (decide (1 ≤ a3) && decide (a3 ≤ 65535))) = mayG a3 := rfl
  simp only [wrRun, dsL, runAll_cons, runAll_nil, fdRun, numRun_cons, numRun_nil, i0, i1, i2, i3, s0, s1, s2, s3, rngB, h2, h3, self_in, bek1, bek2, free_wr2, if_true, List.nil_append, List.append_assoc]
  cases h4 : (inS a0 && inS a1 && inS a2) <;> cases h5 : mayG a3 <;> simp only [mayL, h4, h5, Bool.false_eq_true, if_false, if_true, Bool.and_true, Bool.and_false, Bool.true_and, Bool.false_and, true_and, and_true, false_implies, true_implies, implies_true, reduceCtorEq, and_self, putLs, List.append_assoc]
theorem wrH_run (a0 a1 a2 a3 a4 a5 a6 a7 : Int) (b8 : Bool) : (wrRun dsH #[.int .i64 a0, .int .i64 a1, .int .i64 a2, .int .i64 a3, .int .i64 a4, .int .i64 a5, .int .i64 a6, .int .i64 a7, .bool b8]).1 = mayH a0 a1 a2 a3 a4 a5 a6 a7 ∧ (mayH a0 a1 a2 a3 a4 a5 a6 a7 = true → (wrRun dsH #[.int .i64 a0, .int .i64 a1, .int .i64 a2, .int .i64 a3, .int .i64 a4, .int .i64 a5, .int .i64 a6, .int .i64 a7, .bool b8]).2.1 = putHs a0 a1 a2 a3 a4 a5 a6 a7 b8) := by
  obtain ⟨X, hX⟩ : ∃ X : Array Value, X = #[.int .i64 a0, .int .i64 a1, .int .i64 a2, .int .i64 a3, .int .i64 a4, .int .i64 a5, .int .i64 a6, .int .i64 a7, .bool b8] := ⟨_, rfl⟩
  have i0 : intAt X 0 = a0 := by rw [hX]; rfl
  have s0 : X.setIfInBounds 0 (.int .i64 a0) = X := by rw [hX]; rfl
  have i1 : intAt X 1 = a1 := by rw [hX]; rfl
  have s1 : X.setIfInBounds 1 (.int .i64 a1) = X := by rw [hX]; rfl
  have i2 : intAt X 2 = a2 := by rw [hX]; rfl
  have s2 : X.setIfInBounds 2 (.int .i64 a2) = X := by rw [hX]; rfl
  have i3 : intAt X 3 = a3 := by rw [hX]; rfl
  have s3 : X.setIfInBounds 3 (.int .i64 a3) = X := by rw [hX]; rfl
  have i4 : intAt X 4 = a4 := by rw [hX]; rfl
  have s4 : X.setIfInBounds 4 (.int .i64 a4) = X := by rw [hX]; rfl
  have i5 : intAt X 5 = a5 := by rw [hX]; rfl
  have s5 : X.setIfInBounds 5 (.int .i64 a5) = X := by rw [hX]; rfl
  have i6 : intAt X 6 = a6 := by rw [hX]; rfl
  have s6 : X.setIfInBounds 6 (.int .i64 a6) = X := by rw [hX]; rfl
  have i7 : intAt X 7 = a7 := by rw [hX]; rfl
  have s7 : X.setIfInBounds 7 (.int .i64 a7) = X := by rw [hX]; rfl
  have j8 : boolAt X 8 = b8 := by rw [hX]; rfl
  have t8 : X.setIfInBounds 8 (.bool b8) = X := by rw [hX]; rfl
  rw [← hX]
  have e0 : ((if b8 then (1 : Int) else 0) == 1) = b8 := by cases b8 <;> rfl
  have e1 : (((if b8 then (1 : Int) else 0) == 0) || b8) = true := by cases b8 <;> rfl
  have h1 : (true && (decide (0 ≤ a1) && decide (a1 ≤ 65535))) = inW a1 := rfl
  have h0 : (true && (decide (16 ≤ a0) && decide (a0 ≤ 16384))) = (decide (16 ≤ a0) && decide (a0 ≤ 16384)) := rfl
  have h2 : (((((true && (decide (-32768 ≤ a2) && decide (a2 ≤ 32767))) && (decide (-32768 ≤ a3) && decide (a3 ≤ 32767))) && (decide (-32768 ≤ a4) && decide (a4 ≤ 32767)))) && (decide (-32768 ≤ a5) && decide (a5 ≤ 32767))) = (inS a2 && inS a3 && inS a4 && inS a5) := rfl
  have h6 : ((true && (decide (0 ≤ a6) && decide (a6 ≤ 65535))) && (decide (0 ≤ a7) && decide (a7 ≤ 65535))) = (inW a6 && inW a7) := rfl
  clear hX
  have hm : mayH a0 a1 a2 a3 a4 a5 a6 a7 = ((decide (16 ≤ a0) && decide (a0 ≤ 16384)) && inW a1 && (inW a6 && inW a7) && (inS a2 && inS a3 && inS a4 && inS a5)) := by
    unfold mayH
    simp only [Bool.and_assoc]
  rw [hm]
  simp only [wrRun, dsH, runAll_cons, runAll_nil, fdRun, numRun_cons, numRun_nil, eithRun, i0, i1, i2, i3, i4, i5, i6, i7, j8, s0, s1, s2, s3, s4, s5, s6, s7, t8, e0, e1, rngB, h0, h1, h2, h6, self_in, bek1, bek2, bek3, free_wr2, if_true, List.nil_append, List.append_assoc]
  cases k1 : inW a1 <;> cases k0 : (decide (16 ≤ a0) && decide (a0 ≤ 16384)) <;> cases k2 : (inS a2 && inS a3 && inS a4 && inS a5) <;> cases k6 : (inW a6 && inW a7) <;> simp only [Bool.false_eq_true, if_false, if_true, Bool.and_true, Bool.and_false, Bool.true_and, Bool.false_and, true_and, and_true, false_implies, true_implies, implies_true, reduceCtorEq, and_self, putHs, List.append_assoc]


end Go.Proofs.Ytbomgaacahaofaa

namespace Go.Proofs.Ytbomgaacahaofaa
open Go Go.RowKit

set_option maxRecDepth 100000 in
set_option maxHeartbeats 8000000 in
theorem backG (a0 : Int) (b1 : Bool) (b : List Value) (h : mayG a0 = true) : okG (putGs a0 b1 ++ b) = true ∧ valG (putGs a0 b1 ++ b) = .agg #[.int .i64 a0, .bool b1] := by
  unfold mayG at h
  simp only [Bool.and_eq_true, decide_eq_true_eq] at h
  have e2 : rd2 (putGs a0 b1 ++ b) 4 = (a0 / 256 % 256).toNat * 256 + (a0 % 256).toNat := by cases b1 <;> kernel_rfl
  have e3 : ((rd2 (putGs a0 b1 ++ b) 4 : Nat) : Int) = a0 := by rw [e2]; omega
  have e4 : rd4 (putGs a0 b1 ++ b) 0 = if b1 then 65536 else 20480 := by cases b1 <;> kernel_rfl
  have hl : (putGs a0 b1 ++ b).length = (if b1 then 32 else 6) + b.length := by rw [List.length_append, putGs_len]
  unfold okG valG
  rw [e3, e4, hl]
  have h1 : 1 ≤ rd2 (putGs a0 b1 ++ b) 4 := by omega
  rw [decide_eq_true h1]
  cases b1 <;> simp
set_option maxRecDepth 100000 in
set_option maxHeartbeats 8000000 in
theorem backL (a0 a1 a2 a3 : Int) (b : List Value) (h : mayL a0 a1 a2 a3 = true) : okL (putLs a0 a1 a2 a3 ++ b) = true ∧ valL (putLs a0 a1 a2 a3 ++ b) = .agg #[.int .i64 a0, .int .i64 a1, .int .i64 a2, .int .i64 a3] := by
  unfold mayL mayG inS at h
  simp only [Bool.and_eq_true, decide_eq_true_eq] at h
  have f0 : rd2 (putLs a0 a1 a2 a3 ++ b) 0 = 1 := by kernel_rfl
  have f2 : rd2 (putLs a0 a1 a2 a3 ++ b) 2 = 0 := by kernel_rfl
  have f32 : rd2 (putLs a0 a1 a2 a3 ++ b) 32 = 0 := by kernel_rfl
  have f4 : rd2 (putLs a0 a1 a2 a3 ++ b) 4 = (a0 / 256 % 256).toNat * 256 + (a0 % 256).toNat := by kernel_rfl
  have f6 : rd2 (putLs a0 a1 a2 a3 ++ b) 6 = (a1 / 256 % 256).toNat * 256 + (a1 % 256).toNat := by kernel_rfl
  have f8 : rd2 (putLs a0 a1 a2 a3 ++ b) 8 = (a2 / 256 % 256).toNat * 256 + (a2 % 256).toNat := by kernel_rfl
  have f34 : rd2 (putLs a0 a1 a2 a3 ++ b) 34 = (a3 / 256 % 256).toNat * 256 + (a3 % 256).toNat := by kernel_rfl
  have hl : (putLs a0 a1 a2 a3 ++ b).length = 36 + b.length := by rw [List.length_append, putLs_len]
  have g4 := s16_of (rd2 (putLs a0 a1 a2 a3 ++ b) 4) a0 (by rw [f4]; omega) h.1.1.1.1 h.1.1.1.2
  have g6 := s16_of (rd2 (putLs a0 a1 a2 a3 ++ b) 6) a1 (by rw [f6]; omega) h.1.1.2.1 h.1.1.2.2
  have g8 := s16_of (rd2 (putLs a0 a1 a2 a3 ++ b) 8) a2 (by rw [f8]; omega) h.1.2.1 h.1.2.2
  have g34 : ((rd2 (putLs a0 a1 a2 a3 ++ b) 34 : Nat) : Int) = a3 := by rw [f34]; omega
  unfold okL valL
  rw [g4, g6, g8, g34, f0, f2, f32, hl, decide_eq_true (show 36 ≤ 36 + b.length by omega), decide_eq_true (show 1 ≤ rd2 (putLs a0 a1 a2 a3 ++ b) 34 by omega)]
  exact ⟨rfl, rfl⟩
set_option maxRecDepth 100000 in
set_option maxHeartbeats 8000000 in
theorem backH (a0 a1 a2 a3 a4 a5 a6 a7 : Int) (b8 : Bool) (b : List Value) (h : mayH a0 a1 a2 a3 a4 a5 a6 a7 = true) : okH (putHs a0 a1 a2 a3 a4 a5 a6 a7 b8 ++ b) = true ∧ valH (putHs a0 a1 a2 a3 a4 a5 a6 a7 b8 ++ b) = .agg #[.int .i64 a0, .int .i64 a1, .int .i64 a2, .int .i64 a3, .int .i64 a4, .int .i64 a5, .int .i64 a6, .int .i64 a7, .bool b8] := by
  unfold mayH inS inW at h
  simp only [Bool.and_eq_true, decide_eq_true_eq] at h
  obtain ⟨⟨⟨⟨⟨⟨⟨⟨h0, h0'⟩, h1⟩, h6⟩, h7⟩, h2⟩, h3⟩, h4⟩, h5⟩ := h
  obtain ⟨P, hP⟩ : ∃ P, P = putHs a0 a1 a2 a3 a4 a5 a6 a7 b8 ++ b := ⟨_, rfl⟩
  have f0 : rd2 P 0 = 1 := by rw [hP]; kernel_rfl
  have f2 : rd2 P 2 = 0 := by rw [hP]; kernel_rfl
  have m12 : byteAt P 12 = 95 := by rw [hP]; kernel_rfl
  have m13 : byteAt P 13 = 15 := by rw [hP]; kernel_rfl
  have m14 : byteAt P 14 = 60 := by rw [hP]; kernel_rfl
  have m15 : byteAt P 15 = 245 := by rw [hP]; kernel_rfl
  have f12 : rd4 P 12 = 1594834165 := by
    have e : rd4 P 12 = ((byteAt P 12 * 256 + byteAt P 13) * 256 + byteAt P 14) * 256 + byteAt P 15 := rfl
    rw [e, m12, m13, m14, m15]
  have f52 : rd2 P 52 = 0 := by rw [hP]; kernel_rfl
  have f50 : rd2 P 50 = if b8 then 1 else 0 := by rw [hP]; cases b8 <;> kernel_rfl
  have f18 : rd2 P 18 = (a0 / 256 % 256).toNat * 256 + (a0 % 256).toNat := by rw [hP]; kernel_rfl
  have g18 : ((rd2 P 18 : Nat) : Int) = a0 := by rw [f18]; omega
  have f16 : rd2 P 16 = (a1 / 256 % 256).toNat * 256 + (a1 % 256).toNat := by rw [hP]; kernel_rfl
  have g16 : ((rd2 P 16 : Nat) : Int) = a1 := by rw [f16]; omega
  have f36 : rd2 P 36 = (a2 / 256 % 256).toNat * 256 + (a2 % 256).toNat := by rw [hP]; kernel_rfl
  have g36 := s16_of (rd2 P 36) a2 (by rw [f36]; omega) h2.1 h2.2
  have f38 : rd2 P 38 = (a3 / 256 % 256).toNat * 256 + (a3 % 256).toNat := by rw [hP]; kernel_rfl
  have g38 := s16_of (rd2 P 38) a3 (by rw [f38]; omega) h3.1 h3.2
  have f40 : rd2 P 40 = (a4 / 256 % 256).toNat * 256 + (a4 % 256).toNat := by rw [hP]; kernel_rfl
  have g40 := s16_of (rd2 P 40) a4 (by rw [f40]; omega) h4.1 h4.2
  have f42 : rd2 P 42 = (a5 / 256 % 256).toNat * 256 + (a5 % 256).toNat := by rw [hP]; kernel_rfl
  have g42 := s16_of (rd2 P 42) a5 (by rw [f42]; omega) h5.1 h5.2
  have f44 : rd2 P 44 = (a6 / 256 % 256).toNat * 256 + (a6 % 256).toNat := by rw [hP]; kernel_rfl
  have g44 : ((rd2 P 44 : Nat) : Int) = a6 := by rw [f44]; omega
  have f46 : rd2 P 46 = (a7 / 256 % 256).toNat * 256 + (a7 % 256).toNat := by rw [hP]; kernel_rfl
  have g46 : ((rd2 P 46 : Nat) : Int) = a7 := by rw [f46]; omega
  have hl : P.length = 54 + b.length := by rw [hP, List.length_append, putHs_len]
  rw [← hP]
  have d50 : decide (rd2 P 50 < 2) = true := by rw [f50]; cases b8 <;> kernel_rfl
  have e50 : (rd2 P 50 == 1) = b8 := by rw [f50]; cases b8 <;> kernel_rfl
  unfold okH valH
  rw [g18, g16, g36, g38, g40, g42, g44, g46, e50, f0, f2, f12, f52, d50, hl, decide_eq_true (show 54 ≤ 54 + b.length by omega), decide_eq_true (show 16 ≤ rd2 P 18 by omega), decide_eq_true (show rd2 P 18 ≤ 16384 by omega)]
  refine ⟨?_, rfl⟩
  simp only [beq_self_eq_true, Bool.and_self]

end Go.Proofs.Ytbomgaacahaofaa
