/- Part 5 of the proof: DcJ. -/
import Derived.Test.YthoocoaalbeopaaDoorCDc3

namespace Go.Proofs.YthoocoaalbeopaaDoor
open Go Go.RowKit
set_option linter.unusedVariables false
set_option linter.unusedSimpArgs false

theorem u64_in {y : Int} (h0 : 0 ≤ y) (hy : y ≤ 9223372036854775807) : IntKind.u64.wrap y = y := by
  simp [IntKind.wrap, IntKind.bits, IntKind.signed]
  omega
theorem and32_in (y : Nat) (hy : y < 4294967296) : bits .and .u64 (y : Int) 4294967295 = (y : Int) := by
  have h1 : (BitVec.ofInt 64 4294967295).toNat = 2 ^ 32 - 1 := by decide
  have key : (BitVec.ofInt 64 (y : Int) &&& BitVec.ofInt 64 4294967295).toNat = y := by
    rw [BitVec.toNat_and, h1, BitVec.ofInt_natCast, BitVec.toNat_ofNat, Nat.and_two_pow_sub_one_eq_mod, Nat.mod_eq_of_lt (a := y) (by omega), Nat.mod_eq_of_lt (by omega)]
  show IntKind.u64.wrap ((BitVec.ofInt 64 (y : Int) &&& BitVec.ofInt 64 4294967295).toNat : Nat) = _
  rw [key]
  exact u64_in (by omega) (by omega)
set_option maxRecDepth 100000 in
theorem mul17_any (x : Nat) (hx : x ≤ 2147483648) (w : World) : Calls Tryd.prog 78 #[.int .u64 (x : Nat), .int .u64 131072] w fun e w' => e = .returned (.tuple #[.int .u64 0, .int .u64 ((x : Int) * 131072)]) ∧ w = w' := by
  obtain ⟨t, ht⟩ : ∃ t : Nat, x * 131072 / 4294967296 = t := ⟨_, rfl⟩
  have a1 := and32_in x (by omega)
  have a2 : (x : Int) / 4294967296 = 0 := by omega
  have a3 : bits .and .u64 131072 4294967295 = 131072 := by kernel_rfl
  have a4 : bits .and .u64 0 4294967295 = 0 := by kernel_rfl
  have a5 : IntKind.u64.wrap ((x : Int) * 131072) = (x : Int) * 131072 := u64_in (by omega) (by omega)
  have a6 : ((x : Int) * 131072) / 4294967296 = (t : Int) := by omega
  have a7 : IntKind.u64.wrap 0 = 0 := by kernel_rfl
  have a8 : IntKind.u64.wrap (t : Int) = (t : Int) := u64_in (by omega) (by omega)
  have a9 := and32_in t (by omega)
  have a10 : (t : Int) / 4294967296 = 0 := by omega
  have a11 : (131072 : Int) / 4294967296 = 0 := by decide
  clear ht
  go_enter Tryd.func78, Tryd.ntmps78
  go_wp2
  exact bodyPost_ret (v := .tuple #[.int .u64 0, .int .u64 ((x : Int) * 131072)]) (by simp [results, Tryd.results78, go_sem]) rfl ⟨rfl, rfl⟩
set_option maxRecDepth 100000 in
theorem dsc_zero (x : Nat) (hx : x ≤ 2147483648) (w : World) : Calls Tryd.prog 74 #[.int .i64 (x : Nat), .int .i64 0] w fun e w' => e = .returned (.tuple #[.int .i64 ((x : Int) * 65536), .bool true]) ∧ w = w' := by
  have CM := fun W => mul17_any x hx W
  have a1 : IntKind.u64.wrap (x : Int) = (x : Int) := u64_in (by omega) (by omega)
  have a2 : IntKind.u64.wrap ((x : Int) * 131072 + 1) = (x : Int) * 131072 + 1 := u64_in (by omega) (by omega)
  have a3 : IntKind.i64.wrap ((x : Int) * 131072 + 1) = (x : Int) * 131072 + 1 := IntWalk.i64_in _ (by omega)
  have a4 : wrap64 (((x : Int) * 131072 + 1).tdiv 2) = (x : Int) * 65536 := by rw [Int.tdiv_eq_ediv_of_nonneg (by omega)]; simp [wrap64]; omega
  have d1 : ¬ (x : Int) > 2147483648 := by omega
  go_enter Tryd.func74, Tryd.ntmps74
  go_wp2
  go_loopw [0, 11] (fun xv iv wr => xv = .int .i64 (x : Nat) ∧ iv = .int .i64 0 ∧ wr = w) (fun _ _ _ => 0)
  case atStart => exact ⟨rfl, rfl, rfl⟩
  case round =>
    obtain ⟨rfl, rfl, rfl⟩ := hrel
    go_wp2
    go_loopw [6, 7] (fun mv pv wx => mv = .int .i64 2147483648 ∧ pv = .int .i64 0 ∧ wx = wr) (fun _ _ _ => 0)
    case atStart => exact ⟨rfl, rfl, rfl⟩
    case round =>
      obtain ⟨rfl, rfl, rfl⟩ := hrel
      go_wp2_with (first | (go_at_call 78; ((with_reducible refine (CM _).mono ?_); rintro e w1 ⟨rfl, rfl⟩)))
      go_loopw [8, 9, 42] (fun hv lv iv wz => hv = .int .u64 0 ∧ lv = .int .u64 ((x : Int) * 131072) ∧ iv = .int .i64 0 ∧ wz = wr) (fun _ _ _ _ => 0)
      case atStart => exact ⟨rfl, rfl, rfl, rfl⟩
      case round =>
        obtain ⟨rfl, rfl, rfl, rfl⟩ := hrel
        go_wp2
        exact bodyPost_ret (v := .tuple #[.int .i64 ((x : Int) * 65536), .bool true]) (by simp [results, Tryd.results74, go_sem]; omega) rfl ⟨rfl, rfl⟩
set_option maxRecDepth 100000 in
theorem div10_a (w : World) : Calls Tryd.prog 79 #[.int .u64 0, .int .u64 29491200, .int .u64 10] w fun e w' => e = .returned (.tuple #[.int .u64 2949120, .int .u64 0]) ∧ Below w.heap.size w w' := by
  go_enter Tryd.func79, Tryd.ntmps79
  go_wp2
  have hI : Below w.heap.size w w.drew := (Below.refl _ _).drew
  refine wp_region_chain (fun V => Below w.heap.size w V) [(0, false), (1, false), (2, false), (3, false), (4, false), (5, false), (6, false), (7, false)] (by kernel_rfl) (by kernel_rfl) hI ?_
  repeat (first
    | (refine ChainL.skip (o := ?_) ?_ ?_ ?_; rotate_left; (focus (first | (simp only [List.getElem?_toArray, List.getElem?_cons_succ, List.getElem?_cons_zero]; with_reducible rfl) | (simp only [List.getElem?_toArray, List.getElem?_cons_zero]; with_reducible rfl))); (focus rfl); simp only [Act.put, List.setIfInBounds_toArray, List.set_cons_zero, List.set_cons_succ])
    | (refine ChainL.val (o := ?_) (v := ?_) ?_ ?_ ?_ ?_ ?_; rotate_left 2; (focus (first | (simp only [List.getElem?_toArray, List.getElem?_cons_succ, List.getElem?_cons_zero]; with_reducible rfl) | (simp only [List.getElem?_toArray, List.getElem?_cons_zero]; with_reducible rfl))); (focus (intro _ _ h; cases h)); (focus rfl); (focus (intro w' hJ; skip; go_simp <;> with_reducible rfl)); simp only [Act.put, List.setIfInBounds_toArray, List.set_cons_zero, List.set_cons_succ]))
  refine ChainL.nil ?_
  go_wp2
  exact bodyPost_ret (v := .tuple #[.int .u64 2949120, .int .u64 0]) (by simp [results, Tryd.results79, go_sem]; rfl) rfl ⟨rfl, hI⟩
set_option maxRecDepth 100000 in
theorem div10_b (w : World) : Calls Tryd.prog 79 #[.int .u64 0, .int .u64 2949120, .int .u64 10] w fun e w' => e = .returned (.tuple #[.int .u64 294912, .int .u64 0]) ∧ Below w.heap.size w w' := by
  go_enter Tryd.func79, Tryd.ntmps79
  go_wp2
  have hI : Below w.heap.size w w.drew := (Below.refl _ _).drew
  refine wp_region_chain (fun V => Below w.heap.size w V) [(0, false), (1, false), (2, false), (3, false), (4, false), (5, false), (6, false), (7, false)] (by kernel_rfl) (by kernel_rfl) hI ?_
  repeat (first
    | (refine ChainL.skip (o := ?_) ?_ ?_ ?_; rotate_left; (focus (first | (simp only [List.getElem?_toArray, List.getElem?_cons_succ, List.getElem?_cons_zero]; with_reducible rfl) | (simp only [List.getElem?_toArray, List.getElem?_cons_zero]; with_reducible rfl))); (focus rfl); simp only [Act.put, List.setIfInBounds_toArray, List.set_cons_zero, List.set_cons_succ])
    | (refine ChainL.val (o := ?_) (v := ?_) ?_ ?_ ?_ ?_ ?_; rotate_left 2; (focus (first | (simp only [List.getElem?_toArray, List.getElem?_cons_succ, List.getElem?_cons_zero]; with_reducible rfl) | (simp only [List.getElem?_toArray, List.getElem?_cons_zero]; with_reducible rfl))); (focus (intro _ _ h; cases h)); (focus rfl); (focus (intro w' hJ; skip; go_simp <;> with_reducible rfl)); simp only [Act.put, List.setIfInBounds_toArray, List.set_cons_zero, List.set_cons_succ]))
  refine ChainL.nil ?_
  go_wp2
  exact bodyPost_ret (v := .tuple #[.int .u64 294912, .int .u64 0]) (by simp [results, Tryd.results79, go_sem]; rfl) rfl ⟨rfl, hI⟩
set_option maxRecDepth 100000 in
theorem dsc_225 (w : World) : Calls Tryd.prog 74 #[.int .i64 225, .int .i64 (-2)] w fun e w' => e = .returned (.tuple #[.int .i64 147456, .bool true]) ∧ Below w.heap.size w w' := by
  have CM : ∀ W, Calls Tryd.prog 78 #[.int .u64 225, .int .u64 131072] W fun e w' => e = .returned (.tuple #[.int .u64 0, .int .u64 29491200]) ∧ W = w' := fun W => by simpa using mul17_any 225 (by decide) W
  have CA := fun W => div10_a W
  have CB := fun W => div10_b W
  go_enter Tryd.func74, Tryd.ntmps74
  go_wp2
  go_loopw [0, 11] (fun xv iv wr => xv = .int .i64 225 ∧ iv = .int .i64 0 ∧ wr = w) (fun _ _ _ => 0)
  case atStart => exact ⟨rfl, rfl, rfl⟩
  case round =>
    obtain ⟨rfl, rfl, rfl⟩ := hrel
    go_wp2
    go_loopw [6, 7] (fun mv pv wx => mv = .int .i64 2147483648 ∧ pv = .int .i64 2 ∧ wx = wr) (fun _ _ _ => 0)
    case atStart => exact ⟨rfl, rfl, rfl⟩
    case round =>
      obtain ⟨rfl, rfl, rfl⟩ := hrel
      go_wp2_with (first | (go_at_call 78; ((with_reducible refine (CM _).mono ?_); rintro e w1 ⟨rfl, rfl⟩)))
      refine wp_loop_rounds 3 ?_
      rw [rounds_succ]
      go_wp2_with (first | (go_at_call 79; ((with_reducible refine (CA _).mono ?_); rintro e w1 ⟨rfl, b1⟩)))
      rw [rounds_succ]
      go_wp2_with (first | (go_at_call 79; ((with_reducible refine (CB _).mono ?_); rintro e w2 ⟨rfl, b2⟩)))
      rw [rounds_succ]
      go_wp2
      exact bodyPost_ret (v := .tuple #[.int .i64 147456, .bool true]) (by simp [results, Tryd.results74, go_sem]) rfl ⟨rfl, b1.trans (b2.mono b1.size)⟩
end Go.Proofs.YthoocoaalbeopaaDoor
