/- A writer's length, and whether more fits. -/
import Derived.Test.YtdbhfigdojkceaaFix1
import Derived.Test.YtdbhfigdojkceaaBytes
import Derived.Test.YtdbhfigdojkceaaPlan
namespace Go.Proofs.Ytdbhfigdojkceaa
open Go Go.RowKit

theorem wlen_low (p R : Nat) (F : Bool) (A : Option Addr) (n c z : Nat) (gv : Value) (w : World) (hb : Blk w p 85 #[.int .i64 (R : Nat), .bool F, .slice A n c, gv, .int .i64 (z : Nat)]) (hn : n + z ≤ 4611686018427387904) :
    Calls Try.prog 49 #[.pointer (some ⟨p, 0, none⟩)] w fun e w' => e = .returned (.int .i64 ((n + z : Nat) : Int)) ∧ Below w.heap.size w w' := by
  have HK : ∀ w', Below w.heap.size w w' → KB w' [(p, [.int .i64 (R : Nat), .bool F, .slice A n c, gv, .int .i64 (z : Nat)])] := fun w' hS => (hb.below hS).kb
  have s1 : IntKind.i64.wrap ((n : Int) + (z : Int)) = (n : Int) + (z : Int) := IntWalk.i64_in _ (by omega)
  go_enter Try.func49, Try.ntmps49
  go_wp2
  refine wp_region_plan (fun w' => Below w.heap.size w w') _ rfl (by kernel_rfl) (by kernel_rfl) ((Below.refl _ _).drew) ?_
  repeat (first
    | (refine PlanL.skip (by rfl) ?_; simp only [Act.put, List.setIfInBounds_toArray, List.set_cons_zero, List.set_cons_succ])
    | (refine PlanL.val (v := ?_) (by rfl) ?_ ?_; rotate_left; (focus (intro w' hS; have F := HK _ hS; simp only [KB, CellsAt, Nat.zero_add, Nat.reduceAdd, and_true] at F; go_simp <;> with_reducible rfl)); try simp only [Act.put, List.setIfInBounds_toArray, List.set_cons_zero, List.set_cons_succ]))
  refine PlanL.nil ?_
  intro w' hS
  have F := HK _ hS; simp only [KB, CellsAt, Nat.zero_add, Nat.reduceAdd, and_true] at F
  clear F s1
  go_wp2
  go_ret
  exact ⟨ret_int (by simp), hS⟩

theorem fits_full (p R : Nat) (A : Option Addr) (n c z : Nat) (gv : Value) (x : Int) (w : World) (hb : Blk w p 85 #[.int .i64 (R : Nat), .bool true, .slice A n c, gv, .int .i64 (z : Nat)]) :
    Calls Try.prog 61 #[.pointer (some ⟨p, 0, none⟩), .int .i64 x] w fun e w' => e = .returned (.bool false) ∧ Blk w' p 85 #[.int .i64 (R : Nat), .bool true, .slice A n c, gv, .int .i64 (z : Nat)] ∧ Only w w' [p] := by
  have HK : ∀ w', Below w.heap.size w w' → KB w' [(p, [.int .i64 (R : Nat), .bool true, .slice A n c, gv, .int .i64 (z : Nat)])] := fun w' hS => (hb.below hS).kb
  skip
  go_enter Try.func61, Try.ntmps61
  go_wp2
  refine wp_region_last (fun w' => Below w.heap.size w w') _ _ (by rfl) (by kernel_rfl) (by kernel_rfl) (by rfl) ((Below.refl _ _).drew) ?_
  repeat (first
    | (refine PlanL.skip (by rfl) ?_; simp only [Act.put, List.setIfInBounds_toArray, List.set_cons_zero, List.set_cons_succ])
    | (refine PlanL.val (v := ?_) (by rfl) ?_ ?_; rotate_left; (focus (intro w' hS; have F := HK _ hS; simp only [KB, CellsAt, Nat.zero_add, Nat.reduceAdd, and_true] at F; go_simp <;> with_reducible rfl)); try simp only [Act.put, List.setIfInBounds_toArray, List.set_cons_zero, List.set_cons_succ]))
  refine PlanL.nil ?_
  intro w' hS
  have F := HK _ hS; simp only [KB, CellsAt, Nat.zero_add, Nat.reduceAdd, and_true] at F
  have hb1 := (hb.below hS).set 1 (.bool true)
  go_wp2
  go_ret
  refine ⟨rfl, hb1, (Only.of_below hS [p]).set (.inl (by simp)) _⟩

theorem fits_no (p R : Nat) (A : Option Addr) (n c z : Nat) (gv : Value) (x : Int) (w : World) (hb : Blk w p 85 #[.int .i64 (R : Nat), .bool false, .slice A n c, gv, .int .i64 (z : Nat)]) (hn : n + z ≤ 4611686018427387904) (hR : R ≤ 4611686018427387904) (hx : (R : Int) - ((n + z : Nat) : Int) < x) :
    Calls Try.prog 61 #[.pointer (some ⟨p, 0, none⟩), .int .i64 x] w fun e w' => e = .returned (.bool false) ∧ Blk w' p 85 #[.int .i64 (R : Nat), .bool true, .slice A n c, gv, .int .i64 (z : Nat)] ∧ Only w w' [p] := by
  have HK : ∀ w', Below w.heap.size w w' → KB w' [(p, [.int .i64 (R : Nat), .bool false, .slice A n c, gv, .int .i64 (z : Nat)])] := fun w' hS => (hb.below hS).kb
  have s1 : IntKind.i64.wrap ((R : Int) - ((n : Int) + (z : Int))) = (R : Int) - ((n : Int) + (z : Int)) := IntWalk.i64_in _ (by omega)
  have d1 : decide ((R : Int) - ((n : Int) + (z : Int)) < x) = true := by simpa using hx
  go_enter Try.func61, Try.ntmps61
  go_wp2
  refine wp_region_last (fun w' => Below w.heap.size w w') _ _ (by rfl) (by kernel_rfl) (by kernel_rfl) (by rfl) ((Below.refl _ _).drew) ?_
  repeat (first
    | (refine PlanL.skip (by rfl) ?_; simp only [Act.put, List.setIfInBounds_toArray, List.set_cons_zero, List.set_cons_succ])
    | (refine PlanL.val (v := ?_) (by rfl) ?_ ?_; rotate_left; (focus (intro w' hS; have F := HK _ hS; simp only [KB, CellsAt, Nat.zero_add, Nat.reduceAdd, and_true] at F; go_simp <;> with_reducible rfl)); try simp only [Act.put, List.setIfInBounds_toArray, List.set_cons_zero, List.set_cons_succ])
    | (refine PlanL.call (v := ?_) (f := ?_) (args := ?_) (by rfl) ?_ ?_ ?_; rotate_left 3; (focus (intro w' hS; have F := HK _ hS; simp only [KB, CellsAt, Nat.zero_add, Nat.reduceAdd, and_true] at F; go_simp; (constructor <;> with_reducible rfl))); (focus (intro w' hS; first | ((with_reducible refine (wlen_low p R _ A n c z gv w' (hb.below hS) hn).mono ?_); rintro e w'' ⟨rfl, b⟩; refine ⟨?_, (Below.trans hS (b.mono hS.size))⟩; with_reducible rfl) | fail)); try simp only [Act.put, List.setIfInBounds_toArray, List.set_cons_zero, List.set_cons_succ]))
  refine PlanL.nil ?_
  intro w' hS
  have F := HK _ hS; simp only [KB, CellsAt, Nat.zero_add, Nat.reduceAdd, and_true] at F
  have hb1 := (hb.below hS).set 1 (.bool true)
  go_wp2
  go_ret
  refine ⟨rfl, hb1, (Only.of_below hS [p]).set (.inl (by simp)) _⟩

theorem fits_yes (p R : Nat) (A : Option Addr) (n c z : Nat) (gv : Value) (x : Int) (w : World) (hb : Blk w p 85 #[.int .i64 (R : Nat), .bool false, .slice A n c, gv, .int .i64 (z : Nat)]) (hn : n + z ≤ 4611686018427387904) (hR : R ≤ 4611686018427387904) (hx : x ≤ (R : Int) - ((n + z : Nat) : Int)) :
    Calls Try.prog 61 #[.pointer (some ⟨p, 0, none⟩), .int .i64 x] w fun e w' => e = .returned (.bool true) ∧ Blk w' p 85 #[.int .i64 (R : Nat), .bool false, .slice A n c, gv, .int .i64 (z : Nat)] ∧ Only w w' [p] := by
  have HK : ∀ w', Below w.heap.size w w' → KB w' [(p, [.int .i64 (R : Nat), .bool false, .slice A n c, gv, .int .i64 (z : Nat)])] := fun w' hS => (hb.below hS).kb
  have s1 : IntKind.i64.wrap ((R : Int) - ((n : Int) + (z : Int))) = (R : Int) - ((n : Int) + (z : Int)) := IntWalk.i64_in _ (by omega)
  have d1 : decide ((R : Int) - ((n : Int) + (z : Int)) < x) = false := by simpa using hx
  go_enter Try.func61, Try.ntmps61
  go_wp2
  refine wp_region_last (fun w' => Below w.heap.size w w') _ _ (by rfl) (by kernel_rfl) (by kernel_rfl) (by rfl) ((Below.refl _ _).drew) ?_
  repeat (first
    | (refine PlanL.skip (by rfl) ?_; simp only [Act.put, List.setIfInBounds_toArray, List.set_cons_zero, List.set_cons_succ])
    | (refine PlanL.val (v := ?_) (by rfl) ?_ ?_; rotate_left; (focus (intro w' hS; have F := HK _ hS; simp only [KB, CellsAt, Nat.zero_add, Nat.reduceAdd, and_true] at F; go_simp <;> with_reducible rfl)); try simp only [Act.put, List.setIfInBounds_toArray, List.set_cons_zero, List.set_cons_succ])
    | (refine PlanL.call (v := ?_) (f := ?_) (args := ?_) (by rfl) ?_ ?_ ?_; rotate_left 3; (focus (intro w' hS; have F := HK _ hS; simp only [KB, CellsAt, Nat.zero_add, Nat.reduceAdd, and_true] at F; go_simp; (constructor <;> with_reducible rfl))); (focus (intro w' hS; first | ((with_reducible refine (wlen_low p R _ A n c z gv w' (hb.below hS) hn).mono ?_); rintro e w'' ⟨rfl, b⟩; refine ⟨?_, (Below.trans hS (b.mono hS.size))⟩; with_reducible rfl) | fail)); try simp only [Act.put, List.setIfInBounds_toArray, List.set_cons_zero, List.set_cons_succ]))
  refine PlanL.nil ?_
  intro w' hS
  have F := HK _ hS; simp only [KB, CellsAt, Nat.zero_add, Nat.reduceAdd, and_true] at F
  have hb1 := (hb.below hS).set 1 (.bool false)
  go_wp2
  go_ret
  refine ⟨rfl, hb1, (Only.of_below hS [p]).set (.inl (by simp)) _⟩

end Go.Proofs.Ytdbhfigdojkceaa
