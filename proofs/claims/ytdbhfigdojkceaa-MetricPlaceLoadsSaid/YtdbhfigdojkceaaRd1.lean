/- A reader's small calls. -/
import Derived.Test.YtdbhfigdojkceaaFix1
import Derived.Test.YtdbhfigdojkceaaBytes
import Derived.Test.YtdbhfigdojkceaaPlan
import Derived.Lib.Hide
namespace Go.Proofs.Ytdbhfigdojkceaa
open Go Go.RowKit

theorem isBad_low (p n c i : Nat) (A : Option Addr) (bad : Bool) (w : World) (hb : Blk w p 91 #[.slice A n c, .int .i64 (i : Nat), .bool bad]) :
    Calls Try.prog 62 #[.pointer (some ⟨p, 0, none⟩)] w fun e w' => e = .returned (.bool bad) ∧ w = w' := by
  have F := hb.kb; simp only [KB, CellsAt, Nat.zero_add, Nat.reduceAdd, and_true] at F
  clear hb
  go_enter Try.func62, Try.ntmps62
  go_wp2
  go_ret
  exact ⟨rfl, rfl⟩

theorem left_low (p n c i : Nat) (A : Option Addr) (w : World) (hb : Blk w p 91 #[.slice A n c, .int .i64 (i : Nat), .bool false]) (hn : n ≤ 4611686018427387904) (hi : i ≤ n) :
    Calls Try.prog 63 #[.pointer (some ⟨p, 0, none⟩)] w fun e w' => e = .returned (.int .i64 ((n - i : Nat) : Int)) ∧ Below w.heap.size w w' := by
  have C := isBad_low p n c i A false w hb
  have HK : ∀ w', Below w.heap.size w w' → KB w' [(p, [.slice A n c, .int .i64 (i : Nat), .bool false])] := fun w' hS => (hb.below hS).kb
  have s1 : IntKind.i64.wrap ((n : Int) - (i : Int)) = (n : Int) - (i : Int) := IntWalk.i64_in _ (by omega)
  go_enter Try.func63, Try.ntmps63
  go_wp2_with (first | (go_at_call 62; ((with_reducible refine (C).mono ?_); rintro e w' ⟨rfl, rfl⟩)))
  refine wp_region_plan (fun w' => Below w.heap.size w w') _ rfl (by kernel_rfl) (by kernel_rfl) ((Below.refl _ _).drew) ?_
  repeat (first
    | (refine PlanL.skip (by rfl) ?_; simp only [Act.put, List.setIfInBounds_toArray, List.set_cons_zero, List.set_cons_succ])
    | (refine PlanL.val (v := ?_) (by rfl) ?_ ?_; rotate_left; (focus (intro w' hS; have F := HK _ hS; simp only [KB, CellsAt, Nat.zero_add, Nat.reduceAdd, and_true] at F; go_simp <;> with_reducible rfl)); try simp only [Act.put, List.setIfInBounds_toArray, List.set_cons_zero, List.set_cons_succ]))
  refine PlanL.nil ?_
  intro w' hS
  have F := HK _ hS; simp only [KB, CellsAt, Nat.zero_add, Nat.reduceAdd, and_true] at F
  clear F s1
  go_wp2
  go_ret
  exact ⟨ret_int (by omega), hS⟩


theorem addr_add_add1 (a : Addr) (i j : Nat) : (a.add i).add j = a.add (i + j) := by
  unfold Addr.add
  by_cases hi : i = 0
  · subst hi; simp
  · by_cases hj : j = 0
    · subst hj; simp [hi]
    · simp [hi, hj, Nat.add_assoc]

/-- A part of a list. -/
theorem lists_part {w : World} {B : Nat} {A : Option Addr} {xs : List Value} (h : Lists w B A xs) (i m : Nat) : Lists w B (A.map (·.add i)) ((xs.drop i).take m) := by
  refine ⟨fun ha => ?_, fun a ha j u hu => ?_, fun a ha hx => ?_⟩
  · cases A with
    | none => rw [h.nil rfl]; simp
    | some a => cases ha
  · cases A with
    | none => cases ha
    | some a0 =>
      cases ha
      rw [addr_add_add1]
      refine h.cell a0 rfl (i + j) u ?_
      rw [List.getElem?_take] at hu
      split at hu
      · rwa [List.getElem?_drop] at hu
      · cases hu
  · cases A with
    | none => cases ha
    | some a0 =>
      cases ha
      rw [addr_add_block]
      exact h.lt a0 rfl (by intro e; subst e; simp at hx)

/-- A slice that reads as xs, of just its capacity. -/
def GavePart (w : World) (xs : List Value) (e : Ending) (w' : World) : Prop := ∃ A, e = .returned (.slice A xs.length xs.length) ∧ Lists w w.heap.size A xs ∧ w = w'

theorem part_any (A : Option Addr) (n c i m : Nat) (xs : List Value) (w : World) (hx : xs.length = n) (hl : Lists w w.heap.size A xs) (hc : n ≤ c) (hc2 : c ≤ 9223372036854775807) (him : i + m ≤ n) :
    Calls Try.prog 64 #[.slice A n c, .int .i64 (i : Nat), .int .i64 (m : Nat)] w fun e w' => GavePart w ((xs.drop i).take m) e w' := by
  have hlen : ((xs.drop i).take m).length = m := by simp only [List.length_take, List.length_drop]; omega
  have hp := lists_part hl i m
  have h1 : (0 : Int) ≤ (i : Int) := by omega
  have h2 : (0 : Int) ≤ (m : Int) := by omega
  have h3 : (i : Int) + (m : Int) ≤ (c : Int) := by omega
  have s1 : wrap64 ((i : Int) + (m : Int)) = (i : Int) + (m : Int) := by unfold wrap64; omega
  have hfin : ∀ (A' : Option Addr) (k : Nat), k = m → (A' = A.map (·.add i) ∨ (A' = A ∧ m = 0)) → GavePart w ((xs.drop i).take m) (.returned (.slice A' k k)) w := fun A' k hk h => by
    subst hk
    refine ⟨A', by rw [hlen], ?_, rfl⟩
    rcases h with rfl | ⟨rfl, h0⟩
    · exact hp
    · rw [h0, List.take_zero]; exact Lists.empty _ _ _
  have HF := Lib.hid hfin
  clear hfin hp hl hlen hx
  by_cases hm0 : m = 0
  · subst hm0
    go_enter Try.func64, Try.ntmps64
    go_wp2
    all_goals go_ret
    all_goals exact HF.out A _ (by first | rfl | trivial | omega) (.inr ⟨rfl, (by trivial)⟩)
  · have hm1 : 0 < m := by omega
    have hm2 : ¬ i + m = i := by omega
    go_enter Try.func64, Try.ntmps64
    go_wp2
    all_goals go_ret
    all_goals exact HF.out _ _ (by omega) (.inl rfl)

end Go.Proofs.Ytdbhfigdojkceaa
