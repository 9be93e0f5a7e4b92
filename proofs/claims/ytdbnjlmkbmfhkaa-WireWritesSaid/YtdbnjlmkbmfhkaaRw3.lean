/- The reference's writer: padding. -/
import Derived.Test.YtdbnjlmkbmfhkaaRw2
namespace Go.Proofs.Ytdbnjlmkbmfhkaa
open Go Go.RowKit

theorem RPut.nothing {w w' : World} {q R : Nat} {F : Bool} {L : List Value} {fp : List Nat} (hW : RWr w q R F L fp) (hb : Below w.heap.size w w') : RPut w w' q R F L fp [] := by
  have hL : L.length ≤ R := by
    obtain ⟨_, _, _, _, h, _⟩ := hW
    exact h
  have hf : putF R F L [] = F := by
    unfold putF
    rw [show decide (R < L.length + ([] : List Value).length) = false by simp; omega]
    simp
  refine ⟨fp, ?_, Only.of_below hb fp, fun b h => .inl h⟩
  unfold putL
  rw [hf]
  have := hW.only (Only.of_below hb []) (fun _ _ h => (nomatch h))
  cases F
  · rw [if_neg (by simp), List.append_nil]; exact this
  · rw [if_pos rfl]; exact this
theorem RPut.before {w w1 w' : World} {q R : Nat} {F : Bool} {L E : List Value} {fp : List Nat} (hb : Below w.heap.size w w1) (h : RPut w1 w' q R F L fp E) : RPut w w' q R F L fp E := by
  obtain ⟨fp', h1, h2, h3⟩ := h
  exact ⟨fp', h1, (Only.of_below hb fp).trans h2 (fun b hb => .inl hb), fun b hm => (h3 b hm).imp id (fun h => Nat.le_trans hb.size h)⟩
theorem rput_full {w w' : World} {q R : Nat} {F : Bool} {L : List Value} {fp : List Nat} {E : List Value} (hf : putF R F L E = true) (hW : RWr w q R F L fp) (hS : Below w.heap.size w w') : RPut w (w'.setCell ⟨q, 2, none⟩ (.bool true)) q R F L fp E := by
  obtain ⟨bv, hb, hd, k2, k3, k5⟩ := hW
  have n1 := own_ne hd hb (by decide)
  have o3 : Only w (w'.setCell ⟨q, 2, none⟩ (.bool true)) [q] := (Only.of_below hS _).set (.inl (by simp)) _
  refine ⟨fp, ?_, by rw [k5]; exact o3.more (fun b hm => by simp at hm; subst hm; simp), fun b hm => .inl hm⟩
  rw [hf]
  unfold putL
  rw [hf, if_pos rfl]
  exact ⟨bv, (hb.below hS).set 2 (.bool true), own_only hd o3 (fun b hm e => by simp at e; subst e; exact n1 hm), k2, k3, k5⟩

set_option maxRecDepth 100000 in
theorem rpad_none (q R : Nat) (F : Bool) (L : List Value) (fp : List Nat) (n : Int) (w : World) (hW : RWr w q R F L fp) (hn : n < 1 ∨ (L.length : Int) % n = 0) (h1 : -9223372036854775808 ≤ n) (h2 : n ≤ 9223372036854775807) :
    Calls Try.prog 74 #[.pointer (some ⟨q, 0, none⟩), .int .i64 n] w fun e w' => e = .returned (.tuple #[]) ∧ RPut w w' q R F L fp [] := by
  have hq := fun w' => RPut.nothing (w' := w') hW
  obtain ⟨bv, hb, hd, _, hL, hfp⟩ := hW
  clear hfp
  obtain ⟨A0, c0, rfl, _, _⟩ := own_lists hd
  have F0 := hb.kb; simp only [KB, CellsAt, Nat.zero_add, Nat.reduceAdd, and_true] at F0
  clear hb hd
  by_cases hn1 : n < 1
  · have hq := hq w (Below.refl _ _)
    clear hn
    go_enter Try.func74, Try.ntmps74
    go_wp2
    refine bodyPost_ret (results_none rfl _ _ _) rfl ?_
    exact ⟨rfl, hq⟩
  · have hn2 : 1 ≤ n := by omega
    have hd : ((L.length : Int) % n == 0) = true := by simpa using hn.resolve_left hn1
    have hq := hq w (Below.refl _ _)
    clear hn
    go_enter Try.func74, Try.ntmps74
    go_wp2
    refine bodyPost_ret (results_none rfl _ _ _) rfl ?_
    exact ⟨rfl, hq⟩

set_option maxRecDepth 100000 in
set_option maxHeartbeats 1000000 in
theorem rpad_some (q R : Nat) (F : Bool) (L : List Value) (fp : List Nat) (n : Int) (z : Nat) (w : World) (hW : RWr w q R F L fp) (hR : R ≤ 1099511627776) (hn : 1 ≤ n) (h2 : n ≤ 9223372036854775807) (hd : ((L.length : Int) % n == 0) = false) (hz : n - (L.length : Int) % n = (z : Int)) :
    Calls Try.prog 74 #[.pointer (some ⟨q, 0, none⟩), .int .i64 n] w fun e w' => e = .returned (.tuple #[]) ∧ RPut w w' q R F L fp (List.replicate z zero8) := by
  have hmod := Int.emod_nonneg (L.length : Int) (show n ≠ 0 by omega)
  have e1 : IntKind.i64.wrap (n - (L.length : Int) % n) = (z : Int) := by rw [IntWalk.i64_in _ (by omega), hz]
  have e2 : wrap64 (n - (L.length : Int) % n) = (z : Int) := by unfold wrap64; omega
  have hzz : (z : Int) ≤ 9223372036854775807 := by omega
  have hz0 : (0 : Int) ≤ (z : Int) := by omega
  clear hmod hz
  have HW := Lib.hid hW
  obtain ⟨bv, hb, hd0, k2, k3, k5⟩ := hW
  obtain ⟨A0, c0, rfl, _, _⟩ := own_lists hd0
  have HK : ∀ w', Below w.heap.size w w' → KB w' [(q, [.slice A0 L.length c0, .int .i64 (R : Nat), .bool F])] := fun w' hS => (hb.below hS).kb
  have s1 : IntKind.i64.wrap ((R : Int) - (L.length : Int)) = (R : Int) - (L.length : Int) := IntWalk.i64_in _ (by omega)
  have F0 := hb.kb; simp only [KB, CellsAt, Nat.zero_add, Nat.reduceAdd, and_true] at F0
  cases hf : putF R F L (List.replicate z zero8)
  · have hF : F = false := by unfold putF at hf; simp at hf; exact hf.1
    have hx : L.length + z ≤ R := by unfold putF at hf; simp at hf; exact hf.2
    subst hF
    have d1 : decide ((R : Int) - (L.length : Int) < (z : Int)) = false := by simp; omega
    have hmk : ∀ w : World, (Instr.makeSlice 58 (.int .i64 (z : Int)) (.int .i64 (z : Int))).run Try.prog w = .ok (.slice (some ⟨w.heap.size, 0, none⟩) z z) (w.alloc (.cells (Array.replicate z zero8) 5)) := fun w => by
      have h := run_make_row' (P := Try.prog) 58 5 (.int .u8 0) 1 Try.underlying58 u8Info rfl .i64 .i64 z (by omega) (by omega) w
      rw [made_zeros, List.toArray_replicate] at h
      exact h
    have C : ∀ w', Below w.heap.size w w' → Calls Try.prog 72 #[.pointer (some ⟨q, 0, none⟩), .slice (some ⟨w'.heap.size, 0, none⟩) z z] (w'.alloc (.cells (Array.replicate z zero8) 5)) (fun e w'' => e = .returned (.tuple #[]) ∧ RPut (w'.alloc (.cells (Array.replicate z zero8) 5)) w'' q R false L fp (List.replicate z zero8)) := fun w' hS =>
      rdata_any q R false L fp (some ⟨w'.heap.size, 0, none⟩) z z (w'.alloc (.cells (Array.replicate z zero8) 5)).heap.size (List.replicate z zero8) _ (HW.out.only (Only.of_below ((hS.alloc hS.size _)) []) (fun _ _ h => (nomatch h))) hR (lists_new w' _ _ _ (fun j u hu => by rw [← List.toArray_replicate, List.getElem?_toArray]; exact hu)) (by simp) (Nat.le_refl _) (Bytes8.zeros z)
    clear hf hx hd0 k2 k5 hb
    go_enter Try.func74, Try.ntmps74
    go_wp2
    clear F0
    refine wp_region_plan (fun w' => Below w.heap.size w w') _ rfl (by kernel_rfl) (by kernel_rfl) ((Below.refl _ _).drew) ?_
    repeat (first
      | (refine PlanL.skip (by rfl) ?_; simp only [Act.put, List.setIfInBounds_toArray, List.set_cons_zero, List.set_cons_succ])
      | (refine PlanL.val (v := ?_) (by rfl) ?_ ?_; rotate_left; (focus (intro w' hS; have F := HK _ hS; simp only [KB, CellsAt, Nat.zero_add, Nat.reduceAdd, and_true] at F; go_simp <;> with_reducible rfl)); try simp only [Act.put, List.setIfInBounds_toArray, List.set_cons_zero, List.set_cons_succ]))
    refine PlanL.nil ?_
    intro w' hS
    have F := HK _ hS; simp only [KB, CellsAt, Nat.zero_add, Nat.reduceAdd, and_true] at F
    clear HK s1 e1 e2
    go_wp2_with (first | (go_at_call 72; ((with_reducible refine (C _ hS).mono ?_); rintro e w1 ⟨rfl, hq⟩)))
    go_end0
    exact ⟨rfl, (RPut.alloc hq).before hS⟩
  · have hx : F = true ∨ (F = false ∧ R < L.length + z) := by
      unfold putF at hf
      cases F
      · simp at hf; exact .inr ⟨rfl, hf⟩
      · exact .inl rfl
    have HFIN := Lib.hid (fun w' (hS : Below w.heap.size w w') => rput_full hf HW.out hS)
    rcases hx with rfl | ⟨rfl, hx⟩
    · clear hf hd0 k2 k5 hb
      go_enter Try.func74, Try.ntmps74
      go_wp2
      clear F0
      refine wp_region_plan (fun w' => Below w.heap.size w w') _ rfl (by kernel_rfl) (by kernel_rfl) ((Below.refl _ _).drew) ?_
      repeat (first
        | (refine PlanL.skip (by rfl) ?_; simp only [Act.put, List.setIfInBounds_toArray, List.set_cons_zero, List.set_cons_succ])
        | (refine PlanL.val (v := ?_) (by rfl) ?_ ?_; rotate_left; (focus (intro w' hS; have F := HK _ hS; simp only [KB, CellsAt, Nat.zero_add, Nat.reduceAdd, and_true] at F; go_simp <;> with_reducible rfl)); try simp only [Act.put, List.setIfInBounds_toArray, List.set_cons_zero, List.set_cons_succ]))
      refine PlanL.nil ?_
      intro w' hS
      have F := HK _ hS; simp only [KB, CellsAt, Nat.zero_add, Nat.reduceAdd, and_true] at F
      clear HK s1
      go_wp2
      refine bodyPost_ret (results_none rfl _ _ _) rfl ?_
      exact ⟨rfl, HFIN.out _ hS⟩
    · have d1 : decide ((R : Int) - (L.length : Int) < (z : Int)) = true := by simp; omega
      clear hf hd0 k2 k5 hb hx
      go_enter Try.func74, Try.ntmps74
      go_wp2
      clear F0
      refine wp_region_plan (fun w' => Below w.heap.size w w') _ rfl (by kernel_rfl) (by kernel_rfl) ((Below.refl _ _).drew) ?_
      repeat (first
        | (refine PlanL.skip (by rfl) ?_; simp only [Act.put, List.setIfInBounds_toArray, List.set_cons_zero, List.set_cons_succ])
        | (refine PlanL.val (v := ?_) (by rfl) ?_ ?_; rotate_left; (focus (intro w' hS; have F := HK _ hS; simp only [KB, CellsAt, Nat.zero_add, Nat.reduceAdd, and_true] at F; go_simp <;> with_reducible rfl)); try simp only [Act.put, List.setIfInBounds_toArray, List.set_cons_zero, List.set_cons_succ]))
      refine PlanL.nil ?_
      intro w' hS
      have F := HK _ hS; simp only [KB, CellsAt, Nat.zero_add, Nat.reduceAdd, and_true] at F
      clear HK s1
      go_wp2
      refine bodyPost_ret (results_none rfl _ _ _) rfl ?_
      exact ⟨rfl, HFIN.out _ hS⟩

theorem padN_some {l : Nat} {n : Int} (h1 : 1 ≤ n) (h : ((l : Int) % n == 0) = false) : n - (l : Int) % n = (padN l n : Int) ∧ 1 ≤ padN l n := by
  have a1 := Int.emod_nonneg (l : Int) (show n ≠ 0 by omega)
  have a2 := Int.emod_lt_of_pos (l : Int) (show 0 < n by omega)
  have h' : ¬ (l : Int) % n = 0 := by simpa using h
  unfold padN
  rw [if_neg (by omega), if_neg h']
  omega
theorem padN_none {l : Nat} {n : Int} (h : n < 1 ∨ (l : Int) % n = 0) : padN l n = 0 := by
  unfold padN
  rcases h with h | h
  · rw [if_pos h]
  · by_cases h1 : n < 1
    · rw [if_pos h1]
    · rw [if_neg h1, if_pos h]

theorem pad_any (p R : Nat) (F : Bool) (L : List Value) (fp : List Nat) (n : Int) (w : World) (hW : Wr w p R F L fp) (hR : R ≤ 1099511627776) (h1 : -9223372036854775808 ≤ n) (h2 : n ≤ 9223372036854775807) :
    Calls Try.prog 67 #[.pointer (some ⟨p, 0, none⟩), .int .i64 n] w fun e w' => e = .returned (.pointer (some ⟨p, 0, none⟩)) ∧ Put w w' p R F L fp (List.replicate (padN L.length n) zero8) := by
  by_cases h : n < 1 ∨ (L.length : Int) % n = 0
  · rw [padN_none h]
    exact pad_none p R F L fp n w hW hR h h1 h2
  · have hd : ((L.length : Int) % n == 0) = false := by simp; omega
    obtain ⟨a, b⟩ := padN_some (show 1 ≤ n by omega) hd
    exact pad_some p R F L fp n _ w hW hR (by omega) h2 hd a b
theorem rpad_any (q R : Nat) (F : Bool) (L : List Value) (fp : List Nat) (n : Int) (w : World) (hW : RWr w q R F L fp) (hR : R ≤ 1099511627776) (h1 : -9223372036854775808 ≤ n) (h2 : n ≤ 9223372036854775807) :
    Calls Try.prog 74 #[.pointer (some ⟨q, 0, none⟩), .int .i64 n] w fun e w' => e = .returned (.tuple #[]) ∧ RPut w w' q R F L fp (List.replicate (padN L.length n) zero8) := by
  by_cases h : n < 1 ∨ (L.length : Int) % n = 0
  · rw [padN_none h]
    exact rpad_none q R F L fp n w hW h h1 h2
  · have hd : ((L.length : Int) % n == 0) = false := by simp; omega
    obtain ⟨a, b⟩ := padN_some (show 1 ≤ n by omega) hd
    exact rpad_some q R F L fp n _ w hW hR (by omega) h2 hd a

end Go.Proofs.Ytdbnjlmkbmfhkaa
