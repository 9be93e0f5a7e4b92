/- Part 6 of the proof: DcK. -/
import Derived.Test.YthoocoaalbeopaaDoorCDc4

namespace Go.Proofs.YthoocoaalbeopaaDoor
open Go Go.RowKit
set_option linter.unusedVariables false
set_option linter.unusedSimpArgs false

def spellD : List ByteArray := [⟨#[48]⟩, ⟨#[49]⟩, ⟨#[50]⟩, ⟨#[51]⟩, ⟨#[52]⟩, ⟨#[53]⟩, ⟨#[54]⟩, ⟨#[55]⟩, ⟨#[56]⟩, ⟨#[57]⟩, ⟨#[46]⟩, ⟨#[69]⟩, ⟨#[69, 45]⟩, ⟨#[63]⟩, ⟨#[45]⟩]
def spD (h : Nat) : ByteArray := spellD.getD h ⟨#[]⟩
/-- The table as it lies. -/
structure GD (w : World) : Prop where
  at' : ∀ i : Nat, i < 15 → w.cell? ⟨0, i, none⟩ = some (.string (spD i))
  lt : 0 < w.heap.size
theorem GD.below {w w1 : World} (h : GD w) (b : Below w.heap.size w w1) : GD w1 :=
  ⟨fun i hi => (b.cell (p := ⟨0, i, none⟩) h.lt).trans (h.at' i hi), Nat.lt_of_lt_of_le h.lt b.size⟩
theorem GD.only {w w1 : World} {p : Nat} (h : GD w) (o : Only w w1 [p]) (hp : p ≠ 0) : GD w1 :=
  ⟨fun i hi => by
    have hb := o.block 0 h.lt (by simp; omega)
    have e : w1.cell? ⟨0, i, none⟩ = w.cell? ⟨0, i, none⟩ := by unfold World.cell?; rw [hb]
    rw [e]; exact h.at' i hi, Nat.lt_of_lt_of_le h.lt o.size⟩
set_option maxRecDepth 100000 in
theorem take_0 (p : Nat) (s : ByteArray) (r : Bool) (w : World) (hG : GD w) (hp : Blk w p 91 #[.string s, .bool false]) (hs : s.size ≤ 1000) (hr : decide (s.size + (spD 0).size ≤ 21) = r) :
    Calls Tryd.prog 61 #[.pointer (some ⟨p, 0, none⟩), .int .i64 0] w fun e w' => e = .returned (.bool r) ∧ Blk w' p 91 #[.string (s ++ spD 0), .bool false] ∧ Only w w' [p] := by
  have g0 := hG.at' 0 (by decide)
  have y0 := hp.cell 0
  have y2 := hp.lt
  simp only [List.getElem?_toArray, List.getElem?_cons_zero] at y0
  have HK := Lib.hid ((hp.set 0 (.string (s ++ spD 0))).below ((Below.refl _ _).drew))
  have HO := Lib.hid (((Only.refl w [p]).set (p := ⟨p, 0, none⟩) (.inl (by simp)) (.string (s ++ spD 0))).drew)
  have HR := Lib.hid hr
  clear hr
  have ht : (spD 0).size ≤ 2 := by decide
  generalize spD 0 = t at *
  have HZ := Lib.hid (show s.size + t.size ≤ 9223372036854775807 by omega)
  have pa : ∀ w, (binOp .add 9 (.string s) (.string t)).run Tryd.prog w = .ok (.string (s ++ t)) w := fun w => by go_simp; omega
  go_enter Tryd.func61, Tryd.ntmps61
  go_wp2
  have hI : Below w.heap.size w w.drew := (Below.refl _ _).drew
  refine wp_region_chain_last (fun V => Below w.heap.size w V) [(0, false), (1, false), (2, false), (3, false), (4, false), (5, false), (6, false), (7, false), (8, false), (9, false)] _ _ (by rfl) (by rfl) (by kernel_rfl) (by kernel_rfl) hI ?_
  repeat (first
    | (refine ChainL.skip (o := ?_) ?_ ?_ ?_; rotate_left; (focus (first | (simp only [List.getElem?_toArray, List.getElem?_cons_succ, List.getElem?_cons_zero]; with_reducible rfl) | (simp only [List.getElem?_toArray, List.getElem?_cons_zero]; with_reducible rfl))); (focus rfl); simp only [Act.put, List.setIfInBounds_toArray, List.set_cons_zero, List.set_cons_succ])
    | (refine ChainL.val (o := ?_) (v := ?_) ?_ ?_ ?_ ?_ ?_; rotate_left 2; (focus (first | (simp only [List.getElem?_toArray, List.getElem?_cons_succ, List.getElem?_cons_zero]; with_reducible rfl) | (simp only [List.getElem?_toArray, List.getElem?_cons_zero]; with_reducible rfl))); (focus (intro _ _ h; cases h)); (focus rfl); (focus (intro w' hJ; have z0 := (hJ.cell (p := ⟨p, 0, none⟩) y2).trans y0; have z1 := (hJ.cell (p := ⟨0, 0, none⟩) hG.lt).trans g0; have z2 := Nat.lt_of_lt_of_le y2 hJ.size; have z3 := Nat.lt_of_lt_of_le hG.lt hJ.size; have z9 := HZ.out; go_simp <;> with_reducible rfl)); simp only [Act.put, List.setIfInBounds_toArray, List.set_cons_zero, List.set_cons_succ]))
  refine ChainL.val (o := ?_) (v := .string (s ++ t)) ?_ ?_ ?_ ?_ ?_
  rotate_left 1
  (focus (first | (simp only [List.getElem?_toArray, List.getElem?_cons_succ, List.getElem?_cons_zero]; with_reducible rfl) | (simp only [List.getElem?_toArray, List.getElem?_cons_zero]; with_reducible rfl)))
  (focus (intro _ _ h; cases h))
  (focus rfl)
  (focus (intro w' hJ; have z9 := HZ.out; go_simp))
  simp only [Act.put, List.setIfInBounds_toArray, List.set_cons_zero, List.set_cons_succ]
  repeat (first
    | (refine ChainL.skip (o := ?_) ?_ ?_ ?_; rotate_left; (focus (first | (simp only [List.getElem?_toArray, List.getElem?_cons_succ, List.getElem?_cons_zero]; with_reducible rfl) | (simp only [List.getElem?_toArray, List.getElem?_cons_zero]; with_reducible rfl))); (focus rfl); simp only [Act.put, List.setIfInBounds_toArray, List.set_cons_zero, List.set_cons_succ])
    | (refine ChainL.val (o := ?_) (v := ?_) ?_ ?_ ?_ ?_ ?_; rotate_left 2; (focus (first | (simp only [List.getElem?_toArray, List.getElem?_cons_succ, List.getElem?_cons_zero]; with_reducible rfl) | (simp only [List.getElem?_toArray, List.getElem?_cons_zero]; with_reducible rfl))); (focus (intro _ _ h; cases h)); (focus rfl); (focus (intro w' hJ; skip; go_simp <;> with_reducible rfl)); simp only [Act.put, List.setIfInBounds_toArray, List.set_cons_zero, List.set_cons_succ]))
  refine ChainL.nil ?_
  have z0 := (hI.cell (p := ⟨p, 0, none⟩) y2).trans y0
  have z2 := Nat.lt_of_lt_of_le y2 hI.size
  have z4 := (hp.below hI).frozen 0
  go_wp2
  refine bodyPost_ret (v := .bool (decide ((s.size : Int) + (t.size : Int) ≤ 21))) (by simp [results, Tryd.results61, go_sem]) rfl ⟨?_, HK.out, HO.out⟩
  rw [← HR.out]
  exact congrArg (fun b => Ending.returned (.bool b)) (decide_eq_decide.2 (by omega))
set_option maxRecDepth 100000 in
theorem take_1 (p : Nat) (s : ByteArray) (r : Bool) (w : World) (hG : GD w) (hp : Blk w p 91 #[.string s, .bool false]) (hs : s.size ≤ 1000) (hr : decide (s.size + (spD 1).size ≤ 21) = r) :
    Calls Tryd.prog 61 #[.pointer (some ⟨p, 0, none⟩), .int .i64 1] w fun e w' => e = .returned (.bool r) ∧ Blk w' p 91 #[.string (s ++ spD 1), .bool false] ∧ Only w w' [p] := by
  have g0 := hG.at' 1 (by decide)
  have y0 := hp.cell 0
  have y2 := hp.lt
  simp only [List.getElem?_toArray, List.getElem?_cons_zero] at y0
  have HK := Lib.hid ((hp.set 0 (.string (s ++ spD 1))).below ((Below.refl _ _).drew))
  have HO := Lib.hid (((Only.refl w [p]).set (p := ⟨p, 0, none⟩) (.inl (by simp)) (.string (s ++ spD 1))).drew)
  have HR := Lib.hid hr
  clear hr
  have ht : (spD 1).size ≤ 2 := by decide
  generalize spD 1 = t at *
  have HZ := Lib.hid (show s.size + t.size ≤ 9223372036854775807 by omega)
  have pa : ∀ w, (binOp .add 9 (.string s) (.string t)).run Tryd.prog w = .ok (.string (s ++ t)) w := fun w => by go_simp; omega
  go_enter Tryd.func61, Tryd.ntmps61
  go_wp2
  have hI : Below w.heap.size w w.drew := (Below.refl _ _).drew
  refine wp_region_chain_last (fun V => Below w.heap.size w V) [(0, false), (1, false), (2, false), (3, false), (4, false), (5, false), (6, false), (7, false), (8, false), (9, false)] _ _ (by rfl) (by rfl) (by kernel_rfl) (by kernel_rfl) hI ?_
  repeat (first
    | (refine ChainL.skip (o := ?_) ?_ ?_ ?_; rotate_left; (focus (first | (simp only [List.getElem?_toArray, List.getElem?_cons_succ, List.getElem?_cons_zero]; with_reducible rfl) | (simp only [List.getElem?_toArray, List.getElem?_cons_zero]; with_reducible rfl))); (focus rfl); simp only [Act.put, List.setIfInBounds_toArray, List.set_cons_zero, List.set_cons_succ])
    | (refine ChainL.val (o := ?_) (v := ?_) ?_ ?_ ?_ ?_ ?_; rotate_left 2; (focus (first | (simp only [List.getElem?_toArray, List.getElem?_cons_succ, List.getElem?_cons_zero]; with_reducible rfl) | (simp only [List.getElem?_toArray, List.getElem?_cons_zero]; with_reducible rfl))); (focus (intro _ _ h; cases h)); (focus rfl); (focus (intro w' hJ; have z0 := (hJ.cell (p := ⟨p, 0, none⟩) y2).trans y0; have z1 := (hJ.cell (p := ⟨0, 1, none⟩) hG.lt).trans g0; have z2 := Nat.lt_of_lt_of_le y2 hJ.size; have z3 := Nat.lt_of_lt_of_le hG.lt hJ.size; have z9 := HZ.out; go_simp <;> with_reducible rfl)); simp only [Act.put, List.setIfInBounds_toArray, List.set_cons_zero, List.set_cons_succ]))
  refine ChainL.val (o := ?_) (v := .string (s ++ t)) ?_ ?_ ?_ ?_ ?_
  rotate_left 1
  (focus (first | (simp only [List.getElem?_toArray, List.getElem?_cons_succ, List.getElem?_cons_zero]; with_reducible rfl) | (simp only [List.getElem?_toArray, List.getElem?_cons_zero]; with_reducible rfl)))
  (focus (intro _ _ h; cases h))
  (focus rfl)
  (focus (intro w' hJ; have z9 := HZ.out; go_simp))
  simp only [Act.put, List.setIfInBounds_toArray, List.set_cons_zero, List.set_cons_succ]
  repeat (first
    | (refine ChainL.skip (o := ?_) ?_ ?_ ?_; rotate_left; (focus (first | (simp only [List.getElem?_toArray, List.getElem?_cons_succ, List.getElem?_cons_zero]; with_reducible rfl) | (simp only [List.getElem?_toArray, List.getElem?_cons_zero]; with_reducible rfl))); (focus rfl); simp only [Act.put, List.setIfInBounds_toArray, List.set_cons_zero, List.set_cons_succ])
    | (refine ChainL.val (o := ?_) (v := ?_) ?_ ?_ ?_ ?_ ?_; rotate_left 2; (focus (first | (simp only [List.getElem?_toArray, List.getElem?_cons_succ, List.getElem?_cons_zero]; with_reducible rfl) | (simp only [List.getElem?_toArray, List.getElem?_cons_zero]; with_reducible rfl))); (focus (intro _ _ h; cases h)); (focus rfl); (focus (intro w' hJ; skip; go_simp <;> with_reducible rfl)); simp only [Act.put, List.setIfInBounds_toArray, List.set_cons_zero, List.set_cons_succ]))
  refine ChainL.nil ?_
  have z0 := (hI.cell (p := ⟨p, 0, none⟩) y2).trans y0
  have z2 := Nat.lt_of_lt_of_le y2 hI.size
  have z4 := (hp.below hI).frozen 0
  go_wp2
  refine bodyPost_ret (v := .bool (decide ((s.size : Int) + (t.size : Int) ≤ 21))) (by simp [results, Tryd.results61, go_sem]) rfl ⟨?_, HK.out, HO.out⟩
  rw [← HR.out]
  exact congrArg (fun b => Ending.returned (.bool b)) (decide_eq_decide.2 (by omega))
set_option maxRecDepth 100000 in
theorem take_2 (p : Nat) (s : ByteArray) (r : Bool) (w : World) (hG : GD w) (hp : Blk w p 91 #[.string s, .bool false]) (hs : s.size ≤ 1000) (hr : decide (s.size + (spD 2).size ≤ 21) = r) :
    Calls Tryd.prog 61 #[.pointer (some ⟨p, 0, none⟩), .int .i64 2] w fun e w' => e = .returned (.bool r) ∧ Blk w' p 91 #[.string (s ++ spD 2), .bool false] ∧ Only w w' [p] := by
  have g0 := hG.at' 2 (by decide)
  have y0 := hp.cell 0
  have y2 := hp.lt
  simp only [List.getElem?_toArray, List.getElem?_cons_zero] at y0
  have HK := Lib.hid ((hp.set 0 (.string (s ++ spD 2))).below ((Below.refl _ _).drew))
  have HO := Lib.hid (((Only.refl w [p]).set (p := ⟨p, 0, none⟩) (.inl (by simp)) (.string (s ++ spD 2))).drew)
  have HR := Lib.hid hr
  clear hr
  have ht : (spD 2).size ≤ 2 := by decide
  generalize spD 2 = t at *
  have HZ := Lib.hid (show s.size + t.size ≤ 9223372036854775807 by omega)
  have pa : ∀ w, (binOp .add 9 (.string s) (.string t)).run Tryd.prog w = .ok (.string (s ++ t)) w := fun w => by go_simp; omega
  go_enter Tryd.func61, Tryd.ntmps61
  go_wp2
  have hI : Below w.heap.size w w.drew := (Below.refl _ _).drew
  refine wp_region_chain_last (fun V => Below w.heap.size w V) [(0, false), (1, false), (2, false), (3, false), (4, false), (5, false), (6, false), (7, false), (8, false), (9, false)] _ _ (by rfl) (by rfl) (by kernel_rfl) (by kernel_rfl) hI ?_
  repeat (first
    | (refine ChainL.skip (o := ?_) ?_ ?_ ?_; rotate_left; (focus (first | (simp only [List.getElem?_toArray, List.getElem?_cons_succ, List.getElem?_cons_zero]; with_reducible rfl) | (simp only [List.getElem?_toArray, List.getElem?_cons_zero]; with_reducible rfl))); (focus rfl); simp only [Act.put, List.setIfInBounds_toArray, List.set_cons_zero, List.set_cons_succ])
    | (refine ChainL.val (o := ?_) (v := ?_) ?_ ?_ ?_ ?_ ?_; rotate_left 2; (focus (first | (simp only [List.getElem?_toArray, List.getElem?_cons_succ, List.getElem?_cons_zero]; with_reducible rfl) | (simp only [List.getElem?_toArray, List.getElem?_cons_zero]; with_reducible rfl))); (focus (intro _ _ h; cases h)); (focus rfl); (focus (intro w' hJ; have z0 := (hJ.cell (p := ⟨p, 0, none⟩) y2).trans y0; have z1 := (hJ.cell (p := ⟨0, 2, none⟩) hG.lt).trans g0; have z2 := Nat.lt_of_lt_of_le y2 hJ.size; have z3 := Nat.lt_of_lt_of_le hG.lt hJ.size; have z9 := HZ.out; go_simp <;> with_reducible rfl)); simp only [Act.put, List.setIfInBounds_toArray, List.set_cons_zero, List.set_cons_succ]))
  refine ChainL.val (o := ?_) (v := .string (s ++ t)) ?_ ?_ ?_ ?_ ?_
  rotate_left 1
  (focus (first | (simp only [List.getElem?_toArray, List.getElem?_cons_succ, List.getElem?_cons_zero]; with_reducible rfl) | (simp only [List.getElem?_toArray, List.getElem?_cons_zero]; with_reducible rfl)))
  (focus (intro _ _ h; cases h))
  (focus rfl)
  (focus (intro w' hJ; have z9 := HZ.out; go_simp))
  simp only [Act.put, List.setIfInBounds_toArray, List.set_cons_zero, List.set_cons_succ]
  repeat (first
    | (refine ChainL.skip (o := ?_) ?_ ?_ ?_; rotate_left; (focus (first | (simp only [List.getElem?_toArray, List.getElem?_cons_succ, List.getElem?_cons_zero]; with_reducible rfl) | (simp only [List.getElem?_toArray, List.getElem?_cons_zero]; with_reducible rfl))); (focus rfl); simp only [Act.put, List.setIfInBounds_toArray, List.set_cons_zero, List.set_cons_succ])
    | (refine ChainL.val (o := ?_) (v := ?_) ?_ ?_ ?_ ?_ ?_; rotate_left 2; (focus (first | (simp only [List.getElem?_toArray, List.getElem?_cons_succ, List.getElem?_cons_zero]; with_reducible rfl) | (simp only [List.getElem?_toArray, List.getElem?_cons_zero]; with_reducible rfl))); (focus (intro _ _ h; cases h)); (focus rfl); (focus (intro w' hJ; skip; go_simp <;> with_reducible rfl)); simp only [Act.put, List.setIfInBounds_toArray, List.set_cons_zero, List.set_cons_succ]))
  refine ChainL.nil ?_
  have z0 := (hI.cell (p := ⟨p, 0, none⟩) y2).trans y0
  have z2 := Nat.lt_of_lt_of_le y2 hI.size
  have z4 := (hp.below hI).frozen 0
  go_wp2
  refine bodyPost_ret (v := .bool (decide ((s.size : Int) + (t.size : Int) ≤ 21))) (by simp [results, Tryd.results61, go_sem]) rfl ⟨?_, HK.out, HO.out⟩
  rw [← HR.out]
  exact congrArg (fun b => Ending.returned (.bool b)) (decide_eq_decide.2 (by omega))
set_option maxRecDepth 100000 in
theorem take_3 (p : Nat) (s : ByteArray) (r : Bool) (w : World) (hG : GD w) (hp : Blk w p 91 #[.string s, .bool false]) (hs : s.size ≤ 1000) (hr : decide (s.size + (spD 3).size ≤ 21) = r) :
    Calls Tryd.prog 61 #[.pointer (some ⟨p, 0, none⟩), .int .i64 3] w fun e w' => e = .returned (.bool r) ∧ Blk w' p 91 #[.string (s ++ spD 3), .bool false] ∧ Only w w' [p] := by
  have g0 := hG.at' 3 (by decide)
  have y0 := hp.cell 0
  have y2 := hp.lt
  simp only [List.getElem?_toArray, List.getElem?_cons_zero] at y0
  have HK := Lib.hid ((hp.set 0 (.string (s ++ spD 3))).below ((Below.refl _ _).drew))
  have HO := Lib.hid (((Only.refl w [p]).set (p := ⟨p, 0, none⟩) (.inl (by simp)) (.string (s ++ spD 3))).drew)
  have HR := Lib.hid hr
  clear hr
  have ht : (spD 3).size ≤ 2 := by decide
  generalize spD 3 = t at *
  have HZ := Lib.hid (show s.size + t.size ≤ 9223372036854775807 by omega)
  have pa : ∀ w, (binOp .add 9 (.string s) (.string t)).run Tryd.prog w = .ok (.string (s ++ t)) w := fun w => by go_simp; omega
  go_enter Tryd.func61, Tryd.ntmps61
  go_wp2
  have hI : Below w.heap.size w w.drew := (Below.refl _ _).drew
  refine wp_region_chain_last (fun V => Below w.heap.size w V) [(0, false), (1, false), (2, false), (3, false), (4, false), (5, false), (6, false), (7, false), (8, false), (9, false)] _ _ (by rfl) (by rfl) (by kernel_rfl) (by kernel_rfl) hI ?_
  repeat (first
    | (refine ChainL.skip (o := ?_) ?_ ?_ ?_; rotate_left; (focus (first | (simp only [List.getElem?_toArray, List.getElem?_cons_succ, List.getElem?_cons_zero]; with_reducible rfl) | (simp only [List.getElem?_toArray, List.getElem?_cons_zero]; with_reducible rfl))); (focus rfl); simp only [Act.put, List.setIfInBounds_toArray, List.set_cons_zero, List.set_cons_succ])
    | (refine ChainL.val (o := ?_) (v := ?_) ?_ ?_ ?_ ?_ ?_; rotate_left 2; (focus (first | (simp only [List.getElem?_toArray, List.getElem?_cons_succ, List.getElem?_cons_zero]; with_reducible rfl) | (simp only [List.getElem?_toArray, List.getElem?_cons_zero]; with_reducible rfl))); (focus (intro _ _ h; cases h)); (focus rfl); (focus (intro w' hJ; have z0 := (hJ.cell (p := ⟨p, 0, none⟩) y2).trans y0; have z1 := (hJ.cell (p := ⟨0, 3, none⟩) hG.lt).trans g0; have z2 := Nat.lt_of_lt_of_le y2 hJ.size; have z3 := Nat.lt_of_lt_of_le hG.lt hJ.size; have z9 := HZ.out; go_simp <;> with_reducible rfl)); simp only [Act.put, List.setIfInBounds_toArray, List.set_cons_zero, List.set_cons_succ]))
  refine ChainL.val (o := ?_) (v := .string (s ++ t)) ?_ ?_ ?_ ?_ ?_
  rotate_left 1
  (focus (first | (simp only [List.getElem?_toArray, List.getElem?_cons_succ, List.getElem?_cons_zero]; with_reducible rfl) | (simp only [List.getElem?_toArray, List.getElem?_cons_zero]; with_reducible rfl)))
  (focus (intro _ _ h; cases h))
  (focus rfl)
  (focus (intro w' hJ; have z9 := HZ.out; go_simp))
  simp only [Act.put, List.setIfInBounds_toArray, List.set_cons_zero, List.set_cons_succ]
  repeat (first
    | (refine ChainL.skip (o := ?_) ?_ ?_ ?_; rotate_left; (focus (first | (simp only [List.getElem?_toArray, List.getElem?_cons_succ, List.getElem?_cons_zero]; with_reducible rfl) | (simp only [List.getElem?_toArray, List.getElem?_cons_zero]; with_reducible rfl))); (focus rfl); simp only [Act.put, List.setIfInBounds_toArray, List.set_cons_zero, List.set_cons_succ])
    | (refine ChainL.val (o := ?_) (v := ?_) ?_ ?_ ?_ ?_ ?_; rotate_left 2; (focus (first | (simp only [List.getElem?_toArray, List.getElem?_cons_succ, List.getElem?_cons_zero]; with_reducible rfl) | (simp only [List.getElem?_toArray, List.getElem?_cons_zero]; with_reducible rfl))); (focus (intro _ _ h; cases h)); (focus rfl); (focus (intro w' hJ; skip; go_simp <;> with_reducible rfl)); simp only [Act.put, List.setIfInBounds_toArray, List.set_cons_zero, List.set_cons_succ]))
  refine ChainL.nil ?_
  have z0 := (hI.cell (p := ⟨p, 0, none⟩) y2).trans y0
  have z2 := Nat.lt_of_lt_of_le y2 hI.size
  have z4 := (hp.below hI).frozen 0
  go_wp2
  refine bodyPost_ret (v := .bool (decide ((s.size : Int) + (t.size : Int) ≤ 21))) (by simp [results, Tryd.results61, go_sem]) rfl ⟨?_, HK.out, HO.out⟩
  rw [← HR.out]
  exact congrArg (fun b => Ending.returned (.bool b)) (decide_eq_decide.2 (by omega))
set_option maxRecDepth 100000 in
theorem take_4 (p : Nat) (s : ByteArray) (r : Bool) (w : World) (hG : GD w) (hp : Blk w p 91 #[.string s, .bool false]) (hs : s.size ≤ 1000) (hr : decide (s.size + (spD 4).size ≤ 21) = r) :
    Calls Tryd.prog 61 #[.pointer (some ⟨p, 0, none⟩), .int .i64 4] w fun e w' => e = .returned (.bool r) ∧ Blk w' p 91 #[.string (s ++ spD 4), .bool false] ∧ Only w w' [p] := by
  have g0 := hG.at' 4 (by decide)
  have y0 := hp.cell 0
  have y2 := hp.lt
  simp only [List.getElem?_toArray, List.getElem?_cons_zero] at y0
  have HK := Lib.hid ((hp.set 0 (.string (s ++ spD 4))).below ((Below.refl _ _).drew))
  have HO := Lib.hid (((Only.refl w [p]).set (p := ⟨p, 0, none⟩) (.inl (by simp)) (.string (s ++ spD 4))).drew)
  have HR := Lib.hid hr
  clear hr
  have ht : (spD 4).size ≤ 2 := by decide
  generalize spD 4 = t at *
  have HZ := Lib.hid (show s.size + t.size ≤ 9223372036854775807 by omega)
  have pa : ∀ w, (binOp .add 9 (.string s) (.string t)).run Tryd.prog w = .ok (.string (s ++ t)) w := fun w => by go_simp; omega
  go_enter Tryd.func61, Tryd.ntmps61
  go_wp2
  have hI : Below w.heap.size w w.drew := (Below.refl _ _).drew
  refine wp_region_chain_last (fun V => Below w.heap.size w V) [(0, false), (1, false), (2, false), (3, false), (4, false), (5, false), (6, false), (7, false), (8, false), (9, false)] _ _ (by rfl) (by rfl) (by kernel_rfl) (by kernel_rfl) hI ?_
  repeat (first
    | (refine ChainL.skip (o := ?_) ?_ ?_ ?_; rotate_left; (focus (first | (simp only [List.getElem?_toArray, List.getElem?_cons_succ, List.getElem?_cons_zero]; with_reducible rfl) | (simp only [List.getElem?_toArray, List.getElem?_cons_zero]; with_reducible rfl))); (focus rfl); simp only [Act.put, List.setIfInBounds_toArray, List.set_cons_zero, List.set_cons_succ])
    | (refine ChainL.val (o := ?_) (v := ?_) ?_ ?_ ?_ ?_ ?_; rotate_left 2; (focus (first | (simp only [List.getElem?_toArray, List.getElem?_cons_succ, List.getElem?_cons_zero]; with_reducible rfl) | (simp only [List.getElem?_toArray, List.getElem?_cons_zero]; with_reducible rfl))); (focus (intro _ _ h; cases h)); (focus rfl); (focus (intro w' hJ; have z0 := (hJ.cell (p := ⟨p, 0, none⟩) y2).trans y0; have z1 := (hJ.cell (p := ⟨0, 4, none⟩) hG.lt).trans g0; have z2 := Nat.lt_of_lt_of_le y2 hJ.size; have z3 := Nat.lt_of_lt_of_le hG.lt hJ.size; have z9 := HZ.out; go_simp <;> with_reducible rfl)); simp only [Act.put, List.setIfInBounds_toArray, List.set_cons_zero, List.set_cons_succ]))
  refine ChainL.val (o := ?_) (v := .string (s ++ t)) ?_ ?_ ?_ ?_ ?_
  rotate_left 1
  (focus (first | (simp only [List.getElem?_toArray, List.getElem?_cons_succ, List.getElem?_cons_zero]; with_reducible rfl) | (simp only [List.getElem?_toArray, List.getElem?_cons_zero]; with_reducible rfl)))
  (focus (intro _ _ h; cases h))
  (focus rfl)
  (focus (intro w' hJ; have z9 := HZ.out; go_simp))
  simp only [Act.put, List.setIfInBounds_toArray, List.set_cons_zero, List.set_cons_succ]
  repeat (first
    | (refine ChainL.skip (o := ?_) ?_ ?_ ?_; rotate_left; (focus (first | (simp only [List.getElem?_toArray, List.getElem?_cons_succ, List.getElem?_cons_zero]; with_reducible rfl) | (simp only [List.getElem?_toArray, List.getElem?_cons_zero]; with_reducible rfl))); (focus rfl); simp only [Act.put, List.setIfInBounds_toArray, List.set_cons_zero, List.set_cons_succ])
    | (refine ChainL.val (o := ?_) (v := ?_) ?_ ?_ ?_ ?_ ?_; rotate_left 2; (focus (first | (simp only [List.getElem?_toArray, List.getElem?_cons_succ, List.getElem?_cons_zero]; with_reducible rfl) | (simp only [List.getElem?_toArray, List.getElem?_cons_zero]; with_reducible rfl))); (focus (intro _ _ h; cases h)); (focus rfl); (focus (intro w' hJ; skip; go_simp <;> with_reducible rfl)); simp only [Act.put, List.setIfInBounds_toArray, List.set_cons_zero, List.set_cons_succ]))
  refine ChainL.nil ?_
  have z0 := (hI.cell (p := ⟨p, 0, none⟩) y2).trans y0
  have z2 := Nat.lt_of_lt_of_le y2 hI.size
  have z4 := (hp.below hI).frozen 0
  go_wp2
  refine bodyPost_ret (v := .bool (decide ((s.size : Int) + (t.size : Int) ≤ 21))) (by simp [results, Tryd.results61, go_sem]) rfl ⟨?_, HK.out, HO.out⟩
  rw [← HR.out]
  exact congrArg (fun b => Ending.returned (.bool b)) (decide_eq_decide.2 (by omega))
set_option maxRecDepth 100000 in
theorem take_5 (p : Nat) (s : ByteArray) (r : Bool) (w : World) (hG : GD w) (hp : Blk w p 91 #[.string s, .bool false]) (hs : s.size ≤ 1000) (hr : decide (s.size + (spD 5).size ≤ 21) = r) :
    Calls Tryd.prog 61 #[.pointer (some ⟨p, 0, none⟩), .int .i64 5] w fun e w' => e = .returned (.bool r) ∧ Blk w' p 91 #[.string (s ++ spD 5), .bool false] ∧ Only w w' [p] := by
  have g0 := hG.at' 5 (by decide)
  have y0 := hp.cell 0
  have y2 := hp.lt
  simp only [List.getElem?_toArray, List.getElem?_cons_zero] at y0
  have HK := Lib.hid ((hp.set 0 (.string (s ++ spD 5))).below ((Below.refl _ _).drew))
  have HO := Lib.hid (((Only.refl w [p]).set (p := ⟨p, 0, none⟩) (.inl (by simp)) (.string (s ++ spD 5))).drew)
  have HR := Lib.hid hr
  clear hr
  have ht : (spD 5).size ≤ 2 := by decide
  generalize spD 5 = t at *
  have HZ := Lib.hid (show s.size + t.size ≤ 9223372036854775807 by omega)
  have pa : ∀ w, (binOp .add 9 (.string s) (.string t)).run Tryd.prog w = .ok (.string (s ++ t)) w := fun w => by go_simp; omega
  go_enter Tryd.func61, Tryd.ntmps61
  go_wp2
  have hI : Below w.heap.size w w.drew := (Below.refl _ _).drew
  refine wp_region_chain_last (fun V => Below w.heap.size w V) [(0, false), (1, false), (2, false), (3, false), (4, false), (5, false), (6, false), (7, false), (8, false), (9, false)] _ _ (by rfl) (by rfl) (by kernel_rfl) (by kernel_rfl) hI ?_
  repeat (first
    | (refine ChainL.skip (o := ?_) ?_ ?_ ?_; rotate_left; (focus (first | (simp only [List.getElem?_toArray, List.getElem?_cons_succ, List.getElem?_cons_zero]; with_reducible rfl) | (simp only [List.getElem?_toArray, List.getElem?_cons_zero]; with_reducible rfl))); (focus rfl); simp only [Act.put, List.setIfInBounds_toArray, List.set_cons_zero, List.set_cons_succ])
    | (refine ChainL.val (o := ?_) (v := ?_) ?_ ?_ ?_ ?_ ?_; rotate_left 2; (focus (first | (simp only [List.getElem?_toArray, List.getElem?_cons_succ, List.getElem?_cons_zero]; with_reducible rfl) | (simp only [List.getElem?_toArray, List.getElem?_cons_zero]; with_reducible rfl))); (focus (intro _ _ h; cases h)); (focus rfl); (focus (intro w' hJ; have z0 := (hJ.cell (p := ⟨p, 0, none⟩) y2).trans y0; have z1 := (hJ.cell (p := ⟨0, 5, none⟩) hG.lt).trans g0; have z2 := Nat.lt_of_lt_of_le y2 hJ.size; have z3 := Nat.lt_of_lt_of_le hG.lt hJ.size; have z9 := HZ.out; go_simp <;> with_reducible rfl)); simp only [Act.put, List.setIfInBounds_toArray, List.set_cons_zero, List.set_cons_succ]))
  refine ChainL.val (o := ?_) (v := .string (s ++ t)) ?_ ?_ ?_ ?_ ?_
  rotate_left 1
  (focus (first | (simp only [List.getElem?_toArray, List.getElem?_cons_succ, List.getElem?_cons_zero]; with_reducible rfl) | (simp only [List.getElem?_toArray, List.getElem?_cons_zero]; with_reducible rfl)))
  (focus (intro _ _ h; cases h))
  (focus rfl)
  (focus (intro w' hJ; have z9 := HZ.out; go_simp))
  simp only [Act.put, List.setIfInBounds_toArray, List.set_cons_zero, List.set_cons_succ]
  repeat (first
    | (refine ChainL.skip (o := ?_) ?_ ?_ ?_; rotate_left; (focus (first | (simp only [List.getElem?_toArray, List.getElem?_cons_succ, List.getElem?_cons_zero]; with_reducible rfl) | (simp only [List.getElem?_toArray, List.getElem?_cons_zero]; with_reducible rfl))); (focus rfl); simp only [Act.put, List.setIfInBounds_toArray, List.set_cons_zero, List.set_cons_succ])
    | (refine ChainL.val (o := ?_) (v := ?_) ?_ ?_ ?_ ?_ ?_; rotate_left 2; (focus (first | (simp only [List.getElem?_toArray, List.getElem?_cons_succ, List.getElem?_cons_zero]; with_reducible rfl) | (simp only [List.getElem?_toArray, List.getElem?_cons_zero]; with_reducible rfl))); (focus (intro _ _ h; cases h)); (focus rfl); (focus (intro w' hJ; skip; go_simp <;> with_reducible rfl)); simp only [Act.put, List.setIfInBounds_toArray, List.set_cons_zero, List.set_cons_succ]))
  refine ChainL.nil ?_
  have z0 := (hI.cell (p := ⟨p, 0, none⟩) y2).trans y0
  have z2 := Nat.lt_of_lt_of_le y2 hI.size
  have z4 := (hp.below hI).frozen 0
  go_wp2
  refine bodyPost_ret (v := .bool (decide ((s.size : Int) + (t.size : Int) ≤ 21))) (by simp [results, Tryd.results61, go_sem]) rfl ⟨?_, HK.out, HO.out⟩
  rw [← HR.out]
  exact congrArg (fun b => Ending.returned (.bool b)) (decide_eq_decide.2 (by omega))
set_option maxRecDepth 100000 in
theorem take_6 (p : Nat) (s : ByteArray) (r : Bool) (w : World) (hG : GD w) (hp : Blk w p 91 #[.string s, .bool false]) (hs : s.size ≤ 1000) (hr : decide (s.size + (spD 6).size ≤ 21) = r) :
    Calls Tryd.prog 61 #[.pointer (some ⟨p, 0, none⟩), .int .i64 6] w fun e w' => e = .returned (.bool r) ∧ Blk w' p 91 #[.string (s ++ spD 6), .bool false] ∧ Only w w' [p] := by
  have g0 := hG.at' 6 (by decide)
  have y0 := hp.cell 0
  have y2 := hp.lt
  simp only [List.getElem?_toArray, List.getElem?_cons_zero] at y0
  have HK := Lib.hid ((hp.set 0 (.string (s ++ spD 6))).below ((Below.refl _ _).drew))
  have HO := Lib.hid (((Only.refl w [p]).set (p := ⟨p, 0, none⟩) (.inl (by simp)) (.string (s ++ spD 6))).drew)
  have HR := Lib.hid hr
  clear hr
  have ht : (spD 6).size ≤ 2 := by decide
  generalize spD 6 = t at *
  have HZ := Lib.hid (show s.size + t.size ≤ 9223372036854775807 by omega)
  have pa : ∀ w, (binOp .add 9 (.string s) (.string t)).run Tryd.prog w = .ok (.string (s ++ t)) w := fun w => by go_simp; omega
  go_enter Tryd.func61, Tryd.ntmps61
  go_wp2
  have hI : Below w.heap.size w w.drew := (Below.refl _ _).drew
  refine wp_region_chain_last (fun V => Below w.heap.size w V) [(0, false), (1, false), (2, false), (3, false), (4, false), (5, false), (6, false), (7, false), (8, false), (9, false)] _ _ (by rfl) (by rfl) (by kernel_rfl) (by kernel_rfl) hI ?_
  repeat (first
    | (refine ChainL.skip (o := ?_) ?_ ?_ ?_; rotate_left; (focus (first | (simp only [List.getElem?_toArray, List.getElem?_cons_succ, List.getElem?_cons_zero]; with_reducible rfl) | (simp only [List.getElem?_toArray, List.getElem?_cons_zero]; with_reducible rfl))); (focus rfl); simp only [Act.put, List.setIfInBounds_toArray, List.set_cons_zero, List.set_cons_succ])
    | (refine ChainL.val (o := ?_) (v := ?_) ?_ ?_ ?_ ?_ ?_; rotate_left 2; (focus (first | (simp only [List.getElem?_toArray, List.getElem?_cons_succ, List.getElem?_cons_zero]; with_reducible rfl) | (simp only [List.getElem?_toArray, List.getElem?_cons_zero]; with_reducible rfl))); (focus (intro _ _ h; cases h)); (focus rfl); (focus (intro w' hJ; have z0 := (hJ.cell (p := ⟨p, 0, none⟩) y2).trans y0; have z1 := (hJ.cell (p := ⟨0, 6, none⟩) hG.lt).trans g0; have z2 := Nat.lt_of_lt_of_le y2 hJ.size; have z3 := Nat.lt_of_lt_of_le hG.lt hJ.size; have z9 := HZ.out; go_simp <;> with_reducible rfl)); simp only [Act.put, List.setIfInBounds_toArray, List.set_cons_zero, List.set_cons_succ]))
  refine ChainL.val (o := ?_) (v := .string (s ++ t)) ?_ ?_ ?_ ?_ ?_
  rotate_left 1
  (focus (first | (simp only [List.getElem?_toArray, List.getElem?_cons_succ, List.getElem?_cons_zero]; with_reducible rfl) | (simp only [List.getElem?_toArray, List.getElem?_cons_zero]; with_reducible rfl)))
  (focus (intro _ _ h; cases h))
  (focus rfl)
  (focus (intro w' hJ; have z9 := HZ.out; go_simp))
  simp only [Act.put, List.setIfInBounds_toArray, List.set_cons_zero, List.set_cons_succ]
  repeat (first
    | (refine ChainL.skip (o := ?_) ?_ ?_ ?_; rotate_left; (focus (first | (simp only [List.getElem?_toArray, List.getElem?_cons_succ, List.getElem?_cons_zero]; with_reducible rfl) | (simp only [List.getElem?_toArray, List.getElem?_cons_zero]; with_reducible rfl))); (focus rfl); simp only [Act.put, List.setIfInBounds_toArray, List.set_cons_zero, List.set_cons_succ])
    | (refine ChainL.val (o := ?_) (v := ?_) ?_ ?_ ?_ ?_ ?_; rotate_left 2; (focus (first | (simp only [List.getElem?_toArray, List.getElem?_cons_succ, List.getElem?_cons_zero]; with_reducible rfl) | (simp only [List.getElem?_toArray, List.getElem?_cons_zero]; with_reducible rfl))); (focus (intro _ _ h; cases h)); (focus rfl); (focus (intro w' hJ; skip; go_simp <;> with_reducible rfl)); simp only [Act.put, List.setIfInBounds_toArray, List.set_cons_zero, List.set_cons_succ]))
  refine ChainL.nil ?_
  have z0 := (hI.cell (p := ⟨p, 0, none⟩) y2).trans y0
  have z2 := Nat.lt_of_lt_of_le y2 hI.size
  have z4 := (hp.below hI).frozen 0
  go_wp2
  refine bodyPost_ret (v := .bool (decide ((s.size : Int) + (t.size : Int) ≤ 21))) (by simp [results, Tryd.results61, go_sem]) rfl ⟨?_, HK.out, HO.out⟩
  rw [← HR.out]
  exact congrArg (fun b => Ending.returned (.bool b)) (decide_eq_decide.2 (by omega))
set_option maxRecDepth 100000 in
theorem take_7 (p : Nat) (s : ByteArray) (r : Bool) (w : World) (hG : GD w) (hp : Blk w p 91 #[.string s, .bool false]) (hs : s.size ≤ 1000) (hr : decide (s.size + (spD 7).size ≤ 21) = r) :
    Calls Tryd.prog 61 #[.pointer (some ⟨p, 0, none⟩), .int .i64 7] w fun e w' => e = .returned (.bool r) ∧ Blk w' p 91 #[.string (s ++ spD 7), .bool false] ∧ Only w w' [p] := by
  have g0 := hG.at' 7 (by decide)
  have y0 := hp.cell 0
  have y2 := hp.lt
  simp only [List.getElem?_toArray, List.getElem?_cons_zero] at y0
  have HK := Lib.hid ((hp.set 0 (.string (s ++ spD 7))).below ((Below.refl _ _).drew))
  have HO := Lib.hid (((Only.refl w [p]).set (p := ⟨p, 0, none⟩) (.inl (by simp)) (.string (s ++ spD 7))).drew)
  have HR := Lib.hid hr
  clear hr
  have ht : (spD 7).size ≤ 2 := by decide
  generalize spD 7 = t at *
  have HZ := Lib.hid (show s.size + t.size ≤ 9223372036854775807 by omega)
  have pa : ∀ w, (binOp .add 9 (.string s) (.string t)).run Tryd.prog w = .ok (.string (s ++ t)) w := fun w => by go_simp; omega
  go_enter Tryd.func61, Tryd.ntmps61
  go_wp2
  have hI : Below w.heap.size w w.drew := (Below.refl _ _).drew
  refine wp_region_chain_last (fun V => Below w.heap.size w V) [(0, false), (1, false), (2, false), (3, false), (4, false), (5, false), (6, false), (7, false), (8, false), (9, false)] _ _ (by rfl) (by rfl) (by kernel_rfl) (by kernel_rfl) hI ?_
  repeat (first
    | (refine ChainL.skip (o := ?_) ?_ ?_ ?_; rotate_left; (focus (first | (simp only [List.getElem?_toArray, List.getElem?_cons_succ, List.getElem?_cons_zero]; with_reducible rfl) | (simp only [List.getElem?_toArray, List.getElem?_cons_zero]; with_reducible rfl))); (focus rfl); simp only [Act.put, List.setIfInBounds_toArray, List.set_cons_zero, List.set_cons_succ])
    | (refine ChainL.val (o := ?_) (v := ?_) ?_ ?_ ?_ ?_ ?_; rotate_left 2; (focus (first | (simp only [List.getElem?_toArray, List.getElem?_cons_succ, List.getElem?_cons_zero]; with_reducible rfl) | (simp only [List.getElem?_toArray, List.getElem?_cons_zero]; with_reducible rfl))); (focus (intro _ _ h; cases h)); (focus rfl); (focus (intro w' hJ; have z0 := (hJ.cell (p := ⟨p, 0, none⟩) y2).trans y0; have z1 := (hJ.cell (p := ⟨0, 7, none⟩) hG.lt).trans g0; have z2 := Nat.lt_of_lt_of_le y2 hJ.size; have z3 := Nat.lt_of_lt_of_le hG.lt hJ.size; have z9 := HZ.out; go_simp <;> with_reducible rfl)); simp only [Act.put, List.setIfInBounds_toArray, List.set_cons_zero, List.set_cons_succ]))
  refine ChainL.val (o := ?_) (v := .string (s ++ t)) ?_ ?_ ?_ ?_ ?_
  rotate_left 1
  (focus (first | (simp only [List.getElem?_toArray, List.getElem?_cons_succ, List.getElem?_cons_zero]; with_reducible rfl) | (simp only [List.getElem?_toArray, List.getElem?_cons_zero]; with_reducible rfl)))
  (focus (intro _ _ h; cases h))
  (focus rfl)
  (focus (intro w' hJ; have z9 := HZ.out; go_simp))
  simp only [Act.put, List.setIfInBounds_toArray, List.set_cons_zero, List.set_cons_succ]
  repeat (first
    | (refine ChainL.skip (o := ?_) ?_ ?_ ?_; rotate_left; (focus (first | (simp only [List.getElem?_toArray, List.getElem?_cons_succ, List.getElem?_cons_zero]; with_reducible rfl) | (simp only [List.getElem?_toArray, List.getElem?_cons_zero]; with_reducible rfl))); (focus rfl); simp only [Act.put, List.setIfInBounds_toArray, List.set_cons_zero, List.set_cons_succ])
    | (refine ChainL.val (o := ?_) (v := ?_) ?_ ?_ ?_ ?_ ?_; rotate_left 2; (focus (first | (simp only [List.getElem?_toArray, List.getElem?_cons_succ, List.getElem?_cons_zero]; with_reducible rfl) | (simp only [List.getElem?_toArray, List.getElem?_cons_zero]; with_reducible rfl))); (focus (intro _ _ h; cases h)); (focus rfl); (focus (intro w' hJ; skip; go_simp <;> with_reducible rfl)); simp only [Act.put, List.setIfInBounds_toArray, List.set_cons_zero, List.set_cons_succ]))
  refine ChainL.nil ?_
  have z0 := (hI.cell (p := ⟨p, 0, none⟩) y2).trans y0
  have z2 := Nat.lt_of_lt_of_le y2 hI.size
  have z4 := (hp.below hI).frozen 0
  go_wp2
  refine bodyPost_ret (v := .bool (decide ((s.size : Int) + (t.size : Int) ≤ 21))) (by simp [results, Tryd.results61, go_sem]) rfl ⟨?_, HK.out, HO.out⟩
  rw [← HR.out]
  exact congrArg (fun b => Ending.returned (.bool b)) (decide_eq_decide.2 (by omega))
set_option maxRecDepth 100000 in
theorem take_8 (p : Nat) (s : ByteArray) (r : Bool) (w : World) (hG : GD w) (hp : Blk w p 91 #[.string s, .bool false]) (hs : s.size ≤ 1000) (hr : decide (s.size + (spD 8).size ≤ 21) = r) :
    Calls Tryd.prog 61 #[.pointer (some ⟨p, 0, none⟩), .int .i64 8] w fun e w' => e = .returned (.bool r) ∧ Blk w' p 91 #[.string (s ++ spD 8), .bool false] ∧ Only w w' [p] := by
  have g0 := hG.at' 8 (by decide)
  have y0 := hp.cell 0
  have y2 := hp.lt
  simp only [List.getElem?_toArray, List.getElem?_cons_zero] at y0
  have HK := Lib.hid ((hp.set 0 (.string (s ++ spD 8))).below ((Below.refl _ _).drew))
  have HO := Lib.hid (((Only.refl w [p]).set (p := ⟨p, 0, none⟩) (.inl (by simp)) (.string (s ++ spD 8))).drew)
  have HR := Lib.hid hr
  clear hr
  have ht : (spD 8).size ≤ 2 := by decide
  generalize spD 8 = t at *
  have HZ := Lib.hid (show s.size + t.size ≤ 9223372036854775807 by omega)
  have pa : ∀ w, (binOp .add 9 (.string s) (.string t)).run Tryd.prog w = .ok (.string (s ++ t)) w := fun w => by go_simp; omega
  go_enter Tryd.func61, Tryd.ntmps61
  go_wp2
  have hI : Below w.heap.size w w.drew := (Below.refl _ _).drew
  refine wp_region_chain_last (fun V => Below w.heap.size w V) [(0, false), (1, false), (2, false), (3, false), (4, false), (5, false), (6, false), (7, false), (8, false), (9, false)] _ _ (by rfl) (by rfl) (by kernel_rfl) (by kernel_rfl) hI ?_
  repeat (first
    | (refine ChainL.skip (o := ?_) ?_ ?_ ?_; rotate_left; (focus (first | (simp only [List.getElem?_toArray, List.getElem?_cons_succ, List.getElem?_cons_zero]; with_reducible rfl) | (simp only [List.getElem?_toArray, List.getElem?_cons_zero]; with_reducible rfl))); (focus rfl); simp only [Act.put, List.setIfInBounds_toArray, List.set_cons_zero, List.set_cons_succ])
    | (refine ChainL.val (o := ?_) (v := ?_) ?_ ?_ ?_ ?_ ?_; rotate_left 2; (focus (first | (simp only [List.getElem?_toArray, List.getElem?_cons_succ, List.getElem?_cons_zero]; with_reducible rfl) | (simp only [List.getElem?_toArray, List.getElem?_cons_zero]; with_reducible rfl))); (focus (intro _ _ h; cases h)); (focus rfl); (focus (intro w' hJ; have z0 := (hJ.cell (p := ⟨p, 0, none⟩) y2).trans y0; have z1 := (hJ.cell (p := ⟨0, 8, none⟩) hG.lt).trans g0; have z2 := Nat.lt_of_lt_of_le y2 hJ.size; have z3 := Nat.lt_of_lt_of_le hG.lt hJ.size; have z9 := HZ.out; go_simp <;> with_reducible rfl)); simp only [Act.put, List.setIfInBounds_toArray, List.set_cons_zero, List.set_cons_succ]))
  refine ChainL.val (o := ?_) (v := .string (s ++ t)) ?_ ?_ ?_ ?_ ?_
  rotate_left 1
  (focus (first | (simp only [List.getElem?_toArray, List.getElem?_cons_succ, List.getElem?_cons_zero]; with_reducible rfl) | (simp only [List.getElem?_toArray, List.getElem?_cons_zero]; with_reducible rfl)))
  (focus (intro _ _ h; cases h))
  (focus rfl)
  (focus (intro w' hJ; have z9 := HZ.out; go_simp))
  simp only [Act.put, List.setIfInBounds_toArray, List.set_cons_zero, List.set_cons_succ]
  repeat (first
    | (refine ChainL.skip (o := ?_) ?_ ?_ ?_; rotate_left; (focus (first | (simp only [List.getElem?_toArray, List.getElem?_cons_succ, List.getElem?_cons_zero]; with_reducible rfl) | (simp only [List.getElem?_toArray, List.getElem?_cons_zero]; with_reducible rfl))); (focus rfl); simp only [Act.put, List.setIfInBounds_toArray, List.set_cons_zero, List.set_cons_succ])
    | (refine ChainL.val (o := ?_) (v := ?_) ?_ ?_ ?_ ?_ ?_; rotate_left 2; (focus (first | (simp only [List.getElem?_toArray, List.getElem?_cons_succ, List.getElem?_cons_zero]; with_reducible rfl) | (simp only [List.getElem?_toArray, List.getElem?_cons_zero]; with_reducible rfl))); (focus (intro _ _ h; cases h)); (focus rfl); (focus (intro w' hJ; skip; go_simp <;> with_reducible rfl)); simp only [Act.put, List.setIfInBounds_toArray, List.set_cons_zero, List.set_cons_succ]))
  refine ChainL.nil ?_
  have z0 := (hI.cell (p := ⟨p, 0, none⟩) y2).trans y0
  have z2 := Nat.lt_of_lt_of_le y2 hI.size
  have z4 := (hp.below hI).frozen 0
  go_wp2
  refine bodyPost_ret (v := .bool (decide ((s.size : Int) + (t.size : Int) ≤ 21))) (by simp [results, Tryd.results61, go_sem]) rfl ⟨?_, HK.out, HO.out⟩
  rw [← HR.out]
  exact congrArg (fun b => Ending.returned (.bool b)) (decide_eq_decide.2 (by omega))
set_option maxRecDepth 100000 in
theorem take_9 (p : Nat) (s : ByteArray) (r : Bool) (w : World) (hG : GD w) (hp : Blk w p 91 #[.string s, .bool false]) (hs : s.size ≤ 1000) (hr : decide (s.size + (spD 9).size ≤ 21) = r) :
    Calls Tryd.prog 61 #[.pointer (some ⟨p, 0, none⟩), .int .i64 9] w fun e w' => e = .returned (.bool r) ∧ Blk w' p 91 #[.string (s ++ spD 9), .bool false] ∧ Only w w' [p] := by
  have g0 := hG.at' 9 (by decide)
  have y0 := hp.cell 0
  have y2 := hp.lt
  simp only [List.getElem?_toArray, List.getElem?_cons_zero] at y0
  have HK := Lib.hid ((hp.set 0 (.string (s ++ spD 9))).below ((Below.refl _ _).drew))
  have HO := Lib.hid (((Only.refl w [p]).set (p := ⟨p, 0, none⟩) (.inl (by simp)) (.string (s ++ spD 9))).drew)
  have HR := Lib.hid hr
  clear hr
  have ht : (spD 9).size ≤ 2 := by decide
  generalize spD 9 = t at *
  have HZ := Lib.hid (show s.size + t.size ≤ 9223372036854775807 by omega)
  have pa : ∀ w, (binOp .add 9 (.string s) (.string t)).run Tryd.prog w = .ok (.string (s ++ t)) w := fun w => by go_simp; omega
  go_enter Tryd.func61, Tryd.ntmps61
  go_wp2
  have hI : Below w.heap.size w w.drew := (Below.refl _ _).drew
  refine wp_region_chain_last (fun V => Below w.heap.size w V) [(0, false), (1, false), (2, false), (3, false), (4, false), (5, false), (6, false), (7, false), (8, false), (9, false)] _ _ (by rfl) (by rfl) (by kernel_rfl) (by kernel_rfl) hI ?_
  repeat (first
    | (refine ChainL.skip (o := ?_) ?_ ?_ ?_; rotate_left; (focus (first | (simp only [List.getElem?_toArray, List.getElem?_cons_succ, List.getElem?_cons_zero]; with_reducible rfl) | (simp only [List.getElem?_toArray, List.getElem?_cons_zero]; with_reducible rfl))); (focus rfl); simp only [Act.put, List.setIfInBounds_toArray, List.set_cons_zero, List.set_cons_succ])
    | (refine ChainL.val (o := ?_) (v := ?_) ?_ ?_ ?_ ?_ ?_; rotate_left 2; (focus (first | (simp only [List.getElem?_toArray, List.getElem?_cons_succ, List.getElem?_cons_zero]; with_reducible rfl) | (simp only [List.getElem?_toArray, List.getElem?_cons_zero]; with_reducible rfl))); (focus (intro _ _ h; cases h)); (focus rfl); (focus (intro w' hJ; have z0 := (hJ.cell (p := ⟨p, 0, none⟩) y2).trans y0; have z1 := (hJ.cell (p := ⟨0, 9, none⟩) hG.lt).trans g0; have z2 := Nat.lt_of_lt_of_le y2 hJ.size; have z3 := Nat.lt_of_lt_of_le hG.lt hJ.size; have z9 := HZ.out; go_simp <;> with_reducible rfl)); simp only [Act.put, List.setIfInBounds_toArray, List.set_cons_zero, List.set_cons_succ]))
  refine ChainL.val (o := ?_) (v := .string (s ++ t)) ?_ ?_ ?_ ?_ ?_
  rotate_left 1
  (focus (first | (simp only [List.getElem?_toArray, List.getElem?_cons_succ, List.getElem?_cons_zero]; with_reducible rfl) | (simp only [List.getElem?_toArray, List.getElem?_cons_zero]; with_reducible rfl)))
  (focus (intro _ _ h; cases h))
  (focus rfl)
  (focus (intro w' hJ; have z9 := HZ.out; go_simp))
  simp only [Act.put, List.setIfInBounds_toArray, List.set_cons_zero, List.set_cons_succ]
  repeat (first
    | (refine ChainL.skip (o := ?_) ?_ ?_ ?_; rotate_left; (focus (first | (simp only [List.getElem?_toArray, List.getElem?_cons_succ, List.getElem?_cons_zero]; with_reducible rfl) | (simp only [List.getElem?_toArray, List.getElem?_cons_zero]; with_reducible rfl))); (focus rfl); simp only [Act.put, List.setIfInBounds_toArray, List.set_cons_zero, List.set_cons_succ])
    | (refine ChainL.val (o := ?_) (v := ?_) ?_ ?_ ?_ ?_ ?_; rotate_left 2; (focus (first | (simp only [List.getElem?_toArray, List.getElem?_cons_succ, List.getElem?_cons_zero]; with_reducible rfl) | (simp only [List.getElem?_toArray, List.getElem?_cons_zero]; with_reducible rfl))); (focus (intro _ _ h; cases h)); (focus rfl); (focus (intro w' hJ; skip; go_simp <;> with_reducible rfl)); simp only [Act.put, List.setIfInBounds_toArray, List.set_cons_zero, List.set_cons_succ]))
  refine ChainL.nil ?_
  have z0 := (hI.cell (p := ⟨p, 0, none⟩) y2).trans y0
  have z2 := Nat.lt_of_lt_of_le y2 hI.size
  have z4 := (hp.below hI).frozen 0
  go_wp2
  refine bodyPost_ret (v := .bool (decide ((s.size : Int) + (t.size : Int) ≤ 21))) (by simp [results, Tryd.results61, go_sem]) rfl ⟨?_, HK.out, HO.out⟩
  rw [← HR.out]
  exact congrArg (fun b => Ending.returned (.bool b)) (decide_eq_decide.2 (by omega))
set_option maxRecDepth 100000 in
theorem take_10 (p : Nat) (s : ByteArray) (r : Bool) (w : World) (hG : GD w) (hp : Blk w p 91 #[.string s, .bool false]) (hs : s.size ≤ 1000) (hr : decide (s.size + (spD 10).size ≤ 21) = r) :
    Calls Tryd.prog 61 #[.pointer (some ⟨p, 0, none⟩), .int .i64 10] w fun e w' => e = .returned (.bool r) ∧ Blk w' p 91 #[.string (s ++ spD 10), .bool false] ∧ Only w w' [p] := by
  have g0 := hG.at' 10 (by decide)
  have y0 := hp.cell 0
  have y2 := hp.lt
  simp only [List.getElem?_toArray, List.getElem?_cons_zero] at y0
  have HK := Lib.hid ((hp.set 0 (.string (s ++ spD 10))).below ((Below.refl _ _).drew))
  have HO := Lib.hid (((Only.refl w [p]).set (p := ⟨p, 0, none⟩) (.inl (by simp)) (.string (s ++ spD 10))).drew)
  have HR := Lib.hid hr
  clear hr
  have ht : (spD 10).size ≤ 2 := by decide
  generalize spD 10 = t at *
  have HZ := Lib.hid (show s.size + t.size ≤ 9223372036854775807 by omega)
  have pa : ∀ w, (binOp .add 9 (.string s) (.string t)).run Tryd.prog w = .ok (.string (s ++ t)) w := fun w => by go_simp; omega
  go_enter Tryd.func61, Tryd.ntmps61
  go_wp2
  have hI : Below w.heap.size w w.drew := (Below.refl _ _).drew
  refine wp_region_chain_last (fun V => Below w.heap.size w V) [(0, false), (1, false), (2, false), (3, false), (4, false), (5, false), (6, false), (7, false), (8, false), (9, false)] _ _ (by rfl) (by rfl) (by kernel_rfl) (by kernel_rfl) hI ?_
  repeat (first
    | (refine ChainL.skip (o := ?_) ?_ ?_ ?_; rotate_left; (focus (first | (simp only [List.getElem?_toArray, List.getElem?_cons_succ, List.getElem?_cons_zero]; with_reducible rfl) | (simp only [List.getElem?_toArray, List.getElem?_cons_zero]; with_reducible rfl))); (focus rfl); simp only [Act.put, List.setIfInBounds_toArray, List.set_cons_zero, List.set_cons_succ])
    | (refine ChainL.val (o := ?_) (v := ?_) ?_ ?_ ?_ ?_ ?_; rotate_left 2; (focus (first | (simp only [List.getElem?_toArray, List.getElem?_cons_succ, List.getElem?_cons_zero]; with_reducible rfl) | (simp only [List.getElem?_toArray, List.getElem?_cons_zero]; with_reducible rfl))); (focus (intro _ _ h; cases h)); (focus rfl); (focus (intro w' hJ; have z0 := (hJ.cell (p := ⟨p, 0, none⟩) y2).trans y0; have z1 := (hJ.cell (p := ⟨0, 10, none⟩) hG.lt).trans g0; have z2 := Nat.lt_of_lt_of_le y2 hJ.size; have z3 := Nat.lt_of_lt_of_le hG.lt hJ.size; have z9 := HZ.out; go_simp <;> with_reducible rfl)); simp only [Act.put, List.setIfInBounds_toArray, List.set_cons_zero, List.set_cons_succ]))
  refine ChainL.val (o := ?_) (v := .string (s ++ t)) ?_ ?_ ?_ ?_ ?_
  rotate_left 1
  (focus (first | (simp only [List.getElem?_toArray, List.getElem?_cons_succ, List.getElem?_cons_zero]; with_reducible rfl) | (simp only [List.getElem?_toArray, List.getElem?_cons_zero]; with_reducible rfl)))
  (focus (intro _ _ h; cases h))
  (focus rfl)
  (focus (intro w' hJ; have z9 := HZ.out; go_simp))
  simp only [Act.put, List.setIfInBounds_toArray, List.set_cons_zero, List.set_cons_succ]
  repeat (first
    | (refine ChainL.skip (o := ?_) ?_ ?_ ?_; rotate_left; (focus (first | (simp only [List.getElem?_toArray, List.getElem?_cons_succ, List.getElem?_cons_zero]; with_reducible rfl) | (simp only [List.getElem?_toArray, List.getElem?_cons_zero]; with_reducible rfl))); (focus rfl); simp only [Act.put, List.setIfInBounds_toArray, List.set_cons_zero, List.set_cons_succ])
    | (refine ChainL.val (o := ?_) (v := ?_) ?_ ?_ ?_ ?_ ?_; rotate_left 2; (focus (first | (simp only [List.getElem?_toArray, List.getElem?_cons_succ, List.getElem?_cons_zero]; with_reducible rfl) | (simp only [List.getElem?_toArray, List.getElem?_cons_zero]; with_reducible rfl))); (focus (intro _ _ h; cases h)); (focus rfl); (focus (intro w' hJ; skip; go_simp <;> with_reducible rfl)); simp only [Act.put, List.setIfInBounds_toArray, List.set_cons_zero, List.set_cons_succ]))
  refine ChainL.nil ?_
  have z0 := (hI.cell (p := ⟨p, 0, none⟩) y2).trans y0
  have z2 := Nat.lt_of_lt_of_le y2 hI.size
  have z4 := (hp.below hI).frozen 0
  go_wp2
  refine bodyPost_ret (v := .bool (decide ((s.size : Int) + (t.size : Int) ≤ 21))) (by simp [results, Tryd.results61, go_sem]) rfl ⟨?_, HK.out, HO.out⟩
  rw [← HR.out]
  exact congrArg (fun b => Ending.returned (.bool b)) (decide_eq_decide.2 (by omega))
set_option maxRecDepth 100000 in
theorem take_11 (p : Nat) (s : ByteArray) (r : Bool) (w : World) (hG : GD w) (hp : Blk w p 91 #[.string s, .bool false]) (hs : s.size ≤ 1000) (hr : decide (s.size + (spD 11).size ≤ 21) = r) :
    Calls Tryd.prog 61 #[.pointer (some ⟨p, 0, none⟩), .int .i64 11] w fun e w' => e = .returned (.bool r) ∧ Blk w' p 91 #[.string (s ++ spD 11), .bool false] ∧ Only w w' [p] := by
  have g0 := hG.at' 11 (by decide)
  have y0 := hp.cell 0
  have y2 := hp.lt
  simp only [List.getElem?_toArray, List.getElem?_cons_zero] at y0
  have HK := Lib.hid ((hp.set 0 (.string (s ++ spD 11))).below ((Below.refl _ _).drew))
  have HO := Lib.hid (((Only.refl w [p]).set (p := ⟨p, 0, none⟩) (.inl (by simp)) (.string (s ++ spD 11))).drew)
  have HR := Lib.hid hr
  clear hr
  have ht : (spD 11).size ≤ 2 := by decide
  generalize spD 11 = t at *
  have HZ := Lib.hid (show s.size + t.size ≤ 9223372036854775807 by omega)
  have pa : ∀ w, (binOp .add 9 (.string s) (.string t)).run Tryd.prog w = .ok (.string (s ++ t)) w := fun w => by go_simp; omega
  go_enter Tryd.func61, Tryd.ntmps61
  go_wp2
  have hI : Below w.heap.size w w.drew := (Below.refl _ _).drew
  refine wp_region_chain_last (fun V => Below w.heap.size w V) [(0, false), (1, false), (2, false), (3, false), (4, false), (5, false), (6, false), (7, false), (8, false), (9, false)] _ _ (by rfl) (by rfl) (by kernel_rfl) (by kernel_rfl) hI ?_
  repeat (first
    | (refine ChainL.skip (o := ?_) ?_ ?_ ?_; rotate_left; (focus (first | (simp only [List.getElem?_toArray, List.getElem?_cons_succ, List.getElem?_cons_zero]; with_reducible rfl) | (simp only [List.getElem?_toArray, List.getElem?_cons_zero]; with_reducible rfl))); (focus rfl); simp only [Act.put, List.setIfInBounds_toArray, List.set_cons_zero, List.set_cons_succ])
    | (refine ChainL.val (o := ?_) (v := ?_) ?_ ?_ ?_ ?_ ?_; rotate_left 2; (focus (first | (simp only [List.getElem?_toArray, List.getElem?_cons_succ, List.getElem?_cons_zero]; with_reducible rfl) | (simp only [List.getElem?_toArray, List.getElem?_cons_zero]; with_reducible rfl))); (focus (intro _ _ h; cases h)); (focus rfl); (focus (intro w' hJ; have z0 := (hJ.cell (p := ⟨p, 0, none⟩) y2).trans y0; have z1 := (hJ.cell (p := ⟨0, 11, none⟩) hG.lt).trans g0; have z2 := Nat.lt_of_lt_of_le y2 hJ.size; have z3 := Nat.lt_of_lt_of_le hG.lt hJ.size; have z9 := HZ.out; go_simp <;> with_reducible rfl)); simp only [Act.put, List.setIfInBounds_toArray, List.set_cons_zero, List.set_cons_succ]))
  refine ChainL.val (o := ?_) (v := .string (s ++ t)) ?_ ?_ ?_ ?_ ?_
  rotate_left 1
  (focus (first | (simp only [List.getElem?_toArray, List.getElem?_cons_succ, List.getElem?_cons_zero]; with_reducible rfl) | (simp only [List.getElem?_toArray, List.getElem?_cons_zero]; with_reducible rfl)))
  (focus (intro _ _ h; cases h))
  (focus rfl)
  (focus (intro w' hJ; have z9 := HZ.out; go_simp))
  simp only [Act.put, List.setIfInBounds_toArray, List.set_cons_zero, List.set_cons_succ]
  repeat (first
    | (refine ChainL.skip (o := ?_) ?_ ?_ ?_; rotate_left; (focus (first | (simp only [List.getElem?_toArray, List.getElem?_cons_succ, List.getElem?_cons_zero]; with_reducible rfl) | (simp only [List.getElem?_toArray, List.getElem?_cons_zero]; with_reducible rfl))); (focus rfl); simp only [Act.put, List.setIfInBounds_toArray, List.set_cons_zero, List.set_cons_succ])
    | (refine ChainL.val (o := ?_) (v := ?_) ?_ ?_ ?_ ?_ ?_; rotate_left 2; (focus (first | (simp only [List.getElem?_toArray, List.getElem?_cons_succ, List.getElem?_cons_zero]; with_reducible rfl) | (simp only [List.getElem?_toArray, List.getElem?_cons_zero]; with_reducible rfl))); (focus (intro _ _ h; cases h)); (focus rfl); (focus (intro w' hJ; skip; go_simp <;> with_reducible rfl)); simp only [Act.put, List.setIfInBounds_toArray, List.set_cons_zero, List.set_cons_succ]))
  refine ChainL.nil ?_
  have z0 := (hI.cell (p := ⟨p, 0, none⟩) y2).trans y0
  have z2 := Nat.lt_of_lt_of_le y2 hI.size
  have z4 := (hp.below hI).frozen 0
  go_wp2
  refine bodyPost_ret (v := .bool (decide ((s.size : Int) + (t.size : Int) ≤ 21))) (by simp [results, Tryd.results61, go_sem]) rfl ⟨?_, HK.out, HO.out⟩
  rw [← HR.out]
  exact congrArg (fun b => Ending.returned (.bool b)) (decide_eq_decide.2 (by omega))
set_option maxRecDepth 100000 in
theorem take_12 (p : Nat) (s : ByteArray) (r : Bool) (w : World) (hG : GD w) (hp : Blk w p 91 #[.string s, .bool false]) (hs : s.size ≤ 1000) (hr : decide (s.size + (spD 12).size ≤ 21) = r) :
    Calls Tryd.prog 61 #[.pointer (some ⟨p, 0, none⟩), .int .i64 12] w fun e w' => e = .returned (.bool r) ∧ Blk w' p 91 #[.string (s ++ spD 12), .bool false] ∧ Only w w' [p] := by
  have g0 := hG.at' 12 (by decide)
  have y0 := hp.cell 0
  have y2 := hp.lt
  simp only [List.getElem?_toArray, List.getElem?_cons_zero] at y0
  have HK := Lib.hid ((hp.set 0 (.string (s ++ spD 12))).below ((Below.refl _ _).drew))
  have HO := Lib.hid (((Only.refl w [p]).set (p := ⟨p, 0, none⟩) (.inl (by simp)) (.string (s ++ spD 12))).drew)
  have HR := Lib.hid hr
  clear hr
  have ht : (spD 12).size ≤ 2 := by decide
  generalize spD 12 = t at *
  have HZ := Lib.hid (show s.size + t.size ≤ 9223372036854775807 by omega)
  have pa : ∀ w, (binOp .add 9 (.string s) (.string t)).run Tryd.prog w = .ok (.string (s ++ t)) w := fun w => by go_simp; omega
  go_enter Tryd.func61, Tryd.ntmps61
  go_wp2
  have hI : Below w.heap.size w w.drew := (Below.refl _ _).drew
  refine wp_region_chain_last (fun V => Below w.heap.size w V) [(0, false), (1, false), (2, false), (3, false), (4, false), (5, false), (6, false), (7, false), (8, false), (9, false)] _ _ (by rfl) (by rfl) (by kernel_rfl) (by kernel_rfl) hI ?_
  repeat (first
    | (refine ChainL.skip (o := ?_) ?_ ?_ ?_; rotate_left; (focus (first | (simp only [List.getElem?_toArray, List.getElem?_cons_succ, List.getElem?_cons_zero]; with_reducible rfl) | (simp only [List.getElem?_toArray, List.getElem?_cons_zero]; with_reducible rfl))); (focus rfl); simp only [Act.put, List.setIfInBounds_toArray, List.set_cons_zero, List.set_cons_succ])
    | (refine ChainL.val (o := ?_) (v := ?_) ?_ ?_ ?_ ?_ ?_; rotate_left 2; (focus (first | (simp only [List.getElem?_toArray, List.getElem?_cons_succ, List.getElem?_cons_zero]; with_reducible rfl) | (simp only [List.getElem?_toArray, List.getElem?_cons_zero]; with_reducible rfl))); (focus (intro _ _ h; cases h)); (focus rfl); (focus (intro w' hJ; have z0 := (hJ.cell (p := ⟨p, 0, none⟩) y2).trans y0; have z1 := (hJ.cell (p := ⟨0, 12, none⟩) hG.lt).trans g0; have z2 := Nat.lt_of_lt_of_le y2 hJ.size; have z3 := Nat.lt_of_lt_of_le hG.lt hJ.size; have z9 := HZ.out; go_simp <;> with_reducible rfl)); simp only [Act.put, List.setIfInBounds_toArray, List.set_cons_zero, List.set_cons_succ]))
  refine ChainL.val (o := ?_) (v := .string (s ++ t)) ?_ ?_ ?_ ?_ ?_
  rotate_left 1
  (focus (first | (simp only [List.getElem?_toArray, List.getElem?_cons_succ, List.getElem?_cons_zero]; with_reducible rfl) | (simp only [List.getElem?_toArray, List.getElem?_cons_zero]; with_reducible rfl)))
  (focus (intro _ _ h; cases h))
  (focus rfl)
  (focus (intro w' hJ; have z9 := HZ.out; go_simp))
  simp only [Act.put, List.setIfInBounds_toArray, List.set_cons_zero, List.set_cons_succ]
  repeat (first
    | (refine ChainL.skip (o := ?_) ?_ ?_ ?_; rotate_left; (focus (first | (simp only [List.getElem?_toArray, List.getElem?_cons_succ, List.getElem?_cons_zero]; with_reducible rfl) | (simp only [List.getElem?_toArray, List.getElem?_cons_zero]; with_reducible rfl))); (focus rfl); simp only [Act.put, List.setIfInBounds_toArray, List.set_cons_zero, List.set_cons_succ])
    | (refine ChainL.val (o := ?_) (v := ?_) ?_ ?_ ?_ ?_ ?_; rotate_left 2; (focus (first | (simp only [List.getElem?_toArray, List.getElem?_cons_succ, List.getElem?_cons_zero]; with_reducible rfl) | (simp only [List.getElem?_toArray, List.getElem?_cons_zero]; with_reducible rfl))); (focus (intro _ _ h; cases h)); (focus rfl); (focus (intro w' hJ; skip; go_simp <;> with_reducible rfl)); simp only [Act.put, List.setIfInBounds_toArray, List.set_cons_zero, List.set_cons_succ]))
  refine ChainL.nil ?_
  have z0 := (hI.cell (p := ⟨p, 0, none⟩) y2).trans y0
  have z2 := Nat.lt_of_lt_of_le y2 hI.size
  have z4 := (hp.below hI).frozen 0
  go_wp2
  refine bodyPost_ret (v := .bool (decide ((s.size : Int) + (t.size : Int) ≤ 21))) (by simp [results, Tryd.results61, go_sem]) rfl ⟨?_, HK.out, HO.out⟩
  rw [← HR.out]
  exact congrArg (fun b => Ending.returned (.bool b)) (decide_eq_decide.2 (by omega))
set_option maxRecDepth 100000 in
theorem take_13 (p : Nat) (s : ByteArray) (r : Bool) (w : World) (hG : GD w) (hp : Blk w p 91 #[.string s, .bool false]) (hs : s.size ≤ 1000) (hr : decide (s.size + (spD 13).size ≤ 21) = r) :
    Calls Tryd.prog 61 #[.pointer (some ⟨p, 0, none⟩), .int .i64 13] w fun e w' => e = .returned (.bool r) ∧ Blk w' p 91 #[.string (s ++ spD 13), .bool false] ∧ Only w w' [p] := by
  have g0 := hG.at' 13 (by decide)
  have y0 := hp.cell 0
  have y2 := hp.lt
  simp only [List.getElem?_toArray, List.getElem?_cons_zero] at y0
  have HK := Lib.hid ((hp.set 0 (.string (s ++ spD 13))).below ((Below.refl _ _).drew))
  have HO := Lib.hid (((Only.refl w [p]).set (p := ⟨p, 0, none⟩) (.inl (by simp)) (.string (s ++ spD 13))).drew)
  have HR := Lib.hid hr
  clear hr
  have ht : (spD 13).size ≤ 2 := by decide
  generalize spD 13 = t at *
  have HZ := Lib.hid (show s.size + t.size ≤ 9223372036854775807 by omega)
  have pa : ∀ w, (binOp .add 9 (.string s) (.string t)).run Tryd.prog w = .ok (.string (s ++ t)) w := fun w => by go_simp; omega
  go_enter Tryd.func61, Tryd.ntmps61
  go_wp2
  have hI : Below w.heap.size w w.drew := (Below.refl _ _).drew
  refine wp_region_chain_last (fun V => Below w.heap.size w V) [(0, false), (1, false), (2, false), (3, false), (4, false), (5, false), (6, false), (7, false), (8, false), (9, false)] _ _ (by rfl) (by rfl) (by kernel_rfl) (by kernel_rfl) hI ?_
  repeat (first
    | (refine ChainL.skip (o := ?_) ?_ ?_ ?_; rotate_left; (focus (first | (simp only [List.getElem?_toArray, List.getElem?_cons_succ, List.getElem?_cons_zero]; with_reducible rfl) | (simp only [List.getElem?_toArray, List.getElem?_cons_zero]; with_reducible rfl))); (focus rfl); simp only [Act.put, List.setIfInBounds_toArray, List.set_cons_zero, List.set_cons_succ])
    | (refine ChainL.val (o := ?_) (v := ?_) ?_ ?_ ?_ ?_ ?_; rotate_left 2; (focus (first | (simp only [List.getElem?_toArray, List.getElem?_cons_succ, List.getElem?_cons_zero]; with_reducible rfl) | (simp only [List.getElem?_toArray, List.getElem?_cons_zero]; with_reducible rfl))); (focus (intro _ _ h; cases h)); (focus rfl); (focus (intro w' hJ; have z0 := (hJ.cell (p := ⟨p, 0, none⟩) y2).trans y0; have z1 := (hJ.cell (p := ⟨0, 13, none⟩) hG.lt).trans g0; have z2 := Nat.lt_of_lt_of_le y2 hJ.size; have z3 := Nat.lt_of_lt_of_le hG.lt hJ.size; have z9 := HZ.out; go_simp <;> with_reducible rfl)); simp only [Act.put, List.setIfInBounds_toArray, List.set_cons_zero, List.set_cons_succ]))
  refine ChainL.val (o := ?_) (v := .string (s ++ t)) ?_ ?_ ?_ ?_ ?_
  rotate_left 1
  (focus (first | (simp only [List.getElem?_toArray, List.getElem?_cons_succ, List.getElem?_cons_zero]; with_reducible rfl) | (simp only [List.getElem?_toArray, List.getElem?_cons_zero]; with_reducible rfl)))
  (focus (intro _ _ h; cases h))
  (focus rfl)
  (focus (intro w' hJ; have z9 := HZ.out; go_simp))
  simp only [Act.put, List.setIfInBounds_toArray, List.set_cons_zero, List.set_cons_succ]
  repeat (first
    | (refine ChainL.skip (o := ?_) ?_ ?_ ?_; rotate_left; (focus (first | (simp only [List.getElem?_toArray, List.getElem?_cons_succ, List.getElem?_cons_zero]; with_reducible rfl) | (simp only [List.getElem?_toArray, List.getElem?_cons_zero]; with_reducible rfl))); (focus rfl); simp only [Act.put, List.setIfInBounds_toArray, List.set_cons_zero, List.set_cons_succ])
    | (refine ChainL.val (o := ?_) (v := ?_) ?_ ?_ ?_ ?_ ?_; rotate_left 2; (focus (first | (simp only [List.getElem?_toArray, List.getElem?_cons_succ, List.getElem?_cons_zero]; with_reducible rfl) | (simp only [List.getElem?_toArray, List.getElem?_cons_zero]; with_reducible rfl))); (focus (intro _ _ h; cases h)); (focus rfl); (focus (intro w' hJ; skip; go_simp <;> with_reducible rfl)); simp only [Act.put, List.setIfInBounds_toArray, List.set_cons_zero, List.set_cons_succ]))
  refine ChainL.nil ?_
  have z0 := (hI.cell (p := ⟨p, 0, none⟩) y2).trans y0
  have z2 := Nat.lt_of_lt_of_le y2 hI.size
  have z4 := (hp.below hI).frozen 0
  go_wp2
  refine bodyPost_ret (v := .bool (decide ((s.size : Int) + (t.size : Int) ≤ 21))) (by simp [results, Tryd.results61, go_sem]) rfl ⟨?_, HK.out, HO.out⟩
  rw [← HR.out]
  exact congrArg (fun b => Ending.returned (.bool b)) (decide_eq_decide.2 (by omega))
set_option maxRecDepth 100000 in
theorem take_14 (p : Nat) (s : ByteArray) (r : Bool) (w : World) (hG : GD w) (hp : Blk w p 91 #[.string s, .bool false]) (hs : s.size ≤ 1000) (hr : decide (s.size + (spD 14).size ≤ 21) = r) :
    Calls Tryd.prog 61 #[.pointer (some ⟨p, 0, none⟩), .int .i64 14] w fun e w' => e = .returned (.bool r) ∧ Blk w' p 91 #[.string (s ++ spD 14), .bool false] ∧ Only w w' [p] := by
  have g0 := hG.at' 14 (by decide)
  have y0 := hp.cell 0
  have y2 := hp.lt
  simp only [List.getElem?_toArray, List.getElem?_cons_zero] at y0
  have HK := Lib.hid ((hp.set 0 (.string (s ++ spD 14))).below ((Below.refl _ _).drew))
  have HO := Lib.hid (((Only.refl w [p]).set (p := ⟨p, 0, none⟩) (.inl (by simp)) (.string (s ++ spD 14))).drew)
  have HR := Lib.hid hr
  clear hr
  have ht : (spD 14).size ≤ 2 := by decide
  generalize spD 14 = t at *
  have HZ := Lib.hid (show s.size + t.size ≤ 9223372036854775807 by omega)
  have pa : ∀ w, (binOp .add 9 (.string s) (.string t)).run Tryd.prog w = .ok (.string (s ++ t)) w := fun w => by go_simp; omega
  go_enter Tryd.func61, Tryd.ntmps61
  go_wp2
  have hI : Below w.heap.size w w.drew := (Below.refl _ _).drew
  refine wp_region_chain_last (fun V => Below w.heap.size w V) [(0, false), (1, false), (2, false), (3, false), (4, false), (5, false), (6, false), (7, false), (8, false), (9, false)] _ _ (by rfl) (by rfl) (by kernel_rfl) (by kernel_rfl) hI ?_
  repeat (first
    | (refine ChainL.skip (o := ?_) ?_ ?_ ?_; rotate_left; (focus (first | (simp only [List.getElem?_toArray, List.getElem?_cons_succ, List.getElem?_cons_zero]; with_reducible rfl) | (simp only [List.getElem?_toArray, List.getElem?_cons_zero]; with_reducible rfl))); (focus rfl); simp only [Act.put, List.setIfInBounds_toArray, List.set_cons_zero, List.set_cons_succ])
    | (refine ChainL.val (o := ?_) (v := ?_) ?_ ?_ ?_ ?_ ?_; rotate_left 2; (focus (first | (simp only [List.getElem?_toArray, List.getElem?_cons_succ, List.getElem?_cons_zero]; with_reducible rfl) | (simp only [List.getElem?_toArray, List.getElem?_cons_zero]; with_reducible rfl))); (focus (intro _ _ h; cases h)); (focus rfl); (focus (intro w' hJ; have z0 := (hJ.cell (p := ⟨p, 0, none⟩) y2).trans y0; have z1 := (hJ.cell (p := ⟨0, 14, none⟩) hG.lt).trans g0; have z2 := Nat.lt_of_lt_of_le y2 hJ.size; have z3 := Nat.lt_of_lt_of_le hG.lt hJ.size; have z9 := HZ.out; go_simp <;> with_reducible rfl)); simp only [Act.put, List.setIfInBounds_toArray, List.set_cons_zero, List.set_cons_succ]))
  refine ChainL.val (o := ?_) (v := .string (s ++ t)) ?_ ?_ ?_ ?_ ?_
  rotate_left 1
  (focus (first | (simp only [List.getElem?_toArray, List.getElem?_cons_succ, List.getElem?_cons_zero]; with_reducible rfl) | (simp only [List.getElem?_toArray, List.getElem?_cons_zero]; with_reducible rfl)))
  (focus (intro _ _ h; cases h))
  (focus rfl)
  (focus (intro w' hJ; have z9 := HZ.out; go_simp))
  simp only [Act.put, List.setIfInBounds_toArray, List.set_cons_zero, List.set_cons_succ]
  repeat (first
    | (refine ChainL.skip (o := ?_) ?_ ?_ ?_; rotate_left; (focus (first | (simp only [List.getElem?_toArray, List.getElem?_cons_succ, List.getElem?_cons_zero]; with_reducible rfl) | (simp only [List.getElem?_toArray, List.getElem?_cons_zero]; with_reducible rfl))); (focus rfl); simp only [Act.put, List.setIfInBounds_toArray, List.set_cons_zero, List.set_cons_succ])
    | (refine ChainL.val (o := ?_) (v := ?_) ?_ ?_ ?_ ?_ ?_; rotate_left 2; (focus (first | (simp only [List.getElem?_toArray, List.getElem?_cons_succ, List.getElem?_cons_zero]; with_reducible rfl) | (simp only [List.getElem?_toArray, List.getElem?_cons_zero]; with_reducible rfl))); (focus (intro _ _ h; cases h)); (focus rfl); (focus (intro w' hJ; skip; go_simp <;> with_reducible rfl)); simp only [Act.put, List.setIfInBounds_toArray, List.set_cons_zero, List.set_cons_succ]))
  refine ChainL.nil ?_
  have z0 := (hI.cell (p := ⟨p, 0, none⟩) y2).trans y0
  have z2 := Nat.lt_of_lt_of_le y2 hI.size
  have z4 := (hp.below hI).frozen 0
  go_wp2
  refine bodyPost_ret (v := .bool (decide ((s.size : Int) + (t.size : Int) ≤ 21))) (by simp [results, Tryd.results61, go_sem]) rfl ⟨?_, HK.out, HO.out⟩
  rw [← HR.out]
  exact congrArg (fun b => Ending.returned (.bool b)) (decide_eq_decide.2 (by omega))
theorem take_any (p h : Nat) (s : ByteArray) (r : Bool) (w : World) (hG : GD w) (h15 : h < 15) (hp : Blk w p 91 #[.string s, .bool false]) (hs : s.size ≤ 1000) (hr : decide (s.size + (spD h).size ≤ 21) = r) :
    Calls Tryd.prog 61 #[.pointer (some ⟨p, 0, none⟩), .int .i64 (h : Nat)] w fun e w' => e = .returned (.bool r) ∧ Blk w' p 91 #[.string (s ++ spD h), .bool false] ∧ Only w w' [p] := by
  match h, h15 with
  | 0, _ => exact take_0 p s r w hG hp hs hr
  | 1, _ => exact take_1 p s r w hG hp hs hr
  | 2, _ => exact take_2 p s r w hG hp hs hr
  | 3, _ => exact take_3 p s r w hG hp hs hr
  | 4, _ => exact take_4 p s r w hG hp hs hr
  | 5, _ => exact take_5 p s r w hG hp hs hr
  | 6, _ => exact take_6 p s r w hG hp hs hr
  | 7, _ => exact take_7 p s r w hG hp hs hr
  | 8, _ => exact take_8 p s r w hG hp hs hr
  | 9, _ => exact take_9 p s r w hG hp hs hr
  | 10, _ => exact take_10 p s r w hG hp hs hr
  | 11, _ => exact take_11 p s r w hG hp hs hr
  | 12, _ => exact take_12 p s r w hG hp hs hr
  | 13, _ => exact take_13 p s r w hG hp hs hr
  | 14, _ => exact take_14 p s r w hG hp hs hr
set_option maxRecDepth 100000 in
theorem take_end (p : Nat) (s : ByteArray) (w : World) (hp : Blk w p 91 #[.string s, .bool false]) :
    Calls Tryd.prog 61 #[.pointer (some ⟨p, 0, none⟩), .int .i64 15] w fun e w' => e = .returned (.bool false) ∧ Blk w' p 91 #[.string s, .bool true] ∧ Only w w' [p] := by
  have y1 := hp.cell 1
  have y3 := hp.frozen 1
  have y2 := hp.lt
  simp only [List.getElem?_toArray, List.getElem?_cons_zero, List.getElem?_cons_succ] at y1
  have HK := Lib.hid (hp.set 1 (.bool true))
  have HO := Lib.hid ((Only.refl w [p]).set (p := ⟨p, 1, none⟩) (.inl (by simp)) (.bool true))
  go_enter Tryd.func61, Tryd.ntmps61
  go_wp2
  exact bodyPost_ret (v := .bool false) (by simp [results, Tryd.results61, go_sem]) rfl ⟨rfl, HK.out, HO.out⟩
end Go.Proofs.YthoocoaalbeopaaDoor
