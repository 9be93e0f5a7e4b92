/- Part 8 of the proof: StR0, StR1, StR2, StR3, StR4. -/
import Derived.Laws.MakeOwn
import Derived.Deep.WholeRow
import Derived.Test.YtkhafhdmcalhbaaM6StackDoes

namespace Go.Proofs.Ytkhafhdmcalhbaa
open Go Go.RowKit
set_option linter.unusedVariables false
set_option linter.unusedSimpArgs false

/-- The reference's cells. -/
def rkCells (lv : Value) (St : List Int) (dv : Value) (u : Nat) : Array Value := (lv :: (intCells St ++ [dv, .int .i64 (u : Int)])).toArray
theorem rk_c0 (lv : Value) (St : List Int) (dv : Value) (u : Nat) : (rkCells lv St dv u)[0]? = some lv := by unfold rkCells; rw [List.getElem?_toArray]; rfl
theorem rk_c33 (lv : Value) (St : List Int) (dv : Value) (u : Nat) (h : St.length = 32) : (rkCells lv St dv u)[33]? = some dv := by
  unfold rkCells
  rw [List.getElem?_toArray, List.getElem?_cons_succ, List.getElem?_append_right (by rw [intCells_len]; omega), intCells_len, h]
  rfl
theorem rk_c34 (lv : Value) (St : List Int) (dv : Value) (u : Nat) (h : St.length = 32) : (rkCells lv St dv u)[34]? = some (.int .i64 (u : Int)) := by
  unfold rkCells
  rw [List.getElem?_toArray, List.getElem?_cons_succ, List.getElem?_append_right (by rw [intCells_len]; omega), intCells_len, h]
  rfl
theorem rk_ci (lv : Value) (St : List Int) (dv : Value) (u i : Nat) (h : i < St.length) : (rkCells lv St dv u)[1 + i]? = some (.int .i64 (St.getD i 0)) := by
  unfold rkCells
  rw [List.getElem?_toArray, Nat.add_comm, List.getElem?_cons_succ, List.getElem?_append_left (by rw [intCells_len]; omega), intCells_get St i h]
theorem rk_set0 (lv v : Value) (St : List Int) (dv : Value) (u : Nat) : (rkCells lv St dv u).setIfInBounds 0 v = rkCells v St dv u := by
  unfold rkCells
  rw [List.setIfInBounds_toArray, List.set_cons_zero]
theorem rk_set34 (lv : Value) (St : List Int) (dv : Value) (u u2 : Nat) (h : St.length = 32) : (rkCells lv St dv u).setIfInBounds 34 (.int .i64 (u2 : Int)) = rkCells lv St dv u2 := by
  unfold rkCells
  rw [List.setIfInBounds_toArray, List.set_cons_succ, List.set_append_right _ _ (by rw [intCells_len]; omega), intCells_len, h]
  rfl
theorem rk_seti (lv : Value) (St : List Int) (dv : Value) (u i : Nat) (h : i < St.length) (x : Int) : (rkCells lv St dv u).setIfInBounds (1 + i) (.int .i64 x) = rkCells lv (St.set i x) dv u := by
  unfold rkCells
  rw [List.setIfInBounds_toArray, Nat.add_comm, List.set_cons_succ, List.set_append_left _ _ (by rw [intCells_len]; omega)]
  congr 3
  simp [intCells]
structure Rk (W : World) (p : Nat) (lv : Value) (L St D : List Int) (u : Nat) : Prop where
  blk : ∃ A c, Blk W p 30 (rkCells lv St (.slice A D.length c) u) ∧ Lists W p A (intCells D)
  own : W.ownsRow p 3 1 lv L.length (intCells L)
  st : St.length = 32
  len : L.length ≤ 48
  may : ∀ x ∈ L, mayB x = true
  dl : D.length ≤ 17592186044416
  ul : u ≤ 1000000
/-- What a call has changed; the draws lie where they lay. -/
structure RMod (w w' : World) (p : Nat) (lv lv' : Value) : Prop where
  only : Only w w' [p]
  new : ∀ b ∈ blk lv', b ∈ blk lv ∨ w.heap.size ≤ b
  kept : p < w.heap.size → w'.cell? ⟨p, 33, none⟩ = w.cell? ⟨p, 33, none⟩
def RDid (p : Nat) (lv : Value) (w : World) (code : Int) (L St D : List Int) (u : Nat) (e : Ending) (w' : World) : Prop := e = .returned (.int .i64 code) ∧ ∃ lv', Rk w' p lv' L St D u ∧ RMod w w' p lv lv'
theorem RMod.refl (w : World) (p : Nat) (lv : Value) : RMod w w p lv lv := ⟨Only.refl _ _, fun _ h => .inl h, fun _ => rfl⟩
theorem RMod.below {w w1 : World} {p : Nat} {lv : Value} (h : Below w.heap.size w w1) : RMod w w1 p lv lv := ⟨Only.of_below h _, fun _ hb => .inl hb, fun hp => h.cell hp⟩
theorem RMod.trans {w w1 w2 : World} {p : Nat} {a b c : Value} (h : RMod w w1 p a b) (k : RMod w1 w2 p b c) : RMod w w2 p a c :=
  ⟨h.1.trans k.1 (fun x hx => .inl hx), fun x hx => by
    rcases k.2 x hx with h1 | h1
    · exact h.2 x h1
    · exact .inr (Nat.le_trans h.1.size h1), fun hp => (k.kept (Nat.lt_of_lt_of_le hp h.1.size)).trans (h.kept hp)⟩
theorem kept_set {w : World} {p : Nat} {T : TypeId} {cs : Array Value} (h : Blk w p T cs) (j : Nat) (hj : j ≠ 33) (v : Value) : (w.setCell ⟨p, j, none⟩ v).cell? ⟨p, 33, none⟩ = w.cell? ⟨p, 33, none⟩ := by
  rw [(h.set j v).cell 33, h.cell 33, Array.getElem?_setIfInBounds_ne hj]
theorem Rk.lt {W : World} {p : Nat} {lv : Value} {L St D : List Int} {u : Nat} (h : Rk W p lv L St D u) : p < W.heap.size := by obtain ⟨_, _, hb, _⟩ := h.blk; exact hb.lt
theorem Rk.ne {W : World} {p : Nat} {lv : Value} {L St D : List Int} {u : Nat} (h : Rk W p lv L St D u) : p ∉ Go.Proofs.Ytkhafhdmcalhbaa.blk lv := by obtain ⟨_, _, hb, _⟩ := h.blk; exact own_ne h.own hb (by decide)
theorem Rk.only {W w1 : World} {p : Nat} {lv : Value} {L St D : List Int} {u : Nat} {fp : List Nat} (h : Rk W p lv L St D u) (o : Only W w1 fp) (h1 : p ∉ fp) (h2 : ∀ b ∈ fp, b ∉ Go.Proofs.Ytkhafhdmcalhbaa.blk lv) (h3 : ∀ A c, Blk W p 30 (rkCells lv St (.slice A D.length c) u) → ∀ a, A = some a → intCells D ≠ [] → a.block ∉ fp) : Rk w1 p lv L St D u := by
  obtain ⟨A, c, hb, hl⟩ := h.blk
  exact ⟨⟨A, c, hb.only o h1, lists_only hl (Nat.le_of_lt h.lt) o (h3 A c hb)⟩, own_only h.own o (fun b hb hm => h2 b hm hb), h.st, h.len, h.may, h.dl, h.ul⟩
theorem Rk.below {W w1 : World} {p : Nat} {lv : Value} {L St D : List Int} {u : Nat} (h : Rk W p lv L St D u) (o : Below W.heap.size W w1) : Rk w1 p lv L St D u := h.only (Only.of_below o []) (fun h => (nomatch h)) (fun _ hb => (nomatch hb)) (fun _ _ _ _ _ _ hm => (nomatch hm))
/-- The numbers were set anew. -/
theorem Rk.put {w w2 : World} {p : Nat} {lv v2 : Value} {L L2 St D : List Int} {u : Nat} (h : Rk w p lv L St D u) (o : Below w.heap.size w w2) (h2 : w2.ownsRow p 3 1 v2 L2.length (intCells L2)) (hat : ∀ b ∈ Go.Proofs.Ytkhafhdmcalhbaa.blk v2, b ∈ Go.Proofs.Ytkhafhdmcalhbaa.blk lv ∨ w.heap.size ≤ b)
    (hl : L2.length ≤ 48) (hm : ∀ x ∈ L2, mayB x = true) : Rk (w2.setCell ⟨p, 0, none⟩ v2) p v2 L2 St D u ∧ RMod w (w2.setCell ⟨p, 0, none⟩ v2) p lv v2 := by
  have hk := h.below o
  obtain ⟨A, c, hb2, hls⟩ := hk.blk
  have o1 : Only w2 (w2.setCell ⟨p, 0, none⟩ v2) [p] := (Only.refl _ _).set (.inl (by simp)) _
  have hq2 : p ∉ Go.Proofs.Ytkhafhdmcalhbaa.blk v2 := own_ne h2 hb2 (by decide)
  have hs := rk_set0 lv v2 St (.slice A D.length c) u
  exact ⟨⟨⟨A, c, hs ▸ hb2.set 0 v2, lists_lt hls (Nat.le_of_lt hk.lt) o1 (fun b hb => by simp at hb; omega)⟩, own_only h2 o1 (fun b hbm e => by simp at e; subst e; exact hq2 hbm), h.st, hl, hm, h.dl, h.ul⟩,
    ((Only.of_below o []).more (fun _ h => (nomatch h))).trans o1 (fun b hb => .inl hb), hat, fun hp => (kept_set hb2 0 (by decide) _).trans (o.cell hp)⟩
theorem Rk.setSt {w : World} {p : Nat} {lv : Value} {L St D : List Int} {u : Nat} (h : Rk w p lv L St D u) (i : Nat) (hi : i < 32) (x : Int) : Rk (w.setCell ⟨p, 1 + i, none⟩ (.int .i64 x)) p lv L (St.set i x) D u ∧ RMod w (w.setCell ⟨p, 1 + i, none⟩ (.int .i64 x)) p lv lv := by
  obtain ⟨A, c, hb, hls⟩ := h.blk
  have o1 : Only w (w.setCell ⟨p, 1 + i, none⟩ (.int .i64 x)) [p] := (Only.refl _ _).set (.inl (by simp)) _
  have hs := rk_seti lv St (.slice A D.length c) u i (by rw [h.st]; exact hi) x
  exact ⟨⟨⟨A, c, hs ▸ hb.set (1 + i) _, lists_lt hls (Nat.le_of_lt h.lt) o1 (fun b hb => by simp at hb; omega)⟩, own_only h.own o1 (fun b hbm e => by simp at e; subst e; exact h.ne hbm), by rw [List.length_set]; exact h.st, h.len, h.may, h.dl, h.ul⟩, o1, fun b hb => .inl hb, fun _ => kept_set hb (1 + i) (by omega) _⟩
theorem Rk.setU {w : World} {p : Nat} {lv : Value} {L St D : List Int} {u : Nat} (h : Rk w p lv L St D u) (hu : u + 1 ≤ 1000000) : Rk (w.setCell ⟨p, 34, none⟩ (.int .i64 ((u : Int) + 1))) p lv L St D (u + 1) ∧ RMod w (w.setCell ⟨p, 34, none⟩ (.int .i64 ((u : Int) + 1))) p lv lv := by
  obtain ⟨A, c, hb, hls⟩ := h.blk
  have o1 : Only w (w.setCell ⟨p, 34, none⟩ (.int .i64 ((u : Int) + 1))) [p] := (Only.refl _ _).set (.inl (by simp)) _
  have hs := rk_set34 lv St (.slice A D.length c) u (u + 1) h.st
  rw [show ((u + 1 : Nat) : Int) = (u : Int) + 1 by omega] at hs
  exact ⟨⟨⟨A, c, hs ▸ hb.set 34 _, lists_lt hls (Nat.le_of_lt h.lt) o1 (fun b hb => by simp at hb; omega)⟩, own_only h.own o1 (fun b hbm e => by simp at e; subst e; exact h.ne hbm), h.st, h.len, h.may, h.dl, hu⟩, o1, fun b hb => .inl hb, fun _ => kept_set hb 34 (by decide) _⟩
set_option maxRecDepth 100000 in
set_option maxHeartbeats 1000000 in
theorem flag_any (b : Bool) (w : World) : Calls Try.prog 35 #[.bool b] w fun e w' => e = .returned (.int .i64 (flagV b)) ∧ w = w' := by
  cases b
  all_goals
    go_enter Try.func35, Try.ntmps35
    go_wp2
    go_ret
    exact ⟨rfl, rfl⟩
set_option maxRecDepth 100000 in
set_option maxHeartbeats 1000000 in
theorem need_abs (w : World) : Calls Try.prog 28 #[.int .i64 9] w fun e w' => e = .returned (.int .i64 1) ∧ w = w' := by
  go_enter Try.func28, Try.ntmps28
  go_wp2
  go_ret
  exact ⟨rfl, rfl⟩
set_option maxRecDepth 100000 in
set_option maxHeartbeats 1000000 in
theorem need_neg (w : World) : Calls Try.prog 28 #[.int .i64 14] w fun e w' => e = .returned (.int .i64 1) ∧ w = w' := by
  go_enter Try.func28, Try.ntmps28
  go_wp2
  go_ret
  exact ⟨rfl, rfl⟩
set_option maxRecDepth 100000 in
set_option maxHeartbeats 1000000 in
theorem need_sqrt (w : World) : Calls Try.prog 28 #[.int .i64 26] w fun e w' => e = .returned (.int .i64 1) ∧ w = w' := by
  go_enter Try.func28, Try.ntmps28
  go_wp2
  go_ret
  exact ⟨rfl, rfl⟩
set_option maxRecDepth 100000 in
set_option maxHeartbeats 1000000 in
theorem need_not (w : World) : Calls Try.prog 28 #[.int .i64 5] w fun e w' => e = .returned (.int .i64 1) ∧ w = w' := by
  go_enter Try.func28, Try.ntmps28
  go_wp2
  go_ret
  exact ⟨rfl, rfl⟩
set_option maxRecDepth 100000 in
set_option maxHeartbeats 1000000 in
theorem need_add (w : World) : Calls Try.prog 28 #[.int .i64 10] w fun e w' => e = .returned (.int .i64 2) ∧ w = w' := by
  go_enter Try.func28, Try.ntmps28
  go_wp2
  go_ret
  exact ⟨rfl, rfl⟩
set_option maxRecDepth 100000 in
set_option maxHeartbeats 1000000 in
theorem need_sub (w : World) : Calls Try.prog 28 #[.int .i64 11] w fun e w' => e = .returned (.int .i64 2) ∧ w = w' := by
  go_enter Try.func28, Try.ntmps28
  go_wp2
  go_ret
  exact ⟨rfl, rfl⟩
set_option maxRecDepth 100000 in
set_option maxHeartbeats 1000000 in
theorem need_mul (w : World) : Calls Try.prog 28 #[.int .i64 24] w fun e w' => e = .returned (.int .i64 2) ∧ w = w' := by
  go_enter Try.func28, Try.ntmps28
  go_wp2
  go_ret
  exact ⟨rfl, rfl⟩
set_option maxRecDepth 100000 in
set_option maxHeartbeats 1000000 in
theorem need_div (w : World) : Calls Try.prog 28 #[.int .i64 12] w fun e w' => e = .returned (.int .i64 2) ∧ w = w' := by
  go_enter Try.func28, Try.ntmps28
  go_wp2
  go_ret
  exact ⟨rfl, rfl⟩
set_option maxRecDepth 100000 in
set_option maxHeartbeats 1000000 in
theorem need_and (w : World) : Calls Try.prog 28 #[.int .i64 3] w fun e w' => e = .returned (.int .i64 2) ∧ w = w' := by
  go_enter Try.func28, Try.ntmps28
  go_wp2
  go_ret
  exact ⟨rfl, rfl⟩
set_option maxRecDepth 100000 in
set_option maxHeartbeats 1000000 in
theorem need_or (w : World) : Calls Try.prog 28 #[.int .i64 4] w fun e w' => e = .returned (.int .i64 2) ∧ w = w' := by
  go_enter Try.func28, Try.ntmps28
  go_wp2
  go_ret
  exact ⟨rfl, rfl⟩
set_option maxRecDepth 100000 in
set_option maxHeartbeats 1000000 in
theorem need_eq (w : World) : Calls Try.prog 28 #[.int .i64 15] w fun e w' => e = .returned (.int .i64 2) ∧ w = w' := by
  go_enter Try.func28, Try.ntmps28
  go_wp2
  go_ret
  exact ⟨rfl, rfl⟩
set_option maxRecDepth 100000 in
set_option maxHeartbeats 1000000 in
theorem need_drop (w : World) : Calls Try.prog 28 #[.int .i64 18] w fun e w' => e = .returned (.int .i64 1) ∧ w = w' := by
  go_enter Try.func28, Try.ntmps28
  go_wp2
  go_ret
  exact ⟨rfl, rfl⟩
set_option maxRecDepth 100000 in
set_option maxHeartbeats 1000000 in
theorem need_dup (w : World) : Calls Try.prog 28 #[.int .i64 27] w fun e w' => e = .returned (.int .i64 1) ∧ w = w' := by
  go_enter Try.func28, Try.ntmps28
  go_wp2
  go_ret
  exact ⟨rfl, rfl⟩
set_option maxRecDepth 100000 in
set_option maxHeartbeats 1000000 in
theorem need_exch (w : World) : Calls Try.prog 28 #[.int .i64 28] w fun e w' => e = .returned (.int .i64 2) ∧ w = w' := by
  go_enter Try.func28, Try.ntmps28
  go_wp2
  go_ret
  exact ⟨rfl, rfl⟩
set_option maxRecDepth 100000 in
set_option maxHeartbeats 1000000 in
theorem need_ifelse (w : World) : Calls Try.prog 28 #[.int .i64 22] w fun e w' => e = .returned (.int .i64 4) ∧ w = w' := by
  go_enter Try.func28, Try.ntmps28
  go_wp2
  go_ret
  exact ⟨rfl, rfl⟩
set_option maxRecDepth 100000 in
set_option maxHeartbeats 1000000 in
theorem need_index (w : World) : Calls Try.prog 28 #[.int .i64 29] w fun e w' => e = .returned (.int .i64 1) ∧ w = w' := by
  go_enter Try.func28, Try.ntmps28
  go_wp2
  go_ret
  exact ⟨rfl, rfl⟩
set_option maxRecDepth 100000 in
set_option maxHeartbeats 1000000 in
theorem need_roll (w : World) : Calls Try.prog 28 #[.int .i64 30] w fun e w' => e = .returned (.int .i64 2) ∧ w = w' := by
  go_enter Try.func28, Try.ntmps28
  go_wp2
  go_ret
  exact ⟨rfl, rfl⟩
set_option maxRecDepth 100000 in
set_option maxHeartbeats 1000000 in
theorem need_put (w : World) : Calls Try.prog 28 #[.int .i64 20] w fun e w' => e = .returned (.int .i64 2) ∧ w = w' := by
  go_enter Try.func28, Try.ntmps28
  go_wp2
  go_ret
  exact ⟨rfl, rfl⟩
set_option maxRecDepth 100000 in
set_option maxHeartbeats 1000000 in
theorem need_get (w : World) : Calls Try.prog 28 #[.int .i64 21] w fun e w' => e = .returned (.int .i64 1) ∧ w = w' := by
  go_enter Try.func28, Try.ntmps28
  go_wp2
  go_ret
  exact ⟨rfl, rfl⟩
set_option maxRecDepth 100000 in
set_option maxHeartbeats 1000000 in
theorem need_random (w : World) : Calls Try.prog 28 #[.int .i64 23] w fun e w' => e = .returned (.int .i64 0) ∧ w = w' := by
  go_enter Try.func28, Try.ntmps28
  go_wp2
  go_ret
  exact ⟨rfl, rfl⟩
theorem op_none {op : Int} (h : isOpB op = false) : (op == 9) = false ∧ (op == 14) = false ∧ (op == 26) = false ∧ (op == 5) = false ∧ (op == 10) = false ∧ (op == 11) = false ∧ (op == 24) = false ∧ (op == 12) = false ∧ (op == 3) = false ∧ (op == 4) = false ∧ (op == 15) = false ∧ (op == 18) = false ∧ (op == 27) = false ∧ (op == 28) = false ∧ (op == 22) = false ∧ (op == 29) = false ∧ (op == 30) = false ∧ (op == 20) = false ∧ (op == 21) = false ∧ (op == 23) = false := by
  have h1 : ∀ r ∈ OPS, (r.op == op) = false := by
    intro r hr
    unfold isOpB at h
    have := List.any_eq_false.1 h r hr
    simpa using this
  have go : ∀ x : Int, (∃ r ∈ OPS, r.op = x) → (op == x) = false := by
    rintro x ⟨r, hr, rfl⟩
    have := h1 r hr
    simp at this ⊢
    exact fun e => this e.symm
  refine ⟨go _ ⟨OPS[0], List.getElem_mem (by decide), rfl⟩, go _ ⟨OPS[1], List.getElem_mem (by decide), rfl⟩, go _ ⟨OPS[2], List.getElem_mem (by decide), rfl⟩, go _ ⟨OPS[3], List.getElem_mem (by decide), rfl⟩, go _ ⟨OPS[4], List.getElem_mem (by decide), rfl⟩, go _ ⟨OPS[5], List.getElem_mem (by decide), rfl⟩, go _ ⟨OPS[6], List.getElem_mem (by decide), rfl⟩, go _ ⟨OPS[7], List.getElem_mem (by decide), rfl⟩, go _ ⟨OPS[8], List.getElem_mem (by decide), rfl⟩, go _ ⟨OPS[9], List.getElem_mem (by decide), rfl⟩, go _ ⟨OPS[10], List.getElem_mem (by decide), rfl⟩, go _ ⟨OPS[11], List.getElem_mem (by decide), rfl⟩, go _ ⟨OPS[12], List.getElem_mem (by decide), rfl⟩, go _ ⟨OPS[13], List.getElem_mem (by decide), rfl⟩, go _ ⟨OPS[14], List.getElem_mem (by decide), rfl⟩, go _ ⟨OPS[15], List.getElem_mem (by decide), rfl⟩, go _ ⟨OPS[16], List.getElem_mem (by decide), rfl⟩, go _ ⟨OPS[17], List.getElem_mem (by decide), rfl⟩, go _ ⟨OPS[18], List.getElem_mem (by decide), rfl⟩, go _ ⟨OPS[19], List.getElem_mem (by decide), rfl⟩⟩
set_option maxRecDepth 100000 in
set_option maxHeartbeats 1000000 in
theorem need_none (op : Int) (h : isOpB op = false) (w : World) : Calls Try.prog 28 #[.int .i64 op] w fun e w' => e = .returned (.int .i64 (-1)) ∧ w = w' := by
  obtain ⟨habs, hneg, hsqrt, hnot, hadd, hsub, hmul, hdiv, hand, hor, heq, hdrop, hdup, hexch, hifelse, hindex, hroll, hput, hget, hrandom⟩ := op_none h
  have dabs : decide (op = 9) = false := habs
  have dneg : decide (op = 14) = false := hneg
  have dsqrt : decide (op = 26) = false := hsqrt
  have dnot : decide (op = 5) = false := hnot
  have dadd : decide (op = 10) = false := hadd
  have dsub : decide (op = 11) = false := hsub
  have dmul : decide (op = 24) = false := hmul
  have ddiv : decide (op = 12) = false := hdiv
  have dand : decide (op = 3) = false := hand
  have dor : decide (op = 4) = false := hor
  have deq : decide (op = 15) = false := heq
  have ddrop : decide (op = 18) = false := hdrop
  have ddup : decide (op = 27) = false := hdup
  have dexch : decide (op = 28) = false := hexch
  have difelse : decide (op = 22) = false := hifelse
  have dindex : decide (op = 29) = false := hindex
  have droll : decide (op = 30) = false := hroll
  have dput : decide (op = 20) = false := hput
  have dget : decide (op = 21) = false := hget
  have drandom : decide (op = 23) = false := hrandom
  clear h
  go_enter Try.func28, Try.ntmps28
  go_wp2
  go_ret
  exact ⟨rfl, rfl⟩
end Go.Proofs.Ytkhafhdmcalhbaa

namespace Go.Proofs.Ytkhafhdmcalhbaa
open Go Go.RowKit
set_option linter.unusedVariables false
set_option linter.unusedSimpArgs false

def RS (p : Nat) (w : World) : Prop := p ≤ w.heap.size
set_option maxRecDepth 100000 in
set_option maxHeartbeats 2000000 in
theorem rpush_any (p : Nat) (lv : Value) (L St D : List Int) (u : Nat) (x : Int) (w : World) (h : Rk w p lv L St D u) :
    Calls Try.prog 11 #[.pointer (some ⟨p, 0, none⟩), .int .i64 x] w (RDid p lv w (pushE L x) (pushL L x) St D u) := by
  have C := fun w => may_ref x w
  obtain ⟨A, c, hb, hls⟩ := h.blk
  have c0 := hb.cell 0
  rw [rk_c0] at c0
  have f0 := hb.frozen 0
  obtain ⟨A0, n0, rfl, hl0, hn0⟩ := own_lists h.own
  have HS := Lib.hid h
  obtain ⟨n, hn⟩ : ∃ n, n = L.length := ⟨_, rfl⟩
  rw [← hn] at c0 hn0
  have hn48 : n ≤ 48 := by have := h.len; omega
  unfold pushE pushL
  by_cases hm : mayB x = true
  · rw [hm] at C
    by_cases h48 : L.length = 48
    · rw [if_pos hm, if_pos hm, if_pos h48, if_pos h48]
      have d1 : decide ((n : Int) = 48) = true := by simp; omega
      have hn' : n = 48 := by omega
      clear hm hls hb hl0 h h48
      go_enter Try.func11, Try.ntmps11
      go_wp2_with (go_at_call 22; ((with_reducible refine (C _).mono ?_); rintro e w1 ⟨rfl, rfl⟩))
      go_ret
      exact ⟨rfl, _, HS.out, RMod.refl _ _ _⟩
    · rw [if_pos hm, if_pos hm, if_neg h48, if_neg h48]
      obtain ⟨i0, hi, hz0, hz1, hz2⟩ := info_partsS infoS
      have hq := h.lt
      have HN := Lib.hid hn
      have HM := Lib.hid hm
      have H48 := Lib.hid (show ¬ n = 48 by omega)
      have d1 : decide ((n : Int) = 48) = false := by simp; omega
      have d2 : ((n : Int) == 48) = false := by simp; omega
      have HL0 := Lib.hid hl0
      have HB := Lib.hid hb
      obtain ⟨w0, hw0⟩ : ∃ w0, w0 = w := ⟨_, rfl⟩
      clear hm hls h h48 hn hl0
      have HP : ∀ V : World, p ≤ w.heap.size := fun _ => Nat.le_of_lt hq
      go_enter Try.func11, Try.ntmps11
      go_wp2_with (first
        | (go_at_call 22; ((with_reducible refine (C _).mono ?_); rintro e w9 ⟨rfl, rfl⟩))
        | (at_builtin; refine wpList_append_src _ rfl (.tmp 15) (.tmp 19) 22 rfl p 3 i0 (.int .i64 0) 1 8 Try.underlying22 hi hz0 hz1 hz2 rfl (by decide) (.slice (some ⟨w.heap.size, 0, none⟩) 0 0) 0 [] rfl (World.ownsRow_made w #[] 0 (HP w) (Nat.zero_le _) rfl) w.heap.size A0 (n) n0 (intCells L) (by rfl) (HL0.out.below ((Below.refl _ _).alloc (Nat.le_refl _) _)) (by rw [intCells_len, Nat.mul_one]; exact HN.out.symm) (intCells_oneS _) (by simp only [maxLen]; omega) (by omega) (by have := HP w; simp; omega) ?_; intro v1 w1 own1 hg1 hat1; rw [Nat.zero_add, List.nil_append] at own1; have b1 : Below w.heap.size w w1 := ((Below.refl _ _).alloc (Nat.le_refl _) _).grown hg1 (by simp) (fun j hj => by cases hj; exact Nat.le_refl _); have f1 : ∀ b ∈ blk v1, w.heap.size ≤ b := (fun b hb => by rcases hat1 with e | e <;> (unfold blk at hb; rw [e] at hb; simp [Value.ownBlock] at hb; omega)); obtain ⟨A1, c1, rfl, _⟩ := own_lists own1)
        | (at_builtin; refine wpList_append_src _ rfl (.tmp 20) (.tmp 22) 22 rfl p 3 i0 (.int .i64 0) 1 8 Try.underlying22 hi hz0 hz1 hz2 rfl (by decide) (.slice A1 (n) c1) (n) (intCells L) rfl (own_only own1 ((Only.refl w1 []).alloc _) (fun _ _ h => (nomatch h))) (w1.alloc (.cells #[.int .i64 x] 3)).heap.size (some ⟨w1.heap.size, 0, none⟩) (1) 1 (intCells [x]) (by rfl) ((lists_row w1 [.int .i64 x] 3).more (by simp)) (by rw [intCells_len, Nat.mul_one]; rfl) (intCells_oneS _) (by simp only [maxLen]; omega) (by omega) (by have := HP w1; have := b1.size; simp; omega) ?_; intro v2 w2 own2 hg2 hat2; have o2 : Only (w1.alloc (.cells #[.int .i64 x] 3)) w2 (blk (.slice A1 (n) c1)) := (Only.refl _ _).grown hg2 (fun b hb => .inl (by simp [blk, hb])); obtain ⟨A2, c2, rfl, _⟩ := own_lists own2; have b12 := (b1.alloc b1.size (.cells #[.int .i64 x] 3)).trans (o2.to_below (b1.alloc b1.size (.cells #[.int .i64 x] 3)).size f1); have hb2 := (hb).below b12; have z2 := hb2.cell 0; rw [rk_c0] at z2; have y2 := hb2.frozen 0))
      go_ret
      have P := HS.out.put (L2 := L ++ [x]) b12 (by rw [List.length_append, intCells_app, ← HN.out]; exact own2) ?_ ?_ ?_
      · exact ⟨rfl, _, P.1, P.2⟩
      · intro b hb
        right
        rcases hat2 with e | e
        · exact f1 b (by unfold blk at hb ⊢; rw [e] at hb; exact hb)
        · have := b1.size; unfold blk at hb; rw [e] at hb; simp [Value.ownBlock] at hb; omega
      · rw [List.length_append, ← HN.out]; simp; have := H48.out; omega
      · intro y hy
        rcases List.mem_append.1 hy with h1 | h1
        · exact HS.out.may y h1
        · simp at h1; rw [h1]; exact HM.out
  · have hm' : mayB x = false := by simpa using hm
    rw [hm'] at C
    rw [if_neg hm, if_neg hm]
    clear hm hm' hls hb hl0 h
    go_enter Try.func11, Try.ntmps11
    go_wp2_with (go_at_call 22; ((with_reducible refine (C _).mono ?_); rintro e w1 ⟨rfl, rfl⟩))
    go_ret
    exact ⟨rfl, _, HS.out, RMod.refl _ _ _⟩
end Go.Proofs.Ytkhafhdmcalhbaa

namespace Go.Proofs.Ytkhafhdmcalhbaa
open Go Go.RowKit
set_option linter.unusedVariables false
set_option linter.unusedSimpArgs false

set_option maxRecDepth 100000 in
set_option maxHeartbeats 1000000 in
theorem rpop_nil (p : Nat) (lv : Value) (St D : List Int) (u : Nat) (w : World) (h : Rk w p lv [] St D u) :
    Calls Try.prog 13 #[.pointer (some ⟨p, 0, none⟩)] w fun e w' => e = .returned (.tuple #[.int .i64 0, .int .i64 170]) ∧ w = w' := by
  obtain ⟨A, c, hb, hls⟩ := h.blk
  have c0 := hb.cell 0
  rw [rk_c0] at c0
  obtain ⟨A0, n0, rfl, hl0, hn0⟩ := own_lists h.own
  clear hb hls h hl0
  go_enter Try.func13, Try.ntmps13
  go_wp2
  go_ret2
  exact ⟨rfl, rfl⟩
set_option maxRecDepth 100000 in
set_option maxHeartbeats 2000000 in
theorem rpop_any (p : Nat) (lv : Value) (L St D : List Int) (u : Nat) (x : Int) (w : World) (h : Rk w p lv (L ++ [x]) St D u) :
    Calls Try.prog 13 #[.pointer (some ⟨p, 0, none⟩)] w fun e w' => e = .returned (.tuple #[.int .i64 x, .int .i64 0]) ∧ ∃ lv', Rk w' p lv' L St D u ∧ RMod w w' p lv lv' := by
  obtain ⟨A, c, hb, hls⟩ := h.blk
  have c0 := hb.cell 0
  rw [rk_c0] at c0
  have f0 := hb.frozen 0
  obtain ⟨A0, n0, rfl, hl0, hn0⟩ := own_lists h.own
  have HS := Lib.hid h
  obtain ⟨n, hn⟩ : ∃ n, n = L.length := ⟨_, rfl⟩
  have hlen : (L ++ [x]).length = n + 1 := by rw [List.length_append, ← hn]; rfl
  rw [hlen] at c0 hn0
  have hn48 : n + 1 ≤ 48 := by rw [← hlen]; exact h.len
  obtain ⟨i0, hi, hz0, hz1, hz2⟩ := info_partsS infoS
  have hp := h.lt
  have HP : ∀ V : World, p ≤ w.heap.size := fun _ => Nat.le_of_lt hp
  have HL0 := Lib.hid hl0
  obtain ⟨b, o, rfl, hbl, hce⟩ := hl0.plain (by simp [intCells])
  have ce := hce n (.int .i64 x) (by rw [intCells_app, List.getElem?_append_right (by rw [intCells_len]; omega), intCells_len, hn, Nat.sub_self]; rfl)
  have C0 : ∀ V, Below w.heap.size w V → V.cell? ⟨p, 0, none⟩ = some (.slice (some ⟨b, o, none⟩) (n + 1) n0) := fun V hV => (hV.cell (p := ⟨p, 0, none⟩) hp).trans c0
  have CE : ∀ V, Below w.heap.size w V → V.cell? ⟨b, o + n, none⟩ = some (.int .i64 x) := fun V hV => (hV.cell (p := ⟨b, o + n, none⟩) hbl).trans ce
  have e1 : IntKind.i64.wrap ((n : Int) + 1 - 1) = (n : Int) := by simp [IntKind.wrap, IntKind.bits, IntKind.signed]; omega
  have e2 : IntKind.i64.wrap (n : Int) = (n : Int) := by simp [IntKind.wrap, IntKind.bits, IntKind.signed]; omega
  have d1 : decide (((n : Int) + 1) = 0) = false := by simp; omega
  have d2 : (((n : Int) + 1) == 0) = false := by simp; omega
  have hpl : (n : Int) < (n : Int) + 1 := by omega
  have SU := fun W => slice_up (some ⟨b, o, none⟩) (n + 1) n0 n (by omega) W
  have HN := Lib.hid hn
  have hx : intCells L = (intCells (L ++ [x])).take n := by rw [intCells_app, List.take_left' (by rw [intCells_len]; exact hn.symm)]
  have HLT := Lib.hid (show Lists w w.heap.size (some ⟨b, o, none⟩) (intCells L) by rw [hx]; exact lists_takeF HL0.out n)
  clear hls hl0 h hce hlen hn hx
  go_enter Try.func13, Try.ntmps13
  go_wp2
  have hI : Below w.heap.size w w.drew := (Below.refl _ _).drew
  refine wp_region_chain (fun V => Below w.heap.size w V) [(0, false), (1, false), (2, false), (3, false), (4, false), (5, false), (6, false), (7, false), (8, false), (9, false), (10, false), (11, false), (12, false)] (by kernel_rfl) (by kernel_rfl) hI ?_
  repeat (first
    | (refine ChainL.skip (o := ?_) ?_ ?_ ?_; rotate_left; (focus (first | (simp only [List.getElem?_toArray, List.getElem?_cons_succ, List.getElem?_cons_zero]; with_reducible rfl) | (simp only [List.getElem?_toArray, List.getElem?_cons_zero]; with_reducible rfl))); (focus rfl); simp only [Act.put, List.setIfInBounds_toArray, List.set_cons_zero, List.set_cons_succ])
    | (refine ChainL.val (o := ?_) (v := ?_) ?_ ?_ ?_ ?_ ?_; rotate_left 2; (focus (first | (simp only [List.getElem?_toArray, List.getElem?_cons_succ, List.getElem?_cons_zero]; with_reducible rfl) | (simp only [List.getElem?_toArray, List.getElem?_cons_zero]; with_reducible rfl))); (focus (intro _ _ h; cases h)); (focus rfl); (focus (intro w' hJ; have y0 := C0 _ hJ; have y1 := CE _ hJ; go_simp <;> with_reducible rfl)); simp only [Act.put, List.setIfInBounds_toArray, List.set_cons_zero, List.set_cons_succ]))
  refine ChainL.nil ?_
  go_wp2
  have hI2 : Below w.heap.size w w.drew.drew := hI.drew
  refine wp_region_chain_last (fun V => Below w.heap.size w V) [(0, false), (2, false), (3, false), (4, false), (5, false), (6, false), (7, false), (8, false), (9, false), (10, false), (11, false), (12, false), (1, true), (13, true), (14, false), (15, false)] _ _ (by rfl) (by rfl) (by kernel_rfl) (by kernel_rfl) hI2 ?_
  repeat (first
    | (refine ChainL.skip (o := ?_) ?_ ?_ ?_; rotate_left; (focus (first | (simp only [List.getElem?_toArray, List.getElem?_cons_succ, List.getElem?_cons_zero]; with_reducible rfl) | (simp only [List.getElem?_toArray, List.getElem?_cons_zero]; with_reducible rfl))); (focus rfl); simp only [Act.put, List.setIfInBounds_toArray, List.set_cons_zero, List.set_cons_succ])
    | (refine ChainL.val (o := ?_) (v := ?_) ?_ ?_ ?_ ?_ ?_; rotate_left 2; (focus (first | (simp only [List.getElem?_toArray, List.getElem?_cons_succ, List.getElem?_cons_zero]; with_reducible rfl) | (simp only [List.getElem?_toArray, List.getElem?_cons_zero]; with_reducible rfl))); (focus (intro _ _ h; cases h)); (focus rfl); (focus (intro w' hJ; have y0 := C0 _ hJ; go_simp <;> with_reducible rfl)); simp only [Act.put, List.setIfInBounds_toArray, List.set_cons_zero, List.set_cons_succ]))
  refine ChainL.does (o := ?_) (v := ?_) (w1 := ?_) ?_ ?_ ?_ ?_ ?_
  rotate_left 3
  (focus (first | (simp only [List.getElem?_toArray, List.getElem?_cons_succ, List.getElem?_cons_zero]; with_reducible rfl) | (simp only [List.getElem?_toArray, List.getElem?_cons_zero]; with_reducible rfl)))
  (focus rfl)
  (focus (go_simp; (constructor <;> with_reducible rfl)))
  (focus (exact hI2.alloc hI2.size _))
  simp only [Act.put, List.setIfInBounds_toArray, List.set_cons_zero, List.set_cons_succ]
  refine ChainL.append (o := ?_) ?_ ?_ (.tmp 24) (.tmp 35) 22 ?_ p 3 i0 (.int .i64 0) 1 8 Try.underlying22 hi hz0 hz1 hz2 rfl (by decide) (.slice (some ⟨w.drew.drew.heap.size, 0, none⟩) 0 0) 0 [] ?_ (World.ownsRow_made w.drew.drew #[] 0 (HP w) (Nat.zero_le _) rfl) _ (some ⟨b, o, none⟩) n n0 (intCells L) ?_ (HLT.out.below (hI2.alloc hI2.size _)) (by rw [intCells_len, Nat.mul_one]; exact HN.out.symm) (intCells_oneS _) (by simp only [maxLen]; omega) (by omega) (by have := HP w; simp; omega) ?_
  rotate_left
  (focus (first | (simp only [List.getElem?_toArray, List.getElem?_cons_succ, List.getElem?_cons_zero]; with_reducible rfl) | (simp only [List.getElem?_toArray, List.getElem?_cons_zero]; with_reducible rfl)))
  (focus rfl)
  (focus rfl)
  (focus rfl)
  (focus rfl)
  intro v1 w1 own1 hg1 hat1
  rw [Nat.zero_add, List.nil_append] at own1
  have b1 : Below w.drew.drew.heap.size w.drew.drew w1 := ((Below.refl _ _).alloc (Nat.le_refl _) _).grown hg1 (by simp) (fun j hj => by cases hj; exact Nat.le_refl _)
  have f1 : ∀ b ∈ blk v1, w.drew.drew.heap.size ≤ b := (fun b hb => by rcases hat1 with e | e <;> (unfold blk at hb; rw [e] at hb; simp [Value.ownBlock] at hb; simp; omega))
  obtain ⟨A1, c1, rfl, _⟩ := own_lists own1
  have b12 : Below w.heap.size w w1 := hI2.trans (b1.mono hI2.size)
  refine ⟨b12, ?_⟩
  simp only [Act.put, List.setIfInBounds_toArray, List.set_cons_zero, List.set_cons_succ]
  repeat (first
    | (refine ChainL.skip (o := ?_) ?_ ?_ ?_; rotate_left; (focus (first | (simp only [List.getElem?_toArray, List.getElem?_cons_succ, List.getElem?_cons_zero]; with_reducible rfl) | (simp only [List.getElem?_toArray, List.getElem?_cons_zero]; with_reducible rfl))); (focus rfl); simp only [Act.put, List.setIfInBounds_toArray, List.set_cons_zero, List.set_cons_succ])
    | (refine ChainL.val (o := ?_) (v := ?_) ?_ ?_ ?_ ?_ ?_; rotate_left 2; (focus (first | (simp only [List.getElem?_toArray, List.getElem?_cons_succ, List.getElem?_cons_zero]; with_reducible rfl) | (simp only [List.getElem?_toArray, List.getElem?_cons_zero]; with_reducible rfl))); (focus (intro _ _ h; cases h)); (focus rfl); (focus (intro w' hJ; skip; go_simp <;> with_reducible rfl)); simp only [Act.put, List.setIfInBounds_toArray, List.set_cons_zero, List.set_cons_succ]))
  refine ChainL.nil ?_
  have hb2 := hb.below b12
  have z2 := hb2.cell 0
  rw [rk_c0] at z2
  have y2 := hb2.frozen 0
  go_wp2
  go_ret2
  have P := HS.out.put (L2 := L) b12 (by rw [← HN.out]; exact own1) ?_ ?_ ?_
  · exact ⟨rfl, _, P.1, P.2⟩
  · intro b hb
    exact .inr (Nat.le_trans hI2.size (f1 b hb))
  · have := HN.out; omega
  · exact fun y hy => HS.out.may y (by simp [hy])
end Go.Proofs.Ytkhafhdmcalhbaa

namespace Go.Proofs.Ytkhafhdmcalhbaa
open Go Go.RowKit
set_option linter.unusedVariables false
set_option linter.unusedSimpArgs false

theorem makeZ (m : Nat) (hm : m ≤ 65536) (w : World) : (Instr.makeSlice 22 (.int .i64 (m : Nat)) (.int .i64 (m : Nat))).run Try.prog w = .ok (.slice (some ⟨w.heap.size, 0, none⟩) m m) (w.alloc (.cells (intCells (List.replicate m 0)).toArray 3)) := by
  obtain ⟨i0, hi, hz0, hz1, hz2⟩ := info_partsS infoS
  have h := run_makeSlice (P := Try.prog) (w := w) 22 3 i0 (.int .i64 0) Try.underlying22 hi hz0 .i64 .i64 (m : Nat) (m : Nat) (by omega) (Int.le_refl _) (by rw [hz1, Int.toNat_natCast]; omega) (by rw [hz2]; omega) (by omega)
  have hmade : madeCells #[.int .i64 0] m = (intCells (List.replicate m 0)).toArray := by
    unfold madeCells intCells
    apply Array.ext
    · simp
    · intro i h1 h2
      simp [Nat.mod_one]
  rw [Int.toNat_natCast, hz1, Nat.mul_one, show (Value.int .i64 0).cells = #[.int .i64 0] from rfl, hmade] at h
  exact h
theorem tmod_bounds (x n : Int) (hn : 0 < n) : -n < x.tmod n ∧ x.tmod n < n := by
  rcases Int.lt_or_le x 0 with hx | hx
  · obtain ⟨m, rfl⟩ : ∃ m, x = -m := ⟨-x, by omega⟩
    rw [Int.neg_tmod, Int.tmod_eq_emod_of_nonneg (by omega)]
    have := Int.emod_lt_of_pos m hn
    have := Int.emod_nonneg m (show n ≠ 0 by omega)
    omega
  · rw [Int.tmod_eq_emod_of_nonneg hx]
    have := Int.emod_nonneg x (show n ≠ 0 by omega)
    have := Int.emod_lt_of_pos x hn
    omega
theorem rem_run (x n : Int) (hn : 0 < n) (hn2 : n ≤ 1099511627776) (w : World) : (binOp .rem 3 (.int .i64 x) (.int .i64 n)).run Try.prog w = .ok (.int .i64 (x.tmod n)) w := by
  have hx := tmod_bounds x n hn
  have hne : n ≠ 0 := by omega
  have q1 : wrap64 (x.tmod n) = x.tmod n := by simp [wrap64]; omega
  go_simp
set_option maxRecDepth 100000 in
set_option maxHeartbeats 2000000 in
theorem rroll_any (B : Nat) (A : Option Addr) (c : Nat) (l : List Int) (j : Int) (w : World) (hB : B ≤ w.heap.size) (hL : Lists w B A (intCells l)) (h0 : 0 < l.length) (h48 : l.length ≤ 48) (hj1 : -32768 ≤ j) (hj2 : j ≤ 32768) :
    Calls Try.prog 31 #[.slice A l.length c, .int .i64 j] w fun e w' => ∃ A', e = .returned (.slice A' l.length l.length) ∧ Lists w' w'.heap.size A' (intCells (rot l j)) ∧ Below w.heap.size w w' := by
  obtain ⟨b, o, rfl, hbl, hce⟩ := hL.plain (by intro e; have h1 := congrArg List.length e; rw [intCells_len, List.length_nil] at h1; omega)
  obtain ⟨n, hn⟩ : ∃ n, n = l.length := ⟨_, rfl⟩
  rw [← hn] at h0 h48 ⊢
  have HN := Lib.hid hn
  have HCE := Lib.hid hce
  clear hL hn hce
  have MZ := fun W => makeZ n (by omega) W
  have k0 := Blk.new w 3 (intCells (List.replicate n 0)).toArray
  have b0 := (Below.refl w.heap.size w).alloc (Nat.le_refl _) (.cells (intCells (List.replicate n 0)).toArray 3)
  generalize hw1 : w.alloc (.cells (intCells (List.replicate n 0)).toArray 3) = w1 at *
  have HW := Lib.hid hw1
  clear hw1
  go_enter Try.func31, Try.ntmps31
  go_wp2
  rw [HW.out]
  go_loopw [7] (fun iv wr => ∃ (k : Nat) (C : List Int), k ≤ n ∧ iv = .int .i64 (k : Nat) ∧ Hid (Turned l j k C) ∧ Hid (Blk wr w.heap.size 3 (intCells C).toArray) ∧ Hid (Below w.heap.size w wr)) (fun iv _ => n - (intOf iv).toNat)
  case atStart => exact ⟨0, List.replicate n 0, Nat.zero_le _, rfl, Lib.hid (Turned.start (by rw [List.length_replicate]; exact HN.out)), Lib.hid k0, Lib.hid b0⟩
  case round =>
    obtain ⟨k, C, hk, rfl, HT, HK, HB⟩ := hrel
    by_cases hlt : k < n
    · have q1 : decide ((k : Int) < (n : Int)) = true := by simp; omega
      obtain ⟨x, hx⟩ : ∃ x, l[k]? = some x := ⟨l[k]'(by rw [← HN.out]; exact hlt), List.getElem?_eq_getElem _⟩
      have hxc := HCE.out k (.int .i64 x) (by simp [intCells, hx])
      have hn0 : (0 : Int) < (n : Int) := by omega
      have p0 := Int.emod_nonneg ((k : Int) + j) (show (n : Int) ≠ 0 by omega)
      have p1 := Int.emod_lt_of_pos ((k : Int) + j) hn0
      obtain ⟨p, hp⟩ : ∃ p : Nat, ((k : Int) + j) % (n : Int) = (p : Int) := ⟨(((k : Int) + j) % (n : Int)).toNat, by omega⟩
      rw [hp] at p1
      have hpn : p < n := by omega
      have tb := tmod_bounds ((k : Int) + j) n hn0
      have gm := go_mod ((k : Int) + j) n hn0
      rw [hp] at gm
      obtain ⟨xx, hxx⟩ : ∃ xx : Int, xx = (k : Int) + j := ⟨_, rfl⟩
      obtain ⟨y, hy⟩ : ∃ y : Int, y = xx.tmod (n : Int) := ⟨_, rfl⟩
      obtain ⟨z, hz⟩ : ∃ z : Int, z = y + (n : Int) := ⟨_, rfl⟩
      rw [← hxx, ← hy] at tb gm
      rw [← hz] at gm
      have a1 : IntKind.i64.wrap ((k : Int) + j) = xx := by rw [hxx]; simp [IntKind.wrap, IntKind.bits, IntKind.signed]; omega
      have R1 := fun W => rem_run xx n hn0 (by omega) W
      rw [← hy] at R1
      have a2 : IntKind.i64.wrap (y + (n : Int)) = z := by rw [hz]; simp [IntKind.wrap, IntKind.bits, IntKind.signed]; omega
      have R2 := fun W => rem_run z n hn0 (by omega) W
      rw [gm] at R2
      have tb2 := tmod_bounds z n hn0
      have q1a : IntKind.i64.wrap (xx.tmod (n : Int)) = y := by rw [← hy]; simp [IntKind.wrap, IntKind.bits, IntKind.signed]; omega
      have q1b : wrap64 (xx.tmod (n : Int)) = y := by rw [← hy]; simp [wrap64]; omega
      have q2a : IntKind.i64.wrap (z.tmod (n : Int)) = (p : Int) := by rw [gm]; simp [IntKind.wrap, IntKind.bits, IntKind.signed]; omega
      have q2b : wrap64 (z.tmod (n : Int)) = (p : Int) := by rw [gm]; simp [wrap64]; omega
      have q3a : xx.tmod (n : Int) = y := hy.symm
      have q3b : z.tmod (n : Int) = (p : Int) := gm
      have hne1 : (n : Int) ≠ 0 := by omega
      have hne2 : n ≠ 0 := by omega
      have hkn : (k : Int) < (n : Int) := by omega
      have hpnI : (p : Int) < (n : Int) := p1
      have hCl : C.length = n := by rw [HT.out.1, ← HN.out]
      have hwlt := HK.out.lt
      have CX : ∀ V, Below wr.heap.size wr V → V.cell? ⟨b, o + k, none⟩ = some (.int .i64 x) := fun V hV => ((HB.out.trans (hV.mono HB.out.size)).cell (p := ⟨b, o + k, none⟩) (by simp; omega)).trans hxc
      have CP : ∀ V, Below wr.heap.size wr V → V.cell? ⟨w.heap.size, p, none⟩ = some (.int .i64 (C.getD p 0)) := fun V hV => (hV.cell (p := ⟨w.heap.size, p, none⟩) hwlt).trans ((HK.out.cell p).trans (by rw [List.getElem?_toArray, intCells_get C p (by omega)]))
      have FP : ∀ V, Below wr.heap.size wr V → V.frozen? ⟨w.heap.size, p, none⟩ = false := fun V hV => (HK.out.below hV).frozen p
      have HT2 := Lib.hid (show Turned l j (k + 1) (C.set p x) from by
        have h := HT.out.next hx
        rw [← HN.out, hp, Int.toNat_natCast] at h
        exact h)
      have HK2 := Lib.hid (show Blk (wr.drew.setCell ⟨w.heap.size, p, none⟩ (.int .i64 x)) w.heap.size 3 (intCells (C.set p x)).toArray from by
        have h := (HK.out.below (Below.refl _ _).drew).set p (.int .i64 x)
        rwa [List.setIfInBounds_toArray, show (intCells C).set p (.int .i64 x) = intCells (C.set p x) by simp [intCells]] at h)
      have HB2 := Lib.hid (show Below w.heap.size w (wr.drew.setCell ⟨w.heap.size, p, none⟩ (.int .i64 x)) from HB.out.drew.setCell (by simp) _)
      clear hx hxc p0 p1 hp tb tb2 gm hy hxx hz hCl
      go_wp2
      have hI : Below wr.heap.size wr wr.drew := (Below.refl _ _).drew
      refine wp_region_chain_last (fun V => Below wr.heap.size wr V) [(0, false), (1, false), (2, false), (3, false), (4, false), (5, false), (6, false), (7, false), (8, false), (9, false), (10, false), (11, false), (12, false), (13, false), (14, false)] _ _ (by rfl) (by rfl) (by kernel_rfl) (by kernel_rfl) hI ?_
      repeat (first
        | (refine ChainL.skip (o := ?_) ?_ ?_ ?_; rotate_left; (focus (first | (simp only [List.getElem?_toArray, List.getElem?_cons_succ, List.getElem?_cons_zero]; with_reducible rfl) | (simp only [List.getElem?_toArray, List.getElem?_cons_zero]; with_reducible rfl))); (focus rfl); simp only [Act.put, List.setIfInBounds_toArray, List.set_cons_zero, List.set_cons_succ])
        | (refine ChainL.val (o := ?_) (v := ?_) ?_ ?_ ?_ ?_ ?_; rotate_left 2; (focus (first | (simp only [List.getElem?_toArray, List.getElem?_cons_succ, List.getElem?_cons_zero]; with_reducible rfl) | (simp only [List.getElem?_toArray, List.getElem?_cons_zero]; with_reducible rfl))); (focus (intro _ _ h; cases h)); (focus rfl); (focus (intro w' hJ; have y0 := CX _ hJ; go_simp <;> with_reducible rfl)); simp only [Act.put, List.setIfInBounds_toArray, List.set_cons_zero, List.set_cons_succ]))
      refine ChainL.nil ?_
      have z1 := CP _ hI
      have z2 := FP _ hI
      go_wp2
      go_roundw
      case rel => exact ⟨k + 1, C.set p x, by omega, by go_num, HT2, HK2, HB2⟩
      case measure => simp [intOf]; omega
    · obtain rfl : n = k := by omega
      have q1 : decide ((n : Int) < (n : Int)) = false := by simp
      go_wp2
      go_ret
      have hC := (show Turned l j l.length C by rw [← HN.out]; exact HT.out).done
      subst hC
      exact ⟨_, rfl, (lists_blk HK.out).more (by have := HK.out.lt; omega), HB.out⟩
end Go.Proofs.Ytkhafhdmcalhbaa

namespace Go.Proofs.Ytkhafhdmcalhbaa
open Go Go.RowKit
set_option linter.unusedVariables false
set_option linter.unusedSimpArgs false
set_option maxRecDepth 100000 in
set_option maxHeartbeats 2000000 in
theorem plain_abs (a b : Int) (ha : mayB a = true) (w : World) : Calls Try.prog 29 #[.int .i64 9, .int .i64 a, .int .i64 b] w fun e w' => e = .returned (.tuple #[.int .i64 (max a (-a)), .int .i64 (0), .bool true]) ∧ w = w' := by
  have a1 := mayB_lo ha; have a2 := mayB_hi ha
  clear ha
  have e1 : wrap64 (-a) = -a := by simp [wrap64]; omega
  by_cases h : a < 0
  · have d1 : decide (a < 0) = true := by simpa using h
    have hm : max a (-a) = -a := by omega
    rw [hm]
    clear hm h
    go_enter Try.func29, Try.ntmps29
    go_wp2
    go_ret3
    exact ⟨rfl, rfl⟩
  · have d1 : decide (a < 0) = false := by simpa using h
    have hm : max a (-a) = a := by omega
    rw [hm]
    clear hm h
    go_enter Try.func29, Try.ntmps29
    go_wp2
    go_ret3
    exact ⟨rfl, rfl⟩
set_option maxRecDepth 100000 in
set_option maxHeartbeats 2000000 in
theorem plain_neg (a b : Int) (ha : mayB a = true) (w : World) : Calls Try.prog 29 #[.int .i64 14, .int .i64 a, .int .i64 b] w fun e w' => e = .returned (.tuple #[.int .i64 (-a), .int .i64 (0), .bool true]) ∧ w = w' := by
  have a1 := mayB_lo ha; have a2 := mayB_hi ha
  clear ha
  have e1 : wrap64 (-a) = -a := by simp [wrap64]; omega
  go_enter Try.func29, Try.ntmps29
  go_wp2
  go_ret3
  exact ⟨rfl, rfl⟩
set_option maxRecDepth 100000 in
set_option maxHeartbeats 2000000 in
theorem plain_not (a b : Int) (w : World) : Calls Try.prog 29 #[.int .i64 5, .int .i64 a, .int .i64 b] w fun e w' => e = .returned (.tuple #[.int .i64 (flagV (a == 0)), .int .i64 (0), .bool true]) ∧ w = w' := by
  go_enter Try.func29, Try.ntmps29
  go_wp2_with (go_at_call 35; ((with_reducible refine (flag_any _ _).mono ?_); rintro e w1 ⟨rfl, rfl⟩))
  go_ret3
  exact ⟨by first | rfl | simp, rfl⟩
set_option maxRecDepth 100000 in
set_option maxHeartbeats 2000000 in
theorem plain_eq (a b : Int) (w : World) : Calls Try.prog 29 #[.int .i64 15, .int .i64 a, .int .i64 b] w fun e w' => e = .returned (.tuple #[.int .i64 (flagV (a == b)), .int .i64 (0), .bool true]) ∧ w = w' := by
  go_enter Try.func29, Try.ntmps29
  go_wp2_with (go_at_call 35; ((with_reducible refine (flag_any _ _).mono ?_); rintro e w1 ⟨rfl, rfl⟩))
  go_ret3
  exact ⟨by first | rfl | simp, rfl⟩
set_option maxRecDepth 100000 in
set_option maxHeartbeats 2000000 in
theorem plain_and (a b : Int) (w : World) : Calls Try.prog 29 #[.int .i64 3, .int .i64 a, .int .i64 b] w fun e w' => e = .returned (.tuple #[.int .i64 (flagV (a != 0 && b != 0)), .int .i64 (0), .bool true]) ∧ w = w' := by
  by_cases h1 : a = 0
  · have ha : (a != 0) = false := by simp [h1]
    have ha2 : decide (a ≠ 0) = false := by simp [h1]
    rw [ha]
    clear h1
    go_enter Try.func29, Try.ntmps29
    go_wp2_with (go_at_call 35; ((with_reducible refine (flag_any _ _).mono ?_); rintro e w1 ⟨rfl, rfl⟩))
    go_ret3
    exact ⟨by first | rfl | simp, rfl⟩
  
  · have ha : (a != 0) = true := by simp [h1]
    have ha2 : decide (a ≠ 0) = true := by simp [h1]
    rw [ha]
    clear h1
    go_enter Try.func29, Try.ntmps29
    go_wp2_with (go_at_call 35; ((with_reducible refine (flag_any _ _).mono ?_); rintro e w1 ⟨rfl, rfl⟩))
    go_ret3
    exact ⟨by first | rfl | simp, rfl⟩
set_option maxRecDepth 100000 in
set_option maxHeartbeats 2000000 in
theorem plain_or (a b : Int) (w : World) : Calls Try.prog 29 #[.int .i64 4, .int .i64 a, .int .i64 b] w fun e w' => e = .returned (.tuple #[.int .i64 (flagV (a != 0 || b != 0)), .int .i64 (0), .bool true]) ∧ w = w' := by
  by_cases h1 : a = 0
  · have ha : (a != 0) = false := by simp [h1]
    have ha2 : decide (a ≠ 0) = false := by simp [h1]
    rw [ha]
    clear h1
    go_enter Try.func29, Try.ntmps29
    go_wp2_with (go_at_call 35; ((with_reducible refine (flag_any _ _).mono ?_); rintro e w1 ⟨rfl, rfl⟩))
    go_ret3
    exact ⟨by first | rfl | simp, rfl⟩
  
  · have ha : (a != 0) = true := by simp [h1]
    have ha2 : decide (a ≠ 0) = true := by simp [h1]
    rw [ha]
    clear h1
    go_enter Try.func29, Try.ntmps29
    go_wp2_with (go_at_call 35; ((with_reducible refine (flag_any _ _).mono ?_); rintro e w1 ⟨rfl, rfl⟩))
    go_ret3
    exact ⟨by first | rfl | simp, rfl⟩
set_option maxRecDepth 100000 in
set_option maxHeartbeats 2000000 in
theorem plain_add (a b : Int) (hab : (mayB a && mayB b) = true) (w : World) : Calls Try.prog 29 #[.int .i64 10, .int .i64 a, .int .i64 b] w fun e w' => e = .returned (.tuple #[.int .i64 (outR (a + b)), .int .i64 (outE (a + b)), .bool true]) ∧ w = w' := by
  go_enter Try.func29, Try.ntmps29
  go_wp2_with (go_at_call 36; ((with_reducible refine (radd_yes a b _ hab).mono ?_); rintro e w1 ⟨rfl, rfl⟩))
  go_ret3
  exact ⟨rfl, rfl⟩
set_option maxRecDepth 100000 in
set_option maxHeartbeats 2000000 in
theorem plain_sub (a b : Int) (hab : (mayB a && mayB b) = true) (w : World) : Calls Try.prog 29 #[.int .i64 11, .int .i64 a, .int .i64 b] w fun e w' => e = .returned (.tuple #[.int .i64 (outR (a - b)), .int .i64 (outE (a - b)), .bool true]) ∧ w = w' := by
  go_enter Try.func29, Try.ntmps29
  go_wp2_with (go_at_call 37; ((with_reducible refine (rsub_yes a b _ hab).mono ?_); rintro e w1 ⟨rfl, rfl⟩))
  go_ret3
  exact ⟨rfl, rfl⟩
set_option maxRecDepth 100000 in
set_option maxHeartbeats 2000000 in
theorem plain_mul (a b : Int) (hab : (mayB a && mayB b) = true) (w : World) : Calls Try.prog 29 #[.int .i64 24, .int .i64 a, .int .i64 b] w fun e w' => e = .returned (.tuple #[.int .i64 (mdR a b 65536), .int .i64 (mdE a b 65536), .bool true]) ∧ w = w' := by
  go_enter Try.func29, Try.ntmps29
  go_wp2_with (go_at_call 38; ((with_reducible refine (rmul_any a b _).mono ?_); rintro e w1 ⟨rfl, rfl⟩))
  go_ret3
  exact ⟨rfl, rfl⟩
set_option maxRecDepth 100000 in
set_option maxHeartbeats 2000000 in
theorem plain_div (a b : Int) (hab : (mayB a && mayB b) = true) (w : World) : Calls Try.prog 29 #[.int .i64 12, .int .i64 a, .int .i64 b] w fun e w' => e = .returned (.tuple #[.int .i64 (mdR 65536 a b), .int .i64 (mdE 65536 a b), .bool true]) ∧ w = w' := by
  go_enter Try.func29, Try.ntmps29
  go_wp2_with (go_at_call 39; ((with_reducible refine (rdiv_any a b _).mono ?_); rintro e w1 ⟨rfl, rfl⟩))
  go_ret3
  exact ⟨rfl, rfl⟩
set_option maxRecDepth 100000 in
set_option maxHeartbeats 2000000 in
theorem plain_sqrt_ok (n : Nat) (b : Int) (hn : n ≤ 2147483648) (w : World) : Calls Try.prog 29 #[.int .i64 26, .int .i64 (n : Int), .int .i64 b] w fun e w' => e = .returned (.tuple #[.int .i64 (((rt (65536 * n) : Nat) : Int)), .int .i64 (0), .bool true]) ∧ w = w' := by
  have CR : ∀ w, Calls Try.prog 40 #[.int .i64 (n : Int)] w fun e w' => e = .returned (.tuple #[.int .i64 ((rt (65536 * n) : Nat) : Int), .int .i64 0]) ∧ w = w' := fun w => (rroot_ok n w hn).mono fun e w' ⟨q, h1, h2, h3⟩ => by rw [isRoot_unique h2 (rt_root _)] at h1; exact ⟨h1, h3⟩
  go_enter Try.func29, Try.ntmps29
  go_wp2_with (go_at_call 40; ((with_reducible refine (CR _).mono ?_); rintro e w1 ⟨rfl, rfl⟩))
  go_ret3
  exact ⟨rfl, rfl⟩
set_option maxRecDepth 100000 in
set_option maxHeartbeats 2000000 in
theorem plain_sqrt_no (a b : Int) (ha : mayB a = true) (hn : a < 0) (w : World) : Calls Try.prog 29 #[.int .i64 26, .int .i64 a, .int .i64 b] w fun e w' => e = .returned (.tuple #[.int .i64 (0), .int .i64 (1), .bool true]) ∧ w = w' := by
  have CR := fun w => rroot_neg a w ha hn
  go_enter Try.func29, Try.ntmps29
  go_wp2_with (go_at_call 40; ((with_reducible refine (CR _).mono ?_); rintro e w1 ⟨rfl, rfl⟩))
  go_ret3
  exact ⟨rfl, rfl⟩
set_option maxRecDepth 100000 in
set_option maxHeartbeats 2000000 in
theorem plain_drop (a b : Int) (w : World) : Calls Try.prog 29 #[.int .i64 18, .int .i64 a, .int .i64 b] w fun e w' => e = .returned (.tuple #[.int .i64 (0), .int .i64 (0), .bool false]) ∧ w = w' := by
  go_enter Try.func29, Try.ntmps29
  go_wp2
  go_ret3
  exact ⟨rfl, rfl⟩
set_option maxRecDepth 100000 in
set_option maxHeartbeats 2000000 in
theorem plain_dup (a b : Int) (w : World) : Calls Try.prog 29 #[.int .i64 27, .int .i64 a, .int .i64 b] w fun e w' => e = .returned (.tuple #[.int .i64 (0), .int .i64 (0), .bool false]) ∧ w = w' := by
  go_enter Try.func29, Try.ntmps29
  go_wp2
  go_ret3
  exact ⟨rfl, rfl⟩
set_option maxRecDepth 100000 in
set_option maxHeartbeats 2000000 in
theorem plain_exch (a b : Int) (w : World) : Calls Try.prog 29 #[.int .i64 28, .int .i64 a, .int .i64 b] w fun e w' => e = .returned (.tuple #[.int .i64 (0), .int .i64 (0), .bool false]) ∧ w = w' := by
  go_enter Try.func29, Try.ntmps29
  go_wp2
  go_ret3
  exact ⟨rfl, rfl⟩
set_option maxRecDepth 100000 in
set_option maxHeartbeats 2000000 in
theorem plain_index (a b : Int) (w : World) : Calls Try.prog 29 #[.int .i64 29, .int .i64 a, .int .i64 b] w fun e w' => e = .returned (.tuple #[.int .i64 (0), .int .i64 (0), .bool false]) ∧ w = w' := by
  go_enter Try.func29, Try.ntmps29
  go_wp2
  go_ret3
  exact ⟨rfl, rfl⟩
set_option maxRecDepth 100000 in
set_option maxHeartbeats 2000000 in
theorem plain_roll (a b : Int) (w : World) : Calls Try.prog 29 #[.int .i64 30, .int .i64 a, .int .i64 b] w fun e w' => e = .returned (.tuple #[.int .i64 (0), .int .i64 (0), .bool false]) ∧ w = w' := by
  go_enter Try.func29, Try.ntmps29
  go_wp2
  go_ret3
  exact ⟨rfl, rfl⟩
set_option maxRecDepth 100000 in
set_option maxHeartbeats 2000000 in
theorem plain_put (a b : Int) (w : World) : Calls Try.prog 29 #[.int .i64 20, .int .i64 a, .int .i64 b] w fun e w' => e = .returned (.tuple #[.int .i64 (0), .int .i64 (0), .bool false]) ∧ w = w' := by
  go_enter Try.func29, Try.ntmps29
  go_wp2
  go_ret3
  exact ⟨rfl, rfl⟩
set_option maxRecDepth 100000 in
set_option maxHeartbeats 2000000 in
theorem plain_get (a b : Int) (w : World) : Calls Try.prog 29 #[.int .i64 21, .int .i64 a, .int .i64 b] w fun e w' => e = .returned (.tuple #[.int .i64 (0), .int .i64 (0), .bool false]) ∧ w = w' := by
  go_enter Try.func29, Try.ntmps29
  go_wp2
  go_ret3
  exact ⟨rfl, rfl⟩
end Go.Proofs.Ytkhafhdmcalhbaa
