/- Part 5 of the proof: StJ3, StJ2, StK, StK1, StK2. -/
import Derived.Test.YtkhafhdmcalhbaaM3StackDoes

namespace Go.Proofs.Ytkhafhdmcalhbaa
open Go Go.RowKit
set_option linter.unusedVariables false
set_option linter.unusedSimpArgs false
theorem addr_add_add1 (a : Addr) (i j : Nat) : (a.add i).add j = a.add (i + j) := by
  unfold Addr.add
  by_cases hi : i = 0
  · subst hi; simp
  · by_cases hj : j = 0
    · subst hj; simp [hi]
    · simp [hi, hj, Nat.add_assoc]

/-- A part of a list. -/
theorem lists_part {w : World} {B : Nat} {A : Option Addr} {xs : List Value} (h : Lists w B A xs) (i m : Nat) : Lists w B (A.map (·.add i)) ((xs.drop i).take m) := by
  refine ⟨fun ha => ?_, fun a ha j u hu => ?_, fun a ha hx => ?_⟩
  · cases A with
    | none => rw [h.nil rfl]; simp
    | some a => cases ha
  · cases A with
    | none => cases ha
    | some a0 =>
      cases ha
      rw [addr_add_add1]
      refine h.cell a0 rfl (i + j) u ?_
      rw [List.getElem?_take] at hu
      split at hu
      · rwa [List.getElem?_drop] at hu
      · cases hu
  · cases A with
    | none => cases ha
    | some a0 =>
      cases ha
      rw [addr_add_block]
      exact h.lt a0 rfl (by intro e; subst e; simp at hx)

/-- A slice that reads as xs, of just its capacity. -/
def GavePart (w : World) (xs : List Value) (e : Ending) (w' : World) : Prop := ∃ A, e = .returned (.slice A xs.length xs.length) ∧ Lists w w.heap.size A xs ∧ w = w'

theorem slice_okI (A : Option Addr) (n c a : Nat) (h1 : a ≤ n) (h2 : n ≤ c) (w : World) : (Instr.sliceAt 22 (.slice A n c) (some (.int .i64 (a : Nat))) none none).run Try.prog w = .ok (.slice (if c = a then A else A.map (·.add a)) (n - a) (c - a)) w := by
  have hu := Try.underlying22
  have hz := Try.sizeOf3
  have i2 : (n : Int) ≤ (c : Int) := by omega
  have i3 : (0 : Int) ≤ (a : Int) := by omega
  have i4 : (a : Int) ≤ (n : Int) := by omega
  simp [Instr.sliceAt, Instr.slice, Instr.sliceBounds, Instr.sliceBound, run_underlying hu, Sem.run_bind, Sem.run_pure, Result.andThen, asIntOf, hz, i3, h1, h2]
theorem lists_dropI {w : World} {B : Nat} {A : Option Addr} {L : List Int} (h : Lists w B A (intCells L)) (a c : Nat) (h1 : a ≤ L.length) (h2 : L.length ≤ c) : Lists w B (if c = a then A else A.map (·.add a)) (intCells (L.drop a)) := by
  have e : intCells (L.drop a) = ((intCells L).drop a).take (L.length - a) := by
    unfold intCells
    rw [List.map_drop, List.take_of_length_le (by simp)]
  rw [e]
  by_cases hc : c = a
  · rw [if_pos hc, show L.length - a = 0 by omega, List.take_zero]
    exact ⟨fun _ => rfl, fun _ _ j u hu => by simp at hu, fun _ _ hx => absurd rfl hx⟩
  · rw [if_neg hc]
    exact lists_part h a (L.length - a)
set_option maxRecDepth 100000 in
set_option maxHeartbeats 2000000 in
theorem put_no (q : Nat) (nv : Value) (At : Option Addr) (ct : Nat) (a b : Int) (St ds : List Int) (low : List Int) (w : World) (hs : Sk w q nv (low ++ [a, b]) St ds) (hL : Lists w w.heap.size At (intCells [a, b])) (hi : ¬ (0 ≤ b / 65536 ∧ b / 65536 < 32)) :
    Calls Try.prog 58 #[.pointer (some ⟨q, 0, none⟩), .slice At 2 ct] w (Res q nv w 170 [] (low ++ [a, b]) St ds) := by
  have HS := Lib.hid hs
  obtain ⟨b0, o0, rfl, hbl, hce⟩ := hL.plain (by simp [intCells])
  have Ca : ∀ V, Below w.heap.size w V → V.cell? ⟨b0, o0, none⟩ = some (.int .i64 a) := fun V hV => (hV.cell (p := ⟨b0, o0, none⟩) (by simp; omega)).trans (hce 0 _ rfl)
  have ya := Ca w (Below.refl _ _)
  have Cb : ∀ V, Below w.heap.size w V → V.cell? ⟨b0, o0 + 1, none⟩ = some (.int .i64 b) := fun V hV => (hV.cell (p := ⟨b0, o0 + 1, none⟩) (by simp; omega)).trans (hce 1 _ rfl)
  have yb := Cb w (Below.refl _ _)
  have ha : mayB b = true := hs.may b (by simp)
  have CW := fun W => whole_may b W ha
  have CI := fun W => isPlace_any (b / 65536) W
  rw [show decide (0 ≤ b / 65536 ∧ b / 65536 < 32) = false by simpa using hi] at CI
  generalize b / 65536 = x at *
  clear hs hL hce ha hi
  go_enter Try.func58, Try.ntmps58
  go_wp2_with (first | (go_at_call 71; ((with_reducible refine (CW _).mono ?_); rintro e w2 ⟨rfl, rfl⟩)) | (go_at_call 73; ((with_reducible refine (CI _).mono ?_); rintro e w3 ⟨rfl, rfl⟩)))
  go_ret2
  exact ⟨none, 0, rfl, Lists.empty _ _ _, HS.out, Mod.refl _ _ _⟩
set_option maxRecDepth 100000 in
set_option maxHeartbeats 2000000 in
theorem put_yes (q : Nat) (nv : Value) (At : Option Addr) (ct : Nat) (a b : Int) (St ds : List Int) (low : List Int) (i : Nat) (w : World) (hs : Sk w q nv (low ++ [a, b]) St ds) (hL : Lists w w.heap.size At (intCells [a, b])) (hi : b / 65536 = (i : Int)) (h32 : i < 32) :
    Calls Try.prog 58 #[.pointer (some ⟨q, 0, none⟩), .slice At 2 ct] w (Res q nv w 0 [] (low ++ [a, b]) (St.set i a) ds) := by
  have HS := Lib.hid hs
  obtain ⟨b0, o0, rfl, hbl, hce⟩ := hL.plain (by simp [intCells])
  have Ca : ∀ V, Below w.heap.size w V → V.cell? ⟨b0, o0, none⟩ = some (.int .i64 a) := fun V hV => (hV.cell (p := ⟨b0, o0, none⟩) (by simp; omega)).trans (hce 0 _ rfl)
  have ya := Ca w (Below.refl _ _)
  have Cb : ∀ V, Below w.heap.size w V → V.cell? ⟨b0, o0 + 1, none⟩ = some (.int .i64 b) := fun V hV => (hV.cell (p := ⟨b0, o0 + 1, none⟩) (by simp; omega)).trans (hce 1 _ rfl)
  have yb := Cb w (Below.refl _ _)
  have ha : mayB b = true := hs.may b (by simp)
  have CW := fun W => whole_may b W ha
  have CI := fun W => isPlace_any (b / 65536) W
  rw [show decide (0 ≤ b / 65536 ∧ b / 65536 < 32) = true by simp; omega] at CI
  rw [hi] at CW CI
  have hi2 : (i : Int) < 32 := by omega
  have P := fun W (b : Below w.heap.size w W) => (hs.below b).setSt i h32 a (hs.may a (by simp))
  obtain ⟨A, c, hb, hls, hcc⟩ := hs.blk
  have ci := hb.cell (1 + i)
  rw [sk_ci _ _ _ _ (by rw [hs.st]; exact h32)] at ci
  have hq := hs.lt
  have C1 : ∀ V, Below w.heap.size w V → V.cell? ⟨q, 1 + i, none⟩ = some (.int .i64 (St.getD i 0)) := fun V hV => (hV.cell (p := ⟨q, 1 + i, none⟩) hq).trans ci
  have F1 : ∀ V, Below w.heap.size w V → V.frozen? ⟨q, 1 + i, none⟩ = false := fun V hV => (hb.below hV).frozen _
  clear hs hL hce ha hi hb hls hcc ci
  go_enter Try.func58, Try.ntmps58
  go_wp2_with (first | (go_at_call 71; ((with_reducible refine (CW _).mono ?_); rintro e w2 ⟨rfl, rfl⟩)) | (go_at_call 73; ((with_reducible refine (CI _).mono ?_); rintro e w3 ⟨rfl, rfl⟩)))
  have hI : Below w.heap.size w w.drew := (Below.refl _ _).drew
  refine wp_region_chain_last (fun V => Below w.heap.size w V) [(0, false), (1, false), (2, false), (3, false), (4, false), (5, false), (6, false), (7, false)] _ _ (by rfl) (by rfl) (by kernel_rfl) (by kernel_rfl) hI ?_
  repeat (first
    | (refine ChainL.skip (o := ?_) ?_ ?_ ?_; rotate_left; (focus (first | (simp only [List.getElem?_toArray, List.getElem?_cons_succ, List.getElem?_cons_zero]; with_reducible rfl) | (simp only [List.getElem?_toArray, List.getElem?_cons_zero]; with_reducible rfl))); (focus rfl); simp only [Act.put, List.setIfInBounds_toArray, List.set_cons_zero, List.set_cons_succ])
    | (refine ChainL.val (o := ?_) (v := ?_) ?_ ?_ ?_ ?_ ?_; rotate_left 2; (focus (first | (simp only [List.getElem?_toArray, List.getElem?_cons_succ, List.getElem?_cons_zero]; with_reducible rfl) | (simp only [List.getElem?_toArray, List.getElem?_cons_zero]; with_reducible rfl))); (focus (intro _ _ h; cases h)); (focus rfl); (focus (intro w' hJ; have ya := Ca _ hJ; have y9 := C1 _ hJ; have z9 := F1 _ hJ; go_simp <;> with_reducible rfl)); simp only [Act.put, List.setIfInBounds_toArray, List.set_cons_zero, List.set_cons_succ]))
  refine ChainL.nil ?_
  have y9 := C1 _ hI
  have z9 := F1 _ hI
  go_wp2
  go_ret2
  exact ⟨none, 0, rfl, Lists.empty _ _ _, (P _ hI).1, (Mod.below hI).trans (P _ hI).2⟩
set_option maxRecDepth 100000 in
set_option maxHeartbeats 2000000 in
theorem get_no (q : Nat) (nv : Value) (At : Option Addr) (ct : Nat) (a : Int) (St ds : List Int) (low : List Int) (w : World) (hs : Sk w q nv (low ++ [a]) St ds) (hL : Lists w w.heap.size At (intCells [a])) (hi : ¬ (0 ≤ a / 65536 ∧ a / 65536 < 32)) :
    Calls Try.prog 59 #[.pointer (some ⟨q, 0, none⟩), .slice At 1 ct] w (Res q nv w 170 [] (low ++ [a]) St ds) := by
  have HS := Lib.hid hs
  obtain ⟨b0, o0, rfl, hbl, hce⟩ := hL.plain (by simp [intCells])
  have Ca : ∀ V, Below w.heap.size w V → V.cell? ⟨b0, o0, none⟩ = some (.int .i64 a) := fun V hV => (hV.cell (p := ⟨b0, o0, none⟩) (by simp; omega)).trans (hce 0 _ rfl)
  have ya := Ca w (Below.refl _ _)
  have ha : mayB a = true := hs.may a (by simp)
  have CW := fun W => whole_may a W ha
  have CI := fun W => isPlace_any (a / 65536) W
  rw [show decide (0 ≤ a / 65536 ∧ a / 65536 < 32) = false by simpa using hi] at CI
  generalize a / 65536 = x at *
  clear hs hL hce ha hi
  go_enter Try.func59, Try.ntmps59
  go_wp2_with (first | (go_at_call 71; ((with_reducible refine (CW _).mono ?_); rintro e w2 ⟨rfl, rfl⟩)) | (go_at_call 73; ((with_reducible refine (CI _).mono ?_); rintro e w3 ⟨rfl, rfl⟩)))
  go_ret2
  exact ⟨none, 0, rfl, Lists.empty _ _ _, HS.out, Mod.refl _ _ _⟩
set_option maxRecDepth 100000 in
set_option maxHeartbeats 2000000 in
theorem get_yes (q : Nat) (nv : Value) (At : Option Addr) (ct : Nat) (a : Int) (St ds : List Int) (low : List Int) (i : Nat) (w : World) (hs : Sk w q nv (low ++ [a]) St ds) (hL : Lists w w.heap.size At (intCells [a])) (hi : a / 65536 = (i : Int)) (h32 : i < 32) :
    Calls Try.prog 59 #[.pointer (some ⟨q, 0, none⟩), .slice At 1 ct] w (Res q nv w 0 [St.getD i 0] (low ++ [a]) St ds) := by
  have HS := Lib.hid hs
  obtain ⟨b0, o0, rfl, hbl, hce⟩ := hL.plain (by simp [intCells])
  have Ca : ∀ V, Below w.heap.size w V → V.cell? ⟨b0, o0, none⟩ = some (.int .i64 a) := fun V hV => (hV.cell (p := ⟨b0, o0, none⟩) (by simp; omega)).trans (hce 0 _ rfl)
  have ya := Ca w (Below.refl _ _)
  have ha : mayB a = true := hs.may a (by simp)
  have CW := fun W => whole_may a W ha
  have CI := fun W => isPlace_any (a / 65536) W
  rw [show decide (0 ≤ a / 65536 ∧ a / 65536 < 32) = true by simp; omega] at CI
  rw [hi] at CW CI
  have hi2 : (i : Int) < 32 := by omega
  obtain ⟨A, c, hb, hls, hcc⟩ := hs.blk
  have ci := hb.cell (1 + i)
  rw [sk_ci _ _ _ _ (by rw [hs.st]; exact h32)] at ci
  have hq := hs.lt
  have C1 : ∀ V, Below w.heap.size w V → V.cell? ⟨q, 1 + i, none⟩ = some (.int .i64 (St.getD i 0)) := fun V hV => (hV.cell (p := ⟨q, 1 + i, none⟩) hq).trans ci
  have F1 : ∀ V, Below w.heap.size w V → V.frozen? ⟨q, 1 + i, none⟩ = false := fun V hV => (hb.below hV).frozen _
  clear hs hL hce ha hi hb hls hcc ci
  have y1 := C1 w (Below.refl _ _)
  go_enter Try.func59, Try.ntmps59
  go_wp2_with (first | (go_at_call 71; ((with_reducible refine (CW _).mono ?_); rintro e w2 ⟨rfl, rfl⟩)) | (go_at_call 73; ((with_reducible refine (CI _).mono ?_); rintro e w3 ⟨rfl, rfl⟩)))
  go_ret2
  exact ⟨some ⟨w.heap.size, 0, none⟩, 1, rfl, (lists_row w [_] 3).more (by simp), HS.out.below ((Below.refl _ _).alloc (Nat.le_refl _) _), Mod.below ((Below.refl _ _).alloc (Nat.le_refl _) _)⟩
set_option maxRecDepth 100000 in
set_option maxHeartbeats 2000000 in
theorem random_nil (q : Nat) (nv : Value) (At : Option Addr) (k ct : Nat) (L St : List Int) (w : World) (hs : Sk w q nv L St []) :
    Calls Try.prog 60 #[.pointer (some ⟨q, 0, none⟩), .slice At k ct] w (Res q nv w 0 [65536] L St []) := by
  have HS := Lib.hid hs
  obtain ⟨A, c, hb, hls, hcc⟩ := hs.blk
  have c33 := hb.cell 33
  rw [sk_c33 _ _ _ hs.st, List.length_nil] at c33
  clear hs hb hls hcc
  go_enter Try.func60, Try.ntmps60
  go_wp2
  go_ret2
  exact ⟨some ⟨w.heap.size, 0, none⟩, 1, rfl, (lists_row w [_] 3).more (by simp), HS.out.below ((Below.refl _ _).alloc (Nat.le_refl _) _), Mod.below ((Below.refl _ _).alloc (Nat.le_refl _) _)⟩
set_option maxRecDepth 100000 in
set_option maxHeartbeats 2000000 in
theorem random_more (q : Nat) (nv : Value) (At : Option Addr) (k ct : Nat) (L St r : List Int) (d : Int) (w : World) (hs : Sk w q nv L St (d :: r)) :
    Calls Try.prog 60 #[.pointer (some ⟨q, 0, none⟩), .slice At k ct] w (Res q nv w 0 [d % 65536 + 1] L St r) := by
  have HS := Lib.hid hs
  obtain ⟨A, c, hb, hls, hcc⟩ := hs.blk
  have c33 := hb.cell 33
  rw [sk_c33 _ _ _ hs.st] at c33
  have f33 := hb.frozen 33
  obtain ⟨n, hn⟩ : ∃ n, n = r.length := ⟨_, rfl⟩
  rw [List.length_cons, ← hn] at c33 hcc
  have SO : ∀ W, (Instr.sliceAt 22 (.slice A (n + 1) c) (some (.int .i64 1)) none none).run Try.prog W = .ok (.slice (if c = 1 then A else A.map (·.add 1)) n (c - 1)) W := fun W => slice_okI A (n + 1) c 1 (by omega) hcc W
  have hld := lists_dropI hls 1 c (by simp) (by rw [List.length_cons, ← hn]; exact hcc)
  rw [show (d :: r).drop 1 = r from rfl] at hld
  obtain ⟨b0, o0, rfl, hbl, hce⟩ := hls.plain (by simp [intCells])
  have y0 := hce 0 (.int .i64 d) rfl
  simp only [Nat.add_zero] at y0
  have d1 : decide (((n : Int) + 1) = 0) = false := by simp; omega
  have d2 : (((n : Int) + 1) == 0) = false := by simp; omega
  have hn1 : (0 : Int) < (n : Int) + 1 := by omega
  have CM := fun W => modulo_any d 65536 W (by omega) (by omega)
  have h0 := Int.emod_nonneg d (show (65536 : Int) ≠ 0 by omega)
  have h1 := Int.emod_lt_of_pos d (show (0 : Int) < 65536 by omega)
  generalize d % 65536 = x at *
  generalize (if c = 1 then some (⟨b0, o0, none⟩ : Addr) else (some (⟨b0, o0, none⟩ : Addr)).map (·.add 1)) = A2 at *
  have P := hs.setDs A2 (c - 1) r hld (by omega)
  rw [← hn] at P
  clear hs hb hls hcc hce hld hn
  go_enter Try.func60, Try.ntmps60
  go_wp2_with (go_at_call 72; ((with_reducible refine (CM _).mono ?_); rintro e w2 ⟨rfl, rfl⟩))
  go_ret2
  exact ⟨some ⟨_, 0, none⟩, 1, rfl, (lists_row_at (w.setCell ⟨q, 33, none⟩ (.slice A2 n (c - 1))) [.int .i64 (x + 1)] 3 w.heap.size (by simp)).more (by simp), P.1.below ((Below.refl _ _).alloc (Nat.le_refl _) _), P.2.trans (Mod.below ((Below.refl _ _).alloc (Nat.le_refl _) _))⟩
end Go.Proofs.Ytkhafhdmcalhbaa

namespace Go.Proofs.Ytkhafhdmcalhbaa
open Go Go.RowKit
set_option linter.unusedVariables false
set_option linter.unusedSimpArgs false
set_option maxRecDepth 100000 in
set_option maxHeartbeats 2000000 in
theorem roll_neg (q : Nat) (nv : Value) (At : Option Addr) (ct : Nat) (a b : Int) (St ds : List Int) (low : List Int) (w : World) (hs : Sk w q nv (low ++ [a, b]) St ds) (hL : Lists w w.heap.size At (intCells [a, b])) (hx : a / 65536 < 0) :
    Calls Try.prog 57 #[.pointer (some ⟨q, 0, none⟩), .slice At 2 ct] w (Res q nv w 170 [] (low ++ [a, b]) St ds) := by
  have HS := Lib.hid hs
  obtain ⟨b0, o0, rfl, hbl, hce⟩ := hL.plain (by simp [intCells])
  have Ca : ∀ V, Below w.heap.size w V → V.cell? ⟨b0, o0, none⟩ = some (.int .i64 a) := fun V hV => (hV.cell (p := ⟨b0, o0, none⟩) (by simp; omega)).trans (hce 0 _ rfl)
  have ya := Ca w (Below.refl _ _)
  have Cb : ∀ V, Below w.heap.size w V → V.cell? ⟨b0, o0 + 1, none⟩ = some (.int .i64 b) := fun V hV => (hV.cell (p := ⟨b0, o0 + 1, none⟩) (by simp; omega)).trans (hce 1 _ rfl)
  have yb := Cb w (Below.refl _ _)
  obtain ⟨A0, n0, rfl, hl0, hn0⟩ := own_lists hs.own
  have hma : mayB a = true := hs.may a (by simp)
  have hmb : mayB b = true := hs.may b (by simp)
  have CWa := fun W => whole_may a W hma
  have CWb := fun W => whole_may b W hmb
  have l1 := mayB_lo hmb
  have l2 := mayB_hi hmb
  obtain ⟨l, hl⟩ : ∃ l, l = low.length := ⟨_, rfl⟩
  have hlen : (low ++ [a, b]).length = l + 2 := by rw [List.length_append, ← hl]; rfl
  have hl48 : l + 2 ≤ 48 := by rw [← hlen]; exact hs.len
  have CB := below_any q A0 (l + 2) 2 n0 (low ++ [a, b]) St ds (some ⟨b0, o0, none⟩) ct w (by rw [hlen] at hs; exact hs) hlen.symm (by omega)
  rw [Nat.add_sub_cancel] at CB
  
  generalize a / 65536 = x at *
  generalize b / 65536 = y at *
  have d1 : decide (x < 0) = true := by simpa using hx
  
  
  clear hs hL hce hl0 hlen hl48 hl hn0 hma hmb l1 l2 hx
  go_enter Try.func57, Try.ntmps57
  go_wp2_with (go_at_call 70; ((with_reducible refine (CB).mono ?_); rintro e w1 ⟨rfl, b1⟩))
  have b2 : Below w.heap.size w w1.drew := b1.drew
  refine wp_region_plan (fun V => Below w.heap.size w V) _ rfl (by kernel_rfl) (by kernel_rfl) (b2) ?_
  repeat (first
    | (refine PlanL.skip (by rfl) ?_; simp only [Act.put, List.setIfInBounds_toArray, List.set_cons_zero, List.set_cons_succ])
    | (refine PlanL.val (v := ?_) (by rfl) ?_ ?_; rotate_left; (focus (intro w' hS; have ya := Ca _ hS; have yb := Cb _ hS; go_simp <;> with_reducible rfl)); try simp only [Act.put, List.setIfInBounds_toArray, List.set_cons_zero, List.set_cons_succ])
    | (refine PlanL.call (v := ?_) (f := ?_) (args := ?_) (by rfl) ?_ ?_ ?_; rotate_left 3; (focus (intro w' hS; have ya := Ca _ hS; have yb := Cb _ hS; go_simp; (constructor <;> with_reducible rfl))); (focus (intro w' hS; first | ((with_reducible refine (CWa _).mono ?_); rintro e w'' ⟨rfl, rfl⟩; refine ⟨?_, hS⟩; with_reducible rfl) | ((with_reducible refine (CWb _).mono ?_); rintro e w'' ⟨rfl, rfl⟩; refine ⟨?_, hS⟩; with_reducible rfl) | fail)); try simp only [Act.put, List.setIfInBounds_toArray, List.set_cons_zero, List.set_cons_succ]))
  refine PlanL.nil ?_
  intro w' hS
  have ya := Ca _ hS; have yb := Cb _ hS

  go_wp2
  go_ret2
  exact ⟨none, 0, rfl, Lists.empty _ _ _, HS.out.below hS, Mod.below hS⟩
set_option maxRecDepth 100000 in
set_option maxHeartbeats 2000000 in
theorem roll_many (q : Nat) (nv : Value) (At : Option Addr) (ct : Nat) (a b : Int) (St ds : List Int) (low : List Int) (w : World) (hs : Sk w q nv (low ++ [a, b]) St ds) (hL : Lists w w.heap.size At (intCells [a, b])) (hx : 0 ≤ a / 65536) (hy : (low.length : Int) < a / 65536) :
    Calls Try.prog 57 #[.pointer (some ⟨q, 0, none⟩), .slice At 2 ct] w (Res q nv w 170 [] (low ++ [a, b]) St ds) := by
  have HS := Lib.hid hs
  obtain ⟨b0, o0, rfl, hbl, hce⟩ := hL.plain (by simp [intCells])
  have Ca : ∀ V, Below w.heap.size w V → V.cell? ⟨b0, o0, none⟩ = some (.int .i64 a) := fun V hV => (hV.cell (p := ⟨b0, o0, none⟩) (by simp; omega)).trans (hce 0 _ rfl)
  have ya := Ca w (Below.refl _ _)
  have Cb : ∀ V, Below w.heap.size w V → V.cell? ⟨b0, o0 + 1, none⟩ = some (.int .i64 b) := fun V hV => (hV.cell (p := ⟨b0, o0 + 1, none⟩) (by simp; omega)).trans (hce 1 _ rfl)
  have yb := Cb w (Below.refl _ _)
  obtain ⟨A0, n0, rfl, hl0, hn0⟩ := own_lists hs.own
  have hma : mayB a = true := hs.may a (by simp)
  have hmb : mayB b = true := hs.may b (by simp)
  have CWa := fun W => whole_may a W hma
  have CWb := fun W => whole_may b W hmb
  have l1 := mayB_lo hmb
  have l2 := mayB_hi hmb
  obtain ⟨l, hl⟩ : ∃ l, l = low.length := ⟨_, rfl⟩
  have hlen : (low ++ [a, b]).length = l + 2 := by rw [List.length_append, ← hl]; rfl
  have hl48 : l + 2 ≤ 48 := by rw [← hlen]; exact hs.len
  have CB := below_any q A0 (l + 2) 2 n0 (low ++ [a, b]) St ds (some ⟨b0, o0, none⟩) ct w (by rw [hlen] at hs; exact hs) hlen.symm (by omega)
  rw [Nat.add_sub_cancel] at CB
  rw [← hl] at hy
  generalize a / 65536 = x at *
  generalize b / 65536 = y at *
  have d1 : decide (x < 0) = false := by simpa using hx
  have d2 : decide (x > (l : Int)) = true := by simpa using hy
  have d3 : decide ((l : Int) < x) = true := by simpa using hy
  clear hs hL hce hl0 hlen hl48 hl hn0 hma hmb l1 l2 hx hy
  go_enter Try.func57, Try.ntmps57
  go_wp2_with (go_at_call 70; ((with_reducible refine (CB).mono ?_); rintro e w1 ⟨rfl, b1⟩))
  have b2 : Below w.heap.size w w1.drew := b1.drew
  refine wp_region_plan (fun V => Below w.heap.size w V) _ rfl (by kernel_rfl) (by kernel_rfl) (b2) ?_
  repeat (first
    | (refine PlanL.skip (by rfl) ?_; simp only [Act.put, List.setIfInBounds_toArray, List.set_cons_zero, List.set_cons_succ])
    | (refine PlanL.val (v := ?_) (by rfl) ?_ ?_; rotate_left; (focus (intro w' hS; have ya := Ca _ hS; have yb := Cb _ hS; go_simp <;> with_reducible rfl)); try simp only [Act.put, List.setIfInBounds_toArray, List.set_cons_zero, List.set_cons_succ])
    | (refine PlanL.call (v := ?_) (f := ?_) (args := ?_) (by rfl) ?_ ?_ ?_; rotate_left 3; (focus (intro w' hS; have ya := Ca _ hS; have yb := Cb _ hS; go_simp; (constructor <;> with_reducible rfl))); (focus (intro w' hS; first | ((with_reducible refine (CWa _).mono ?_); rintro e w'' ⟨rfl, rfl⟩; refine ⟨?_, hS⟩; with_reducible rfl) | ((with_reducible refine (CWb _).mono ?_); rintro e w'' ⟨rfl, rfl⟩; refine ⟨?_, hS⟩; with_reducible rfl) | fail)); try simp only [Act.put, List.setIfInBounds_toArray, List.set_cons_zero, List.set_cons_succ]))
  refine PlanL.nil ?_
  intro w' hS
  have ya := Ca _ hS; have yb := Cb _ hS

  go_wp2
  go_ret2
  exact ⟨none, 0, rfl, Lists.empty _ _ _, HS.out.below hS, Mod.below hS⟩
set_option maxRecDepth 100000 in
set_option maxHeartbeats 2000000 in
theorem roll_yes (q : Nat) (nv : Value) (At : Option Addr) (ct : Nat) (a b : Int) (St ds : List Int) (low l0 : List Int) (w : World) (hs : Sk w q nv (low ++ l0 ++ [a, b]) St ds) (hL : Lists w w.heap.size At (intCells [a, b])) (hx : a / 65536 = (l0.length : Nat)) :
    Calls Try.prog 57 #[.pointer (some ⟨q, 0, none⟩), .slice At 2 ct] w (Res q nv w 0 [] (low ++ rot l0 (b / 65536) ++ [a, b]) St ds) := by
  have HS := Lib.hid hs
  obtain ⟨b0, o0, rfl, hbl, hce⟩ := hL.plain (by simp [intCells])
  have Ca : ∀ V, Below w.heap.size w V → V.cell? ⟨b0, o0, none⟩ = some (.int .i64 a) := fun V hV => (hV.cell (p := ⟨b0, o0, none⟩) (by simp; omega)).trans (hce 0 _ rfl)
  have ya := Ca w (Below.refl _ _)
  have Cb : ∀ V, Below w.heap.size w V → V.cell? ⟨b0, o0 + 1, none⟩ = some (.int .i64 b) := fun V hV => (hV.cell (p := ⟨b0, o0 + 1, none⟩) (by simp; omega)).trans (hce 1 _ rfl)
  have yb := Cb w (Below.refl _ _)
  obtain ⟨A0, n0, rfl, hl0, hn0⟩ := own_lists hs.own
  have hma : mayB a = true := hs.may a (by simp)
  have hmb : mayB b = true := hs.may b (by simp)
  have CWa := fun W => whole_may a W hma
  have CWb := fun W => whole_may b W hmb
  have l1 := mayB_lo hmb
  have l2 := mayB_hi hmb
  obtain ⟨n, hn⟩ : ∃ n, n = l0.length := ⟨_, rfl⟩
  obtain ⟨m, hm⟩ : ∃ m, m = low.length := ⟨_, rfl⟩
  have hlen : (low ++ l0 ++ [a, b]).length = m + n + 2 := by rw [List.length_append, List.length_append, ← hn, ← hm]; rfl
  have hl48 : m + n + 2 ≤ 48 := by rw [← hlen]; exact hs.len
  have CB := below_any q A0 (m + n + 2) 2 n0 (low ++ l0 ++ [a, b]) St ds (some ⟨b0, o0, none⟩) ct w (by rw [hlen] at hs; exact hs) hlen.symm (by omega)
  rw [Nat.add_sub_cancel] at CB
  rw [hlen] at hn0
  rw [hx, ← hn] at CWa
  -- the row lies at g
  obtain ⟨g, rfl⟩ : ∃ g, A0 = some ⟨g, 0, none⟩ := by
    rcases hs.own.2 with ⟨_, h2⟩ | ⟨g, _, _, h1, _⟩
    · rw [hlen] at h2; omega
    · cases h1; exact ⟨g, rfl⟩
  have hdrop : intCells l0 = ((intCells (low ++ l0 ++ [a, b])).drop m).take n := by
    rw [intCells_app, intCells_app, List.append_assoc, List.drop_left' (by rw [intCells_len]; exact hm.symm), List.take_left' (by rw [intCells_len]; exact hn.symm)]
  have hl1 : Lists w w.heap.size (some ⟨g, m, none⟩) (intCells l0) := by
    rw [hdrop]
    have h := lists_part hl0 m n
    rwa [show (some (⟨g, 0, none⟩ : Addr)).map (·.add m) = some ⟨g, m, none⟩ by simp [addr_plain]] at h
  have SL : ∀ W, (Instr.sliceAt 22 (.slice (some ⟨g, 0, none⟩) (m + n) n0) (some (.int .i64 (m : Nat))) none none).run Try.prog W = .ok (.slice (some ⟨g, m, none⟩) n (n0 - m)) W := fun W => by
    have h := slice_okI (some ⟨g, 0, none⟩) (m + n) n0 m (by omega) (by omega) W
    rwa [if_neg (by omega), show (some (⟨g, 0, none⟩ : Addr)).map (·.add m) = some ⟨g, m, none⟩ by simp [addr_plain], Nat.add_sub_cancel_left] at h
  have CC := fun W (hb : Below w.heap.size w W) => cloneI_any w.heap.size (some ⟨g, m, none⟩) (n0 - m) l0 W hb.size (hl1.below hb) (by omega)
  rw [← hn] at CC
  obtain ⟨j, hj⟩ : ∃ j, j = b / 65536 := ⟨_, rfl⟩
  have hjl : -32768 ≤ j := by omega
  have hjh : j ≤ 32768 := by omega
  rw [← hj] at CWb ⊢
  have e1 : wrap64 (((m + n : Nat) : Int) - (n : Int)) = (m : Int) := by simp [wrap64]; omega
  have d1 : decide ((n : Int) < 0) = false := by simp
  have d2 : decide ((n : Int) > ((m + n : Nat) : Int)) = false := by simp; omega
  have d3 : decide (((m + n : Nat) : Int) < (n : Int)) = false := by simp; omega
  have HN := Lib.hid hn
  have HM := Lib.hid hm
  obtain ⟨s, hs'⟩ : ∃ s, s = m + n := ⟨_, rfl⟩
  have HSS := Lib.hid hs'
  have H48 := Lib.hid hl48
  have HN0 := Lib.hid hn0
  have HJ := Lib.hid (And.intro hjl hjh)
  rw [← hs'] at CB SL e1 d2 d3
  have d4 : decide (s < n) = false := by simp; omega
  have d5 : (s < n) = False := by simp; omega
  clear hs hL hce hl0 hlen hl48 hn0 hma hmb l1 l2 hx hdrop hl1 hn hm hs' hj hjl hjh
  go_enter Try.func57, Try.ntmps57
  go_wp2_with (go_at_call 70; ((with_reducible refine (CB).mono ?_); rintro e w1 ⟨rfl, b1⟩))
  have b2 : Below w.heap.size w w1.drew := b1.drew
  refine wp_region_plan (fun V => Below w.heap.size w V) _ rfl (by kernel_rfl) (by kernel_rfl) (b2) ?_
  repeat (first
    | (refine PlanL.skip (by rfl) ?_; simp only [Act.put, List.setIfInBounds_toArray, List.set_cons_zero, List.set_cons_succ])
    | (refine PlanL.val (v := ?_) (by rfl) ?_ ?_; rotate_left; (focus (intro w' hS; have ya := Ca _ hS; have yb := Cb _ hS; go_simp <;> with_reducible rfl)); try simp only [Act.put, List.setIfInBounds_toArray, List.set_cons_zero, List.set_cons_succ])
    | (refine PlanL.call (v := ?_) (f := ?_) (args := ?_) (by rfl) ?_ ?_ ?_; rotate_left 3; (focus (intro w' hS; have ya := Ca _ hS; have yb := Cb _ hS; go_simp; (constructor <;> with_reducible rfl))); (focus (intro w' hS; first | ((with_reducible refine (CWa _).mono ?_); rintro e w'' ⟨rfl, rfl⟩; refine ⟨?_, hS⟩; with_reducible rfl) | ((with_reducible refine (CWb _).mono ?_); rintro e w'' ⟨rfl, rfl⟩; refine ⟨?_, hS⟩; with_reducible rfl) | fail)); try simp only [Act.put, List.setIfInBounds_toArray, List.set_cons_zero, List.set_cons_succ]))
  refine PlanL.nil ?_
  intro w' hS
  have ya := Ca _ hS; have yb := Cb _ hS

  have HLZ := Lib.hid (show n = l0.length from HN.out)
  go_wp2_with (go_at_call 24; ((with_reducible refine (CC _ hS).mono ?_); rintro e w3 ⟨v3, rfl, own3, b3⟩); obtain ⟨A3, c3, rfl, hl3, hc3⟩ := own_lists own3; have HL3 := Lib.hid own3; clear hl3 own3)
  have b4 : Below w.heap.size w w3 := hS.trans (b3.mono hS.size)
  have HS3 := Lib.hid (HS.out.below b4)
  have HM3 := Lib.hid (Mod.below (q := q) (nv := (.slice (some ⟨g, 0, none⟩) (low ++ l0 ++ [a, b]).length n0)) b4)
  have hqw := HS.out.lt
  have hgw : g < w.heap.size := blk_lt HS.out.own g (by simp [blk, Value.ownBlock])
  have hsz := hS.size
  clear HS b3 hS b4
  go_loopw [42] (fun iv wr => ∃ (k : Nat) (C : List Int), k ≤ n ∧ iv = .int .i64 (k : Nat) ∧ Hid (Turned l0 j k C) ∧ Hid (Sk wr q (.slice (some ⟨g, 0, none⟩) (low ++ l0 ++ [a, b]).length n0) (low ++ C ++ [a, b]) St ds) ∧ Hid (wr.ownsRow w'.heap.size 3 1 (.slice A3 n c3) n (intCells l0)) ∧ Hid (Mod w wr q (.slice (some ⟨g, 0, none⟩) (low ++ l0 ++ [a, b]).length n0) (.slice (some ⟨g, 0, none⟩) (low ++ l0 ++ [a, b]).length n0))) (fun iv _ => n - (intOf iv).toNat)
  case atStart => exact ⟨0, l0, Nat.zero_le _, rfl, Lib.hid (Turned.start rfl), HS3, HL3, HM3⟩
  case round =>
    obtain ⟨k, C, hk, rfl, HT, HK, HL, HO⟩ := hrel
    by_cases hlt : k < n
    · have q1 : decide ((k : Int) < (n : Int)) = true := by simp; omega
      obtain ⟨x, hx⟩ : ∃ x, l0[k]? = some x := ⟨l0[k]'(by rw [← HN.out]; exact hlt), List.getElem?_eq_getElem _⟩
      have hne : intCells l0 ≠ [] := by intro e; have h1 := congrArg List.length e; rw [intCells_len, ← HN.out] at h1; simp at h1; omega
      have hlo := own_lowS HL.out
      obtain ⟨_, _, he5, hl5, _⟩ := own_lists HL.out
      injection he5 with he1 he2 he3
      subst he1
      clear he2 he3
      obtain ⟨b5, o5, hA, hb5, hc5⟩ := hl5.plain hne
      subst hA
      have yk := hc5 k (.int .i64 x) (by simp [intCells, hx])
      have hj := HJ.out
      have hn48 : n ≤ 48 := by have := H48.out; omega
      have CM := fun W => modulo_any ((k : Int) + j) (n : Int) W (by omega) (by omega)
      have p0 := Int.emod_nonneg ((k : Int) + j) (show (n : Int) ≠ 0 by omega)
      have p1 := Int.emod_lt_of_pos ((k : Int) + j) (show (0 : Int) < (n : Int) by omega)
      obtain ⟨p, hp⟩ : ∃ p : Nat, ((k : Int) + j) % (n : Int) = (p : Int) := ⟨(((k : Int) + j) % (n : Int)).toNat, by omega⟩
      rw [hp] at CM p1
      have hpn : p < n := by omega
      have hown := HK.out.own
      obtain ⟨Aw, cw, he, hlw, _⟩ := own_lists hown
      injection he with he1 he2 he3
      subst he1
      clear he2 he3
      have hCl : C.length = n := by rw [HT.out.1, ← HN.out]
      have hgp : (intCells (low ++ C ++ [a, b]))[m + p]? = some (.int .i64 ((low ++ C ++ [a, b]).getD (m + p) 0)) := intCells_get _ _ (by rw [List.length_append, List.length_append, hCl, ← HM.out]; omega)
      have yp := hlw.cell _ rfl (m + p) _ hgp
      rw [addr_plain, Nat.zero_add] at yp
      have fp : wr.frozen? ⟨g, m + p, none⟩ = false := by
        rcases hown.2 with ⟨h1, _⟩ | ⟨_, _, _, h1, _, h3, _⟩
        · cases h1
        · injection h1 with h1 _ _
          injection h1 with h1
          injection h1 with h1
          subst h1
          exact Blk.frozen h3 _
      have P := HK.out.setN (m + p) x (by have hm := HS3.out.may x (by simp [List.mem_of_getElem? hx]); exact hm)
      have hset : (low ++ C ++ [a, b]).set (m + p) x = low ++ C.set p x ++ [a, b] := by
        rw [List.append_assoc, List.set_append_right _ _ (by rw [← HM.out]; omega), ← HM.out, Nat.add_sub_cancel_left, List.set_append_left _ _ (by rw [hCl]; exact hpn), ← List.append_assoc]
      rw [hset] at P
      have HP := Lib.hid P
      have HT2 := Lib.hid (show Turned l0 j (k + 1) (C.set p x) from by
        have h := HT.out.next hx
        rw [← HN.out, hp, Int.toNat_natCast] at h
        exact h)
      have HL2 := Lib.hid (own_only HL.out HP.out.2.1 (fun b hb hm => by
        have h1 := hlo b hb
        rcases List.mem_cons.1 hm with h2 | h2
        · omega
        · have h3 : b = g := by simpa [blk, Value.ownBlock] using h2
          omega))
      clear hown hlw hgp P hset hx hne hc5 hCl hl5 hlo
      go_wp2_with (go_at_call 72; ((with_reducible refine (CM _).mono ?_); rintro e w4 ⟨rfl, rfl⟩))
      go_roundw
      case rel => exact ⟨k + 1, C.set p x, by omega, by go_num, HT2, Lib.hid HP.out.1, HL2, Lib.hid (HO.out.trans HP.out.2)⟩
      case measure => simp [intOf]; omega
    · obtain rfl : k = n := by omega
      have q1 : decide ((k : Int) < (k : Int)) = false := by simp
      go_wp2
      go_ret2
      have hC := (show Turned l0 j l0.length C by rw [← HN.out]; exact HT.out).done
      subst hC
      exact ⟨none, 0, rfl, Lists.empty _ _ _, HK.out, HO.out⟩
end Go.Proofs.Ytkhafhdmcalhbaa

namespace Go.Proofs.Ytkhafhdmcalhbaa
open Go Go.RowKit
set_option linter.unusedVariables false
set_option linter.unusedSimpArgs false

theorem blk_len (A : Option Addr) (n c m d : Nat) : blk (.slice A n c) = blk (.slice A m d) := by cases A <;> rfl
theorem opSize : (Try.prog.info? 53).map (·.size) = some 6 := by kernel_rfl
set_option maxRecDepth 100000 in
set_option maxHeartbeats 2000000 in
theorem do_none (op : Int) (q : Nat) (nv : Value) (L St ds : List Int) (w : World) (hs : Sk w q nv L St ds) (hf : ∀ W, Calls Try.prog 26 #[.int .i64 op] W fun e w' => e = .returned (.tuple #[.agg (opL zOp).toArray, .bool false]) ∧ Below W.heap.size W w') :
    Calls Try.prog 14 #[.pointer (some ⟨q, 0, none⟩), .int .i64 op] w (Did q nv w 1 L St ds) := by
  have HS := Lib.hid hs
  clear hs
  go_enter Try.func14, Try.ntmps14
  go_wp2_with (first | (go_at_call 26; ((with_reducible refine (hf _).mono ?_); rintro e w1 ⟨rfl, b1⟩)) | (refine wpList_store_fresh rfl 53 (.tmp 5) (.tmp 15) (by rfl) (opL zOp).toArray _ _ (by rfl) (by rfl) (by kernel_rfl) (by kernel_rfl) (by kernel_rfl) ?_; intro W2 k2 b2 z2; have b12 : Below w.heap.size w W2 := b1.trans (b2.mono b1.size)))
  go_ret
  exact ⟨rfl, _, HS.out.below b12, Mod.below b12⟩
set_option maxRecDepth 100000 in
set_option maxHeartbeats 2000000 in
theorem do_short (op : Int) (k : Nat) (gr : Bool) (v1 v2 v3 : Value) (hone : (opL ⟨op, k, gr, v1, v2, v3⟩).toArray.all (·.oneCell') = true) (q : Nat) (nv : Value) (L St ds : List Int) (w : World) (hs : Sk w q nv L St ds) (hf : ∀ W, Calls Try.prog 26 #[.int .i64 op] W fun e w' => e = .returned (.tuple #[.agg (opL ⟨op, k, gr, v1, v2, v3⟩).toArray, .bool true]) ∧ Below W.heap.size W w') (hk : L.length < k) (hk2 : k ≤ 4) :
    Calls Try.prog 14 #[.pointer (some ⟨q, 0, none⟩), .int .i64 op] w (Did q nv w 170 L St ds) := by
  obtain ⟨A, c, hb, hls, hcc⟩ := hs.blk
  have c0 := hb.cell 0
  rw [sk_c0] at c0
  have hown := hs.own
  obtain ⟨A0, n0, rfl, hl0, hn0⟩ := own_lists hown
  have hq := hs.lt
  have HS := Lib.hid hs
  obtain ⟨n, hn⟩ : ∃ n, n = L.length := ⟨_, rfl⟩
  have hn48 : n ≤ 48 := by rw [hn]; exact hs.len
  rw [← hn] at c0 hn0
  have C0 : ∀ V, Below w.heap.size w V → V.cell? ⟨q, 0, none⟩ = some (.slice A0 n n0) := fun V hb' => (hb'.cell (p := ⟨q, 0, none⟩) hq).trans c0
  rw [← hn] at hk
  obtain ⟨z, hz⟩ : ∃ z : Int, z = (n : Int) - (k : Int) := ⟨_, rfl⟩
  have e1 : IntKind.i64.wrap ((n : Int) - (k : Int)) = z := by simp [IntKind.wrap, IntKind.bits, IntKind.signed]; omega
  have d1 : decide (z < 0) = true := by simp; omega
  clear hs hb hls hl0 hn0 hn hn48 hz hown hk hk2 hcc
  go_enter Try.func14, Try.ntmps14
  go_wp2_with (first | (go_at_call 26; ((with_reducible refine (hf _).mono ?_); rintro e w1 ⟨rfl, b1⟩)) | (refine wpList_store_fresh rfl 53 (.tmp 5) (.tmp 15) (by rfl) (opL ⟨op, k, gr, v1, v2, v3⟩).toArray _ _ (by rfl) (by rfl) (by kernel_rfl) (by kernel_rfl) (hone) ?_; intro W2 k2 b2 z2; have b12 : Below w.heap.size w W2 := b1.trans (b2.mono b1.size)))
  have K2 : ∀ V, Below W2.heap.size W2 V → V.cell? ⟨w1.heap.size, 1, none⟩ = some (.int .i64 (k : Nat)) := fun V hV => ((k2.below hV).cell 1).trans rfl
  have K3 : ∀ V, Below W2.heap.size W2 V → V.cell? ⟨w1.heap.size, 2, none⟩ = some (.bool gr) := fun V hV => ((k2.below hV).cell 2).trans rfl
  have D0 : ∀ V, Below W2.heap.size W2 V → V.cell? ⟨q, 0, none⟩ = some (.slice A0 n n0) := fun V hV => C0 V (b12.trans (hV.mono b12.size))
  have hI : Below W2.heap.size W2 W2.drew := (Below.refl _ _).drew
  refine wp_region_chain (fun V => Below W2.heap.size W2 V) [(0, false), (1, false), (2, false), (3, false), (4, false), (5, false), (6, false), (7, false), (8, false)] (by kernel_rfl) (by kernel_rfl) hI ?_
  repeat (first
    | (refine ChainL.skip (o := ?_) ?_ ?_ ?_; rotate_left; (focus (first | (simp only [List.getElem?_toArray, List.getElem?_cons_succ, List.getElem?_cons_zero]; with_reducible rfl) | (simp only [List.getElem?_toArray, List.getElem?_cons_zero]; with_reducible rfl))); (focus rfl); simp only [Act.put, List.setIfInBounds_toArray, List.set_cons_zero, List.set_cons_succ])
    | (refine ChainL.val (o := ?_) (v := ?_) ?_ ?_ ?_ ?_ ?_; rotate_left 2; (focus (first | (simp only [List.getElem?_toArray, List.getElem?_cons_succ, List.getElem?_cons_zero]; with_reducible rfl) | (simp only [List.getElem?_toArray, List.getElem?_cons_zero]; with_reducible rfl))); (focus (intro _ _ h; cases h)); (focus rfl); (focus (intro w' hJ; have y0 := D0 _ hJ; have y1 := K2 _ hJ; go_simp <;> with_reducible rfl)); simp only [Act.put, List.setIfInBounds_toArray, List.set_cons_zero, List.set_cons_succ]))
  refine ChainL.nil ?_
  have y0 := D0 _ hI
  have y2 := K3 _ hI
  go_wp2
  go_ret
  have b9 := b12.trans (hI.mono b12.size)
  exact ⟨rfl, _, HS.out.below b9, Mod.below b9⟩
set_option maxRecDepth 100000 in
set_option maxHeartbeats 2000000 in
theorem do_full (op : Int) (k : Nat) (gr : Bool) (v1 v2 v3 : Value) (hone : (opL ⟨op, k, gr, v1, v2, v3⟩).toArray.all (·.oneCell') = true) (q : Nat) (nv : Value) (L St ds : List Int) (w : World) (hs : Sk w q nv L St ds) (hf : ∀ W, Calls Try.prog 26 #[.int .i64 op] W fun e w' => e = .returned (.tuple #[.agg (opL ⟨op, k, gr, v1, v2, v3⟩).toArray, .bool true]) ∧ Below W.heap.size W w') (hk : k ≤ 1) (hg : gr = true) (h48 : L.length = 48) :
    Calls Try.prog 14 #[.pointer (some ⟨q, 0, none⟩), .int .i64 op] w (Did q nv w 170 L St ds) := by
  obtain ⟨A, c, hb, hls, hcc⟩ := hs.blk
  have c0 := hb.cell 0
  rw [sk_c0] at c0
  have hown := hs.own
  obtain ⟨A0, n0, rfl, hl0, hn0⟩ := own_lists hown
  have hq := hs.lt
  have HS := Lib.hid hs
  obtain ⟨n, hn⟩ : ∃ n, n = L.length := ⟨_, rfl⟩
  have hn48 : n ≤ 48 := by rw [hn]; exact hs.len
  rw [← hn] at c0 hn0
  have C0 : ∀ V, Below w.heap.size w V → V.cell? ⟨q, 0, none⟩ = some (.slice A0 n n0) := fun V hb' => (hb'.cell (p := ⟨q, 0, none⟩) hq).trans c0
  rw [← hn] at h48
  subst hg
  obtain ⟨z, hz⟩ : ∃ z : Int, z = (n : Int) - (k : Int) := ⟨_, rfl⟩
  have e1 : IntKind.i64.wrap ((n : Int) - (k : Int)) = z := by simp [IntKind.wrap, IntKind.bits, IntKind.signed]; omega
  have d1 : decide (z < 0) = false := by simp; omega
  have d2 : decide ((n : Int) = 48) = true := by simp; omega
  have d3 : ((n : Int) == 48) = true := by simp; omega
  clear hs hb hls hl0 hn0 hn hz hown hk hcc h48 hn48
  go_enter Try.func14, Try.ntmps14
  go_wp2_with (first | (go_at_call 26; ((with_reducible refine (hf _).mono ?_); rintro e w1 ⟨rfl, b1⟩)) | (refine wpList_store_fresh rfl 53 (.tmp 5) (.tmp 15) (by rfl) (opL ⟨op, k, true, v1, v2, v3⟩).toArray _ _ (by rfl) (by rfl) (by kernel_rfl) (by kernel_rfl) (hone) ?_; intro W2 k2 b2 z2; have b12 : Below w.heap.size w W2 := b1.trans (b2.mono b1.size)))
  have K2 : ∀ V, Below W2.heap.size W2 V → V.cell? ⟨w1.heap.size, 1, none⟩ = some (.int .i64 (k : Nat)) := fun V hV => ((k2.below hV).cell 1).trans rfl
  have K3 : ∀ V, Below W2.heap.size W2 V → V.cell? ⟨w1.heap.size, 2, none⟩ = some (.bool true) := fun V hV => ((k2.below hV).cell 2).trans rfl
  have D0 : ∀ V, Below W2.heap.size W2 V → V.cell? ⟨q, 0, none⟩ = some (.slice A0 n n0) := fun V hV => C0 V (b12.trans (hV.mono b12.size))
  have hI : Below W2.heap.size W2 W2.drew := (Below.refl _ _).drew
  refine wp_region_chain (fun V => Below W2.heap.size W2 V) [(0, false), (1, false), (2, false), (3, false), (4, false), (5, false), (6, false), (7, false), (8, false)] (by kernel_rfl) (by kernel_rfl) hI ?_
  repeat (first
    | (refine ChainL.skip (o := ?_) ?_ ?_ ?_; rotate_left; (focus (first | (simp only [List.getElem?_toArray, List.getElem?_cons_succ, List.getElem?_cons_zero]; with_reducible rfl) | (simp only [List.getElem?_toArray, List.getElem?_cons_zero]; with_reducible rfl))); (focus rfl); simp only [Act.put, List.setIfInBounds_toArray, List.set_cons_zero, List.set_cons_succ])
    | (refine ChainL.val (o := ?_) (v := ?_) ?_ ?_ ?_ ?_ ?_; rotate_left 2; (focus (first | (simp only [List.getElem?_toArray, List.getElem?_cons_succ, List.getElem?_cons_zero]; with_reducible rfl) | (simp only [List.getElem?_toArray, List.getElem?_cons_zero]; with_reducible rfl))); (focus (intro _ _ h; cases h)); (focus rfl); (focus (intro w' hJ; have y0 := D0 _ hJ; have y1 := K2 _ hJ; go_simp <;> with_reducible rfl)); simp only [Act.put, List.setIfInBounds_toArray, List.set_cons_zero, List.set_cons_succ]))
  refine ChainL.nil ?_
  have y0 := D0 _ hI
  have y2 := K3 _ hI
  go_wp2
  go_ret
  have b9 := b12.trans (hI.mono b12.size)
  exact ⟨rfl, _, HS.out.below b9, Mod.below b9⟩
end Go.Proofs.Ytkhafhdmcalhbaa

namespace Go.Proofs.Ytkhafhdmcalhbaa
open Go Go.RowKit
set_option linter.unusedVariables false
set_option linter.unusedSimpArgs false
set_option maxRecDepth 100000 in
set_option maxHeartbeats 4000000 in
theorem do_failF (op : Int) (k : Nat) (v1 v2 v3 : Value) (hone : (opL ⟨op, k, false, v1, v2, v3⟩).toArray.all (·.oneCell') = true) (q : Nat) (nv : Value) (L St ds : List Int) (w : World) (hs : Sk w q nv L St ds) (hf : ∀ W, Calls Try.prog 26 #[.int .i64 op] W fun e w' => e = .returned (.tuple #[.agg (opL ⟨op, k, false, v1, v2, v3⟩).toArray, .bool true]) ∧ Below W.heap.size W w') (r : Nat) (hr : L.length = r + k) (hg : True) (code : Int) (out L2 St2 ds2 : List Int) (hcode : code ≠ 0) (hL2 : L2.length = L.length)
    (hR : ∀ W At ct, Sk W q nv L St ds → Lists W W.heap.size At (intCells (L.drop r)) → Calls Try.prog 27 #[.agg (opL ⟨op, k, false, v1, v2, v3⟩).toArray, .pointer (some ⟨q, 0, none⟩), .slice At k ct] W (Res q nv W code out L2 St2 ds2)) :
    Calls Try.prog 14 #[.pointer (some ⟨q, 0, none⟩), .int .i64 op] w (Did q nv w code L2 St2 ds2) := by
  obtain ⟨A, c, hb, hls, hcc⟩ := hs.blk
  have c0 := hb.cell 0
  rw [sk_c0] at c0
  have hown := hs.own
  obtain ⟨A0, n0, rfl, hl0, hn0⟩ := own_lists hown
  have hq := hs.lt
  have HS := Lib.hid hs
  obtain ⟨n, hn⟩ : ∃ n, n = L.length := ⟨_, rfl⟩
  have hn48 : n ≤ 48 := by rw [hn]; exact hs.len
  rw [← hn] at c0 hn0
  have C0 : ∀ V, Below w.heap.size w V → V.cell? ⟨q, 0, none⟩ = some (.slice A0 n n0) := fun V hb' => (hb'.cell (p := ⟨q, 0, none⟩) hq).trans c0
  rw [← hn] at hr
  have e1 : IntKind.i64.wrap ((n : Int) - (k : Int)) = (r : Int) := by simp [IntKind.wrap, IntKind.bits, IntKind.signed]; omega
  have d1 : decide ((r : Int) < 0) = false := by simp
  have SO := fun W => slice_okI A0 n n0 r (by omega) hn0 W
  rw [show n - r = k by omega] at SO
  have hld : ∀ V, Below w.heap.size w V → Lists V V.heap.size (if n0 = r then A0 else A0.map (·.add r)) (intCells (L.drop r)) := fun V hV => (lists_dropI (hl0.below hV) r n0 (by omega) (by omega)).more hV.size
  generalize hAt : (if n0 = r then A0 else A0.map (·.add r)) = At at *
  clear hAt
  have HLD := Lib.hid hld
  have HR2 := Lib.hid hR
  have HNN := Lib.hid hn
  have HRR := Lib.hid hr
  have HN0 := Lib.hid hn0
  skip
  have hrr0 : k ≤ n := by omega
  have hrk : r ≤ n := by omega
  clear hs hb hls hl0 hn0 hn hown hcc hld hr hR hn48 hg
  have dc : decide (code = 0) = false := by simpa using hcode
  have dc2 : (code == 0) = false := by simpa using hcode
  clear hcode
  go_enter Try.func14, Try.ntmps14
  go_wp2_with (first | (go_at_call 26; ((with_reducible refine (hf _).mono ?_); rintro e w1 ⟨rfl, b1⟩)) | (refine wpList_store_fresh rfl 53 (.tmp 5) (.tmp 15) (by rfl) (opL ⟨op, k, false, v1, v2, v3⟩).toArray _ _ (by rfl) (by rfl) (by kernel_rfl) (by kernel_rfl) (hone) ?_; intro W2 k2 b2 z2; have b12 : Below w.heap.size w W2 := b1.trans (b2.mono b1.size)))
  have K2 : ∀ V, Below W2.heap.size W2 V → V.cell? ⟨w1.heap.size, 1, none⟩ = some (.int .i64 (k : Nat)) := fun V hV => ((k2.below hV).cell 1).trans rfl
  have K3 : ∀ V, Below W2.heap.size W2 V → V.cell? ⟨w1.heap.size, 2, none⟩ = some (.bool false) := fun V hV => ((k2.below hV).cell 2).trans rfl
  have D0 : ∀ V, Below W2.heap.size W2 V → V.cell? ⟨q, 0, none⟩ = some (.slice A0 n n0) := fun V hV => C0 V (b12.trans (hV.mono b12.size))
  have hI : Below W2.heap.size W2 W2.drew := (Below.refl _ _).drew
  refine wp_region_chain (fun V => Below W2.heap.size W2 V) [(0, false), (1, false), (2, false), (3, false), (4, false), (5, false), (6, false), (7, false), (8, false)] (by kernel_rfl) (by kernel_rfl) hI ?_
  repeat (first
    | (refine ChainL.skip (o := ?_) ?_ ?_ ?_; rotate_left; (focus (first | (simp only [List.getElem?_toArray, List.getElem?_cons_succ, List.getElem?_cons_zero]; with_reducible rfl) | (simp only [List.getElem?_toArray, List.getElem?_cons_zero]; with_reducible rfl))); (focus rfl); simp only [Act.put, List.setIfInBounds_toArray, List.set_cons_zero, List.set_cons_succ])
    | (refine ChainL.val (o := ?_) (v := ?_) ?_ ?_ ?_ ?_ ?_; rotate_left 2; (focus (first | (simp only [List.getElem?_toArray, List.getElem?_cons_succ, List.getElem?_cons_zero]; with_reducible rfl) | (simp only [List.getElem?_toArray, List.getElem?_cons_zero]; with_reducible rfl))); (focus (intro _ _ h; cases h)); (focus rfl); (focus (intro w' hJ; have y0 := D0 _ hJ; have y1 := K2 _ hJ; go_simp <;> with_reducible rfl)); simp only [Act.put, List.setIfInBounds_toArray, List.set_cons_zero, List.set_cons_succ]))
  refine ChainL.nil ?_
  have y0 := D0 _ hI
  have y2 := K3 _ hI
  go_wp2
  obtain ⟨W3, hW3⟩ : ∃ W3, W3 = W2.drew.drew := ⟨_, rfl⟩
  have hZ : Blk W3 w1.heap.size 53 (opL ⟨op, k, false, v1, v2, v3⟩).toArray ∧ W3.cell? ⟨q, 0, none⟩ = some (.slice A0 n n0) := by
    rw [hW3]
    exact ⟨(k2.below hI).below (Below.refl _ _).drew, (((Below.refl _ _).drew).cell (p := ⟨q, 0, none⟩) (Nat.lt_of_lt_of_le hq (b12.trans (hI.mono b12.size)).size)).trans y0⟩
  have b9 : Below w.heap.size w W3 := by rw [hW3]; exact (b12.trans (hI.mono b12.size)).drew
  have hfar : w1.heap.size ∉ q :: blk (Value.slice A0 L.length n0) := by
    intro hm
    have h1 := b1.size
    rcases List.mem_cons.1 hm with h2 | h2
    · omega
    · have h3 := blk_lt HS.out.own _ h2
      omega
  refine wp_region_chain (fun V => Blk V w1.heap.size 53 (opL ⟨op, k, false, v1, v2, v3⟩).toArray ∧ V.cell? ⟨q, 0, none⟩ = some (.slice A0 n n0)) [(0, false), (1, false), (2, false), (3, false), (4, false), (5, false), (6, false), (7, false), (8, true), (9, false), (10, false), (11, false), (12, false), (13, false)] (by kernel_rfl) (by kernel_rfl) (hW3 ▸ hZ) ?_
  rw [← hW3]
  repeat (first
    | (refine ChainL.skip (o := ?_) ?_ ?_ ?_; rotate_left; (focus (first | (simp only [List.getElem?_toArray, List.getElem?_cons_succ, List.getElem?_cons_zero]; with_reducible rfl) | (simp only [List.getElem?_toArray, List.getElem?_cons_zero]; with_reducible rfl))); (focus rfl); simp only [Act.put, List.setIfInBounds_toArray, List.set_cons_zero, List.set_cons_succ])
    | (refine ChainL.val (o := ?_) (v := ?_) ?_ ?_ ?_ ?_ ?_; rotate_left 2; (focus (first | (simp only [List.getElem?_toArray, List.getElem?_cons_succ, List.getElem?_cons_zero]; with_reducible rfl) | (simp only [List.getElem?_toArray, List.getElem?_cons_zero]; with_reducible rfl))); (focus (intro _ _ h; cases h)); (focus rfl); (focus (intro w' hJ; have y0 := hJ.2; have hLD := load_blk (P := Try.prog) hJ.1 Try.underlying53 rfl opSize; first | (have H := fun ρ o x => @exec_load _ ρ o _ _ x _ _ hLD; refine H _ _ ?_ ?_ ?_; rotate_left; (focus rfl); (focus rfl)) | (go_simp <;> with_reducible rfl))); simp only [Act.put, List.setIfInBounds_toArray, List.set_cons_zero, List.set_cons_succ]))
  refine ChainL.call (o := ?_) (f := ?_) (args := ?_) ?_ ?_ ?_ ?_
  rotate_left 3
  (focus (first | (simp only [List.getElem?_toArray, List.getElem?_cons_succ, List.getElem?_cons_zero]; with_reducible rfl) | (simp only [List.getElem?_toArray, List.getElem?_cons_zero]; with_reducible rfl)))
  (focus rfl)
  (focus (go_simp; (constructor <;> with_reducible rfl)))
  refine (HR2.out W3 At (n0 - r) (HS.out.below b9) (HLD.out _ b9)).mono ?_
  rintro e w4 h4
  obtain ⟨A4, c4, rfl, hl4, hs4, hm4⟩ := h4
  have i1 : Blk w4 w1.heap.size 53 (opL ⟨op, k, false, v1, v2, v3⟩).toArray := hZ.1.only hm4.1 hfar
  have i2 : w4.cell? ⟨q, 0, none⟩ = some (.slice A0 n n0) := by
    obtain ⟨A8, c8, hb8, _⟩ := hs4.blk
    have h8 := hb8.cell 0
    rw [sk_c0] at h8
    rw [HNN.out]
    exact h8
  refine ⟨_, rfl, ⟨i1, i2⟩, ?_⟩
  simp only [Act.put, List.setIfInBounds_toArray, List.set_cons_zero, List.set_cons_succ]
  repeat (first
    | (refine ChainL.skip (o := ?_) ?_ ?_ ?_; rotate_left; (focus (first | (simp only [List.getElem?_toArray, List.getElem?_cons_succ, List.getElem?_cons_zero]; with_reducible rfl) | (simp only [List.getElem?_toArray, List.getElem?_cons_zero]; with_reducible rfl))); (focus rfl); simp only [Act.put, List.setIfInBounds_toArray, List.set_cons_zero, List.set_cons_succ])
    | (refine ChainL.val (o := ?_) (v := ?_) ?_ ?_ ?_ ?_ ?_; rotate_left 2; (focus (first | (simp only [List.getElem?_toArray, List.getElem?_cons_succ, List.getElem?_cons_zero]; with_reducible rfl) | (simp only [List.getElem?_toArray, List.getElem?_cons_zero]; with_reducible rfl))); (focus (intro _ _ h; cases h)); (focus rfl); (focus (intro w' hJ; skip; go_simp <;> with_reducible rfl)); simp only [Act.put, List.setIfInBounds_toArray, List.set_cons_zero, List.set_cons_succ]))
  refine ChainL.nil ?_
  go_wp2
  go_ret
  exact ⟨rfl, _, hs4, (Mod.below b9).trans hm4⟩
end Go.Proofs.Ytkhafhdmcalhbaa

namespace Go.Proofs.Ytkhafhdmcalhbaa
open Go Go.RowKit
set_option linter.unusedVariables false
set_option linter.unusedSimpArgs false
set_option maxRecDepth 100000 in
set_option maxHeartbeats 4000000 in
theorem do_okF (op : Int) (k : Nat) (v1 v2 v3 : Value) (hone : (opL ⟨op, k, false, v1, v2, v3⟩).toArray.all (·.oneCell') = true) (q : Nat) (nv : Value) (L St ds : List Int) (w : World) (hs : Sk w q nv L St ds) (hf : ∀ W, Calls Try.prog 26 #[.int .i64 op] W fun e w' => e = .returned (.tuple #[.agg (opL ⟨op, k, false, v1, v2, v3⟩).toArray, .bool true]) ∧ Below W.heap.size W w') (r : Nat) (hr : L.length = r + k) (hg : True) (code : Int) (out L2 St2 ds2 : List Int) (hcode : code = 0) (hl48 : r + out.length ≤ 48) (hmo : ∀ x ∈ out, mayB x = true) (hL2 : L2.length = L.length)
    (hR : ∀ W At ct, Sk W q nv L St ds → Lists W W.heap.size At (intCells (L.drop r)) → Calls Try.prog 27 #[.agg (opL ⟨op, k, false, v1, v2, v3⟩).toArray, .pointer (some ⟨q, 0, none⟩), .slice At k ct] W (Res q nv W code out L2 St2 ds2)) :
    Calls Try.prog 14 #[.pointer (some ⟨q, 0, none⟩), .int .i64 op] w (Did q nv w 0 (L2.take r ++ out) St2 ds2) := by
  obtain ⟨A, c, hb, hls, hcc⟩ := hs.blk
  have c0 := hb.cell 0
  rw [sk_c0] at c0
  have hown := hs.own
  obtain ⟨A0, n0, rfl, hl0, hn0⟩ := own_lists hown
  have hq := hs.lt
  have HS := Lib.hid hs
  obtain ⟨n, hn⟩ : ∃ n, n = L.length := ⟨_, rfl⟩
  have hn48 : n ≤ 48 := by rw [hn]; exact hs.len
  rw [← hn] at c0 hn0
  have C0 : ∀ V, Below w.heap.size w V → V.cell? ⟨q, 0, none⟩ = some (.slice A0 n n0) := fun V hb' => (hb'.cell (p := ⟨q, 0, none⟩) hq).trans c0
  rw [← hn] at hr
  have e1 : IntKind.i64.wrap ((n : Int) - (k : Int)) = (r : Int) := by simp [IntKind.wrap, IntKind.bits, IntKind.signed]; omega
  have d1 : decide ((r : Int) < 0) = false := by simp
  have SO := fun W => slice_okI A0 n n0 r (by omega) hn0 W
  rw [show n - r = k by omega] at SO
  have hld : ∀ V, Below w.heap.size w V → Lists V V.heap.size (if n0 = r then A0 else A0.map (·.add r)) (intCells (L.drop r)) := fun V hV => (lists_dropI (hl0.below hV) r n0 (by omega) (by omega)).more hV.size
  generalize hAt : (if n0 = r then A0 else A0.map (·.add r)) = At at *
  clear hAt
  have HLD := Lib.hid hld
  have HR2 := Lib.hid hR
  have HNN := Lib.hid hn
  have HRR := Lib.hid hr
  have HN0 := Lib.hid hn0
  skip
  have hrr0 : k ≤ n := by omega
  have hrk : r ≤ n := by omega
  clear hs hb hls hl0 hn0 hn hown hcc hld hr hR hn48 hg
  subst hcode
  obtain ⟨i0, hi, hz0, hz1, hz2⟩ := info_partsS infoS
  have SU := fun W => slice_up A0 n n0 r (by have := HN0.out; omega) W
  have HL48 := Lib.hid hl48
  have HMO := Lib.hid hmo
  have HLL := Lib.hid hL2
  obtain ⟨mo, hmoo⟩ : ∃ mo, mo = out.length := ⟨_, rfl⟩
  have HOO := Lib.hid hmoo
  have hm48 : r + out.length ≤ 48 := by omega
  clear hl48 hmo hL2
  go_enter Try.func14, Try.ntmps14
  go_wp2_with (first | (go_at_call 26; ((with_reducible refine (hf _).mono ?_); rintro e w1 ⟨rfl, b1⟩)) | (refine wpList_store_fresh rfl 53 (.tmp 5) (.tmp 15) (by rfl) (opL ⟨op, k, false, v1, v2, v3⟩).toArray _ _ (by rfl) (by rfl) (by kernel_rfl) (by kernel_rfl) (hone) ?_; intro W2 k2 b2 z2; have b12 : Below w.heap.size w W2 := b1.trans (b2.mono b1.size)))
  have K2 : ∀ V, Below W2.heap.size W2 V → V.cell? ⟨w1.heap.size, 1, none⟩ = some (.int .i64 (k : Nat)) := fun V hV => ((k2.below hV).cell 1).trans rfl
  have K3 : ∀ V, Below W2.heap.size W2 V → V.cell? ⟨w1.heap.size, 2, none⟩ = some (.bool false) := fun V hV => ((k2.below hV).cell 2).trans rfl
  have D0 : ∀ V, Below W2.heap.size W2 V → V.cell? ⟨q, 0, none⟩ = some (.slice A0 n n0) := fun V hV => C0 V (b12.trans (hV.mono b12.size))
  have hI : Below W2.heap.size W2 W2.drew := (Below.refl _ _).drew
  refine wp_region_chain (fun V => Below W2.heap.size W2 V) [(0, false), (1, false), (2, false), (3, false), (4, false), (5, false), (6, false), (7, false), (8, false)] (by kernel_rfl) (by kernel_rfl) hI ?_
  repeat (first
    | (refine ChainL.skip (o := ?_) ?_ ?_ ?_; rotate_left; (focus (first | (simp only [List.getElem?_toArray, List.getElem?_cons_succ, List.getElem?_cons_zero]; with_reducible rfl) | (simp only [List.getElem?_toArray, List.getElem?_cons_zero]; with_reducible rfl))); (focus rfl); simp only [Act.put, List.setIfInBounds_toArray, List.set_cons_zero, List.set_cons_succ])
    | (refine ChainL.val (o := ?_) (v := ?_) ?_ ?_ ?_ ?_ ?_; rotate_left 2; (focus (first | (simp only [List.getElem?_toArray, List.getElem?_cons_succ, List.getElem?_cons_zero]; with_reducible rfl) | (simp only [List.getElem?_toArray, List.getElem?_cons_zero]; with_reducible rfl))); (focus (intro _ _ h; cases h)); (focus rfl); (focus (intro w' hJ; have y0 := D0 _ hJ; have y1 := K2 _ hJ; go_simp <;> with_reducible rfl)); simp only [Act.put, List.setIfInBounds_toArray, List.set_cons_zero, List.set_cons_succ]))
  refine ChainL.nil ?_
  have y0 := D0 _ hI
  have y2 := K3 _ hI
  go_wp2
  obtain ⟨W3, hW3⟩ : ∃ W3, W3 = W2.drew.drew := ⟨_, rfl⟩
  have hZ : Blk W3 w1.heap.size 53 (opL ⟨op, k, false, v1, v2, v3⟩).toArray ∧ W3.cell? ⟨q, 0, none⟩ = some (.slice A0 n n0) := by
    rw [hW3]
    exact ⟨(k2.below hI).below (Below.refl _ _).drew, (((Below.refl _ _).drew).cell (p := ⟨q, 0, none⟩) (Nat.lt_of_lt_of_le hq (b12.trans (hI.mono b12.size)).size)).trans y0⟩
  have b9 : Below w.heap.size w W3 := by rw [hW3]; exact (b12.trans (hI.mono b12.size)).drew
  have hfar : w1.heap.size ∉ q :: blk (Value.slice A0 L.length n0) := by
    intro hm
    have h1 := b1.size
    rcases List.mem_cons.1 hm with h2 | h2
    · omega
    · have h3 := blk_lt HS.out.own _ h2
      omega
  refine wp_region_chain (fun V => Blk V w1.heap.size 53 (opL ⟨op, k, false, v1, v2, v3⟩).toArray ∧ V.cell? ⟨q, 0, none⟩ = some (.slice A0 n n0)) [(0, false), (1, false), (2, false), (3, false), (4, false), (5, false), (6, false), (7, false), (8, true), (9, false), (10, false), (11, false), (12, false), (13, false)] (by kernel_rfl) (by kernel_rfl) (hW3 ▸ hZ) ?_
  rw [← hW3]
  repeat (first
    | (refine ChainL.skip (o := ?_) ?_ ?_ ?_; rotate_left; (focus (first | (simp only [List.getElem?_toArray, List.getElem?_cons_succ, List.getElem?_cons_zero]; with_reducible rfl) | (simp only [List.getElem?_toArray, List.getElem?_cons_zero]; with_reducible rfl))); (focus rfl); simp only [Act.put, List.setIfInBounds_toArray, List.set_cons_zero, List.set_cons_succ])
    | (refine ChainL.val (o := ?_) (v := ?_) ?_ ?_ ?_ ?_ ?_; rotate_left 2; (focus (first | (simp only [List.getElem?_toArray, List.getElem?_cons_succ, List.getElem?_cons_zero]; with_reducible rfl) | (simp only [List.getElem?_toArray, List.getElem?_cons_zero]; with_reducible rfl))); (focus (intro _ _ h; cases h)); (focus rfl); (focus (intro w' hJ; have y0 := hJ.2; have hLD := load_blk (P := Try.prog) hJ.1 Try.underlying53 rfl opSize; first | (have H := fun ρ o x => @exec_load _ ρ o _ _ x _ _ hLD; refine H _ _ ?_ ?_ ?_; rotate_left; (focus rfl); (focus rfl)) | (go_simp <;> with_reducible rfl))); simp only [Act.put, List.setIfInBounds_toArray, List.set_cons_zero, List.set_cons_succ]))
  refine ChainL.call (o := ?_) (f := ?_) (args := ?_) ?_ ?_ ?_ ?_
  rotate_left 3
  (focus (first | (simp only [List.getElem?_toArray, List.getElem?_cons_succ, List.getElem?_cons_zero]; with_reducible rfl) | (simp only [List.getElem?_toArray, List.getElem?_cons_zero]; with_reducible rfl)))
  (focus rfl)
  (focus (go_simp; (constructor <;> with_reducible rfl)))
  refine (HR2.out W3 At (n0 - r) (HS.out.below b9) (HLD.out _ b9)).mono ?_
  rintro e w4 h4
  obtain ⟨A4, c4, rfl, hl4, hs4, hm4⟩ := h4
  have i1 : Blk w4 w1.heap.size 53 (opL ⟨op, k, false, v1, v2, v3⟩).toArray := hZ.1.only hm4.1 hfar
  have i2 : w4.cell? ⟨q, 0, none⟩ = some (.slice A0 n n0) := by
    obtain ⟨A8, c8, hb8, _⟩ := hs4.blk
    have h8 := hb8.cell 0
    rw [sk_c0] at h8
    rw [HNN.out]
    exact h8
  refine ⟨_, rfl, ⟨i1, i2⟩, ?_⟩
  simp only [Act.put, List.setIfInBounds_toArray, List.set_cons_zero, List.set_cons_succ]
  repeat (first
    | (refine ChainL.skip (o := ?_) ?_ ?_ ?_; rotate_left; (focus (first | (simp only [List.getElem?_toArray, List.getElem?_cons_succ, List.getElem?_cons_zero]; with_reducible rfl) | (simp only [List.getElem?_toArray, List.getElem?_cons_zero]; with_reducible rfl))); (focus rfl); simp only [Act.put, List.setIfInBounds_toArray, List.set_cons_zero, List.set_cons_succ])
    | (refine ChainL.val (o := ?_) (v := ?_) ?_ ?_ ?_ ?_ ?_; rotate_left 2; (focus (first | (simp only [List.getElem?_toArray, List.getElem?_cons_succ, List.getElem?_cons_zero]; with_reducible rfl) | (simp only [List.getElem?_toArray, List.getElem?_cons_zero]; with_reducible rfl))); (focus (intro _ _ h; cases h)); (focus rfl); (focus (intro w' hJ; skip; go_simp <;> with_reducible rfl)); simp only [Act.put, List.setIfInBounds_toArray, List.set_cons_zero, List.set_cons_succ]))
  refine ChainL.nil ?_
  have own4 := own_cutS (n := n) (L := L2) (k := r) (by have h := hs4.own; rw [HLL.out, ← HNN.out] at h; exact h) hrk
  obtain ⟨A8, c8, hb8, hls8, hc8⟩ := hs4.blk
  have f8 := hb8.frozen 0
  have hq4 := hs4.lt
  have hne : q ∉ blk (Value.slice A0 r n0) := own_ne own4 hb8 (by decide)
  have HL4 := Lib.hid hl4
  clear hl4
  go_wp2_with (at_builtin; refine wpList_append_src _ rfl (.tmp 62) (.tmp 63) 22 rfl q 3 i0 (.int .i64 0) 1 8 Try.underlying22 hi hz0 hz1 hz2 rfl (by decide) (.slice A0 r n0) r (intCells (L2.take r)) rfl own4 w4.heap.size A4 out.length c4 (intCells out) (by rfl) HL4.out (by rw [intCells_len, Nat.mul_one]) (intCells_oneS out) (by simp only [maxLen]; omega) (by omega) (Nat.le_of_lt hq4) ?_; intro v2 w5 own5 hg5 hat5; obtain ⟨A2, n2, rfl, _⟩ := own_lists own5; have g5 : Only w4 w5 (blk (.slice A0 r n0)) := (Only.refl _ _).grown hg5 (fun b hb => .inl (by simp [blk, hb])); have hb5 := hb8.only g5 hne; have c5 := hb5.cell 0; rw [sk_c0] at c5; have f5 := hb5.frozen 0)
  go_ret
  have P := hs4.put (L2 := L2.take r ++ out) (by rw [blk_len A0 L.length n0 r n0]; exact g5) (by rw [List.length_append, List.length_take, HLL.out, ← HNN.out, Nat.min_eq_left hrk, intCells_app]; exact own5) ?_ ?_ ?_
  · exact ⟨rfl, _, P.1, ((Mod.below b9).trans hm4).trans P.2⟩
  · intro b hb
    rcases hat5 with e | e
    · left
      rw [blk_len A0 L.length n0 r n0]
      unfold blk at hb ⊢
      rw [e] at hb
      exact hb
    · right
      unfold blk at hb
      rw [e] at hb
      simp at hb
      omega
  · rw [List.length_append, List.length_take, HLL.out, ← HNN.out]; have := HL48.out; omega
  · intro x hx
    rcases List.mem_append.1 hx with h | h
    · exact hs4.may x (List.mem_of_mem_take h)
    · exact HMO.out x h
end Go.Proofs.Ytkhafhdmcalhbaa
