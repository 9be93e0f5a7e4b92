/- Small functions of metric. -/
import Derived.Test.YtdbhfigdojkceaaMet1
namespace Go.Proofs.Ytdbhfigdojkceaa
open Go Go.RowKit

theorem within_new (a b x : Int) (r : Bool) (hr : inB a b x = r) (W : World) (T : TypeId) (k : Nat) (hk : k = W.heap.size) :
    Calls Try.prog 40 #[.int .i64 a, .int .i64 b, .slice (some ⟨k, 0, none⟩) 1 1] (W.alloc (.cells #[.int .i64 x] T)) fun e w' => e = .returned (.bool r) ∧ Below W.heap.size W w' := by
  subst hk
  refine (within1_any a b x _ _ 1 _ (Nat.le_refl _) (lists_new W #[.int .i64 x] T [.int .i64 x] (fun j u hu => by simpa using hu))).mono fun e w' ⟨h1, h2⟩ => ⟨by rw [h1, hr], ?_⟩
  exact ((Below.refl _ _).alloc (Nat.le_refl _) _).trans (h2.mono (by simp))

/-- May n glyphs be, m of which have an advance of their own? -/
def cmB (n m : Int) : Bool := inB 1 65535 n && inB 1 n m
theorem cmB_true {n m : Int} (h : cmB n m = true) : 1 ≤ n ∧ n ≤ 65535 ∧ 1 ≤ m ∧ m ≤ n := by
  unfold cmB at h
  rw [Bool.and_eq_true] at h
  have := inB_true h.1
  have := inB_true h.2
  omega
theorem cmB_yes {n m : Int} (h1 : 1 ≤ n) (h2 : n ≤ 65535) (h3 : 1 ≤ m) (h4 : m ≤ n) : cmB n m = true := by
  unfold cmB; rw [inB_yes h1 h2, inB_yes h3 h4]; rfl

theorem counts_any (n m : Int) (r : Bool) (hr : cmB n m = r) (w : World) :
    Calls Try.prog 25 #[.int .i64 n, .int .i64 m] w fun e w' => e = .returned (.bool r) ∧ Below w.heap.size w w' := by
  unfold cmB at hr
  cases h1 : inB 1 65535 n
  · have C := fun W T k hk => within_new 1 65535 n false h1 W T k hk
    rw [h1] at hr
    subst hr
    clear h1
    go_enter Try.func25, Try.ntmps25
    go_wp2_with (first | (go_at_call 40; ((with_reducible refine (C _ _ _ (by simp)).mono ?_); rintro e w1 ⟨rfl, b⟩)))
    go_ret
    exact ⟨rfl, b⟩
  · have C := fun W T k hk => within_new 1 65535 n true h1 W T k hk
    cases h2 : inB 1 n m
    all_goals
      have D := fun W T k hk => within_new 1 n m _ h2 W T k hk
      rw [h1, h2] at hr
      subst hr
      clear h1 h2
      go_enter Try.func25, Try.ntmps25
      go_wp2_with (first | (go_at_call 40; ((with_reducible refine (C _ _ _ (by simp)).mono ?_); rintro e w1 ⟨rfl, b⟩)) | (go_at_call 40; ((with_reducible refine (D _ _ _ (by simp)).mono ?_); rintro e w2 ⟨rfl, b2⟩)))
      go_ret
      exact ⟨rfl, b.trans (b2.mono b.size)⟩

theorem metricsLen_any (n m : Nat) (hn : n ≤ 65535) (hm : m ≤ n) (w : World) :
    Calls Try.prog 30 #[.int .i64 n, .int .i64 m] w fun e w' => e = .returned (.int .i64 (posM m n : Nat)) ∧ w = w' := by
  go_enter Try.func30, Try.ntmps30
  go_wp2
  go_ret
  exact ⟨ret_int (by unfold posM; omega), rfl⟩

theorem placesLen_any (n : Nat) (long : Bool) (hn : n ≤ 65536) (w : World) :
    Calls Try.prog 44 #[.int .i64 n, .bool long] w fun e w' => e = .returned (.int .i64 (n * szP long : Nat)) ∧ w = w' := by
  cases long
  all_goals
    go_enter Try.func44, Try.ntmps44
    go_wp2
    go_ret
    exact ⟨ret_int (by simp [szP]), rfl⟩

theorem unfit_any (x : Int) (h1 : 0 ≤ x) (w : World) :
    Calls Try.prog 42 #[.int .i64 x] w fun e w' => e = .returned (.bool (!okOff false x)) ∧ Below w.heap.size w w' := by
  cases hr : okOff false x
  all_goals
    have HR := Lib.hid hr
    clear hr
    by_cases d1 : x % 2 = 0
    · have d2 : (x % 2 == 0) = true := by simpa using d1
      have d2' : (x % 2 != 0) = false := by simpa using d1
      by_cases d3 : 131070 < x
      · go_enter Try.func42, Try.ntmps42
        go_wp2
        go_ret
        first | exact ⟨rfl, Below.refl _ _⟩ | (exfalso; have := HR.out; simp [okOff] at this; omega)
      · go_enter Try.func42, Try.ntmps42
        go_wp2
        go_ret
        first | exact ⟨rfl, Below.refl _ _⟩ | (exfalso; have := HR.out; simp [okOff] at this; omega)
    · have d2 : (x % 2 == 0) = false := by simpa using d1
      have d2' : (x % 2 != 0) = true := by simpa using d1
      go_enter Try.func42, Try.ntmps42
      go_wp2
      go_ret
      first | exact ⟨rfl, Below.refl _ _⟩ | (exfalso; have := HR.out; simp [okOff] at this; omega)

/-- Metrics as cells. -/
def metCells : List (Int × Int) → List Value
  | [] => []
  | (a, b) :: r => .int .i64 a :: .int .i64 b :: metCells r
theorem metCells_len : ∀ L : List (Int × Int), (metCells L).length = L.length * 2
  | [] => rfl
  | _ :: r => by simp only [metCells, List.length_cons, metCells_len r]; omega
theorem metCells_snoc (a b : Int) : ∀ L, metCells (L ++ [(a, b)]) = metCells L ++ [.int .i64 a, .int .i64 b]
  | [] => rfl
  | (_, _) :: r => by simp only [List.cons_append, metCells, metCells_snoc a b r]
theorem metCells_at : ∀ (L : List (Int × Int)) (k : Nat) (a b : Int), L[k]? = some (a, b) → (metCells L)[k * 2]? = some (.int .i64 a) ∧ (metCells L)[k * 2 + 1]? = some (.int .i64 b)
  | [], k, a, b, h => by simp at h
  | (x, y) :: r, 0, a, b, h => by
    simp only [List.getElem?_cons_zero, Option.some.injEq, Prod.mk.injEq] at h
    obtain ⟨rfl, rfl⟩ := h
    exact ⟨rfl, rfl⟩
  | (x, y) :: r, k + 1, a, b, h => by
    have := metCells_at r k a b (by simpa using h)
    rw [show (k + 1) * 2 = k * 2 + 1 + 1 by omega]
    exact this
theorem metCells_one : ∀ L : List (Int × Int), ∀ u ∈ metCells L, u.oneCell' = true
  | [], u, h => (nomatch h)
  | (x, y) :: r, u, h => by
    simp only [metCells, List.mem_cons] at h
    rcases h with rfl | rfl | h
    · rfl
    · rfl
    · exact metCells_one r u h

theorem tooLarge_any (a b : Int) (w : World) :
    Calls Try.prog 28 #[.agg #[.int .i64 a, .int .i64 b]] w fun e w' => e = .returned (.bool (!okMet (a, b))) ∧ Below w.heap.size w w' := by
  have e : okMet (a, b) = (inB 0 65535 a && inB (-32768) 32767 b) := by simp [okMet, inB, Bool.and_assoc]
  rw [e]
  clear e
  cases h1 : inB 0 65535 a
  · have C := fun W T k hk => within_new 0 65535 a false h1 W T k hk
    clear h1
    go_enter Try.func28, Try.ntmps28
    go_wp2_with (first | (go_at_call 40; ((with_reducible refine (C _ _ _ (by simp)).mono ?_); rintro e w1 ⟨rfl, b1⟩)))
    go_ret
    exact ⟨rfl, ((Below.refl _ _).alloc (Nat.le_refl _) _).trans (b1.mono (by simp))⟩
  · have C := fun W T k hk => within_new 0 65535 a true h1 W T k hk
    cases h2 : inB (-32768) 32767 b
    all_goals
      have D := fun W T k hk => within_new (-32768) 32767 b _ h2 W T k hk
      clear h1 h2
      go_enter Try.func28, Try.ntmps28
      go_wp2_with (first | (go_at_call 40; ((with_reducible refine (C _ _ _ (by simp)).mono ?_); rintro e w1 ⟨rfl, b1⟩; have g1 := (b1.cell (p := ⟨w.heap.size, 1, none⟩) (by simp)))) | (go_at_call 40; ((with_reducible refine (D _ _ _ (by simp)).mono ?_); rintro e w2 ⟨rfl, b2⟩)))
      go_ret
      exact ⟨rfl, (((Below.refl _ _).alloc (Nat.le_refl _) _).trans (b1.mono (by simp))).trans (b2.mono (by have := b1.size; simp at this; omega))⟩

theorem another_any (a b c : Int) (r : Bool) (hr : (a == c) = r) (p : Nat) (w : World) (hp : w.cell? ⟨p, 0, none⟩ = some (.int .i64 c)) (hl : p < w.heap.size) :
    Calls Try.prog 26 #[.agg #[.int .i64 a, .int .i64 b], .pointer (some ⟨p, 0, none⟩)] w fun e w' => e = .returned (.bool (!r)) ∧ Below w.heap.size w w' := by
  have g0 : ∀ o, (w.alloc o).cell? ⟨p, 0, none⟩ = some (.int .i64 c) := fun o => (((Below.refl _ _).alloc (Nat.le_refl _) o).cell (p := ⟨p, 0, none⟩) hl).trans hp
  cases r
  all_goals
    have d2 : (a != c) = _ := congrArg not hr
    go_enter Try.func26, Try.ntmps26
    go_wp2
    go_ret
    exact ⟨rfl, (Below.refl _ _).alloc (Nat.le_refl _) _⟩

end Go.Proofs.Ytdbhfigdojkceaa
