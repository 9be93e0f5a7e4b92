/- Part 6 of the proof: OuB, OuK, OuW, SpF, CmF, CmG, OuY. -/
import Derived.Deep.CutBlock
import Derived.Lib.SliceRun
import Derived.Test.YtelhckckcilpaaaCSp4

namespace Go.Proofs.Ytelhckckcilpaaa
open Go Go.RowKit

def okP (p : Pt) : Bool := mayB p.1 && mayB p.2.1 && decide (1 ≤ p.2.2) && decide (p.2.2 ≤ 3)
def okA (L : List Pt) (k : Nat) (p : Pt) : Bool := okP p && (!(p.2.2 == 3) || pairB L k)
def okC (L : List Pt) (k : Nat) (p : Pt) : Bool := okP p && (!(p.2.2 == 3) || cubB L k)
def allI (f : Nat → Pt → Bool) (L : List Pt) : Bool := (List.range L.length).all fun (k : Nat) => f k (ringP L k)
def mayC (L : List Pt) : Bool := decide (0 < L.length) && allI (okA L) L
def rmayC (L : List Pt) : Bool := decide (0 < L.length) && allI (okC L) L
theorem allI_true {f : Nat → Pt → Bool} {L : List Pt} : allI f L = true ↔ ∀ (j : Nat) (p : Pt), L[j]? = some p → f j p = true := by
  unfold allI
  rw [List.all_eq_true]
  constructor
  · intro h j p hp
    have := h j (List.mem_range.2 (List.getElem?_eq_some_iff.1 hp).1)
    rwa [ringP_nat hp] at this
  · intro h j hj
    obtain ⟨p, hp⟩ := at_some (List.mem_range.1 hj)
    rw [ringP_nat hp]
    exact h j p hp
theorem all_bad' {f : Nat → Pt → Bool} {L : List Pt} {k : Nat} {p : Pt} (hp : L[k]? = some p) (hf : f k p = false) : allI f L = false := by
  cases h : allI f L
  · rfl
  · rw [allI_true.1 h k p hp] at hf; cases hf
theorem all_bad {f : Nat → Pt → Bool} {L : List Pt} {k n : Nat} {p : Pt} (_ : k < n) (hp : L[k]? = some p) (hf : f k p = false) : (decide (0 < L.length) && allI f L) = false := by rw [all_bad' hp hf, Bool.and_false]
theorem all_next {f : Nat → Pt → Bool} {L : List Pt} {k : Nat} {p : Pt} (h : ∀ (j : Nat) (p : Pt), j < k → L[j]? = some p → f j p = true) (hp : L[k]? = some p) (hf : f k p = true) : ∀ (j : Nat) (p : Pt), j < k + 1 → L[j]? = some p → f j p = true := by
  intro j q hj hq
  rcases Nat.lt_or_ge j k with h1 | h1
  · exact h j q h1 hq
  · obtain rfl : j = k := by omega
    rw [hp] at hq; cases hq; exact hf
theorem all_done {f : Nat → Pt → Bool} {L : List Pt} {k : Nat} (hk : k = L.length) (h : ∀ (j : Nat) (p : Pt), j < k → L[j]? = some p → f j p = true) : allI f L = true :=
  allI_true.2 fun j p hp => h j p (by rw [hk]; exact (List.getElem?_eq_some_iff.1 hp).1) hp
theorem may_is (x : Int) (r : Bool) (hr : mayB x = r) (w : World) : Calls Try.prog 89 #[.int .i64 x] w fun e w' => e = .returned (.bool r) ∧ w = w' := by subst hr; exact may_any x w
theorem rmay_is (x : Int) (r : Bool) (hr : mayB x = r) (w : World) : Calls Try.prog 96 #[.int .i64 x] w fun e w' => e = .returned (.bool r) ∧ w = w' := by subst hr; exact may_ref x w

set_option maxRecDepth 100000 in
set_option maxHeartbeats 4000000 in
theorem maybe_any (B : Nat) (A : Option Addr) (c : Nat) (L : List Pt) (w : World) (hB : B ≤ w.heap.size) (h : Lists w B A (ptCells L)) (hn : L.length ≤ 10000000) :
    Calls Try.prog 68 #[.slice A L.length c] w fun e w' => e = .returned (.bool (mayC L)) ∧ Below w.heap.size w w' := by
  have CP := fun (k : Nat) (w1 : World) (r : Bool) (hr : pairB L k = r) (b1 : Below w.heap.size w w1) (hk : k < L.length) => pair_any B A c L k w1 (Nat.le_trans hB b1.size) (h.below (b1.mono hB)) hk hn r hr
  have H := Lib.hid h
  obtain ⟨n, hnn⟩ : ∃ n, n = L.length := ⟨_, rfl⟩
  rw [← hnn] at hn CP ⊢
  have HN := Lib.hid hnn
  clear h hnn
  go_enter Try.func68, Try.ntmps68
  go_wp2
  go_loopw [7] (fun i wr => ∃ k : Nat, k ≤ n ∧ i = .int .i64 k ∧ Hid (∀ (j : Nat) (p : Pt), j < k → L[j]? = some p → okA L j p = true) ∧ Below w.heap.size w wr) (fun i _ => n - (intOf i).toNat)
  case atStart => exact ⟨0, Nat.zero_le _, rfl, Lib.hid (fun j p h => absurd h (Nat.not_lt_zero _)), Below.refl _ _⟩
  case round =>
    obtain ⟨k, hk, rfl, HK, hb⟩ := hrel
    by_cases hlt : k < n
    · have CP := fun w1 r hr b1 => CP k w1 r hr b1 hlt
      obtain ⟨⟨x, y, z⟩, hp⟩ := at_some (L := L) (k := k) (by rw [← HN.out]; exact hlt)
      obtain ⟨b, o, rfl, hbl, c0, c1, c2⟩ := lists_pt H.out hp
      have g0 := (hb.cell (p := ⟨b, o + k * 3, none⟩) (Nat.lt_of_lt_of_le hbl hB)).trans c0
      have g1 := (hb.cell (p := ⟨b, o + k * 3 + 1, none⟩) (Nat.lt_of_lt_of_le hbl hB)).trans c1
      have g2 := (hb.cell (p := ⟨b, o + k * 3 + 2, none⟩) (Nat.lt_of_lt_of_le hbl hB)).trans c2
      have g3 : b < wr.heap.size := by have := hb.size; omega
      have HP := Lib.hid hp
      clear c0 c1 c2 hp
      simp only at g0 g1 g2
      cases hx : mayB x
      · have HB := Lib.hid (show mayC L = false from all_bad hlt HP.out (by simp [okA, okP, hx]))
        go_wp2_with (first | (go_at_call 89; ((with_reducible refine (may_is x false hx _).mono ?_); rintro e w3 ⟨rfl, rfl⟩)))
        go_ret
        exact ⟨by rw [HB.out]; rfl, hb.alloc hb.size _⟩
      · cases hy : mayB y
        · have HB := Lib.hid (show mayC L = false from all_bad hlt HP.out (by simp [okA, okP, hx, hy]))
          go_wp2_with (first | (go_at_call 89; ((with_reducible refine (may_is x true hx _).mono ?_); rintro e w3 ⟨rfl, rfl⟩)) | (go_at_call 89; ((with_reducible refine (may_is y false hy _).mono ?_); rintro e w3 ⟨rfl, rfl⟩)))
          go_ret
          exact ⟨by rw [HB.out]; rfl, hb.alloc hb.size _⟩
        · by_cases hz1 : z < 1
          · have d2 : decide (z < 1) = true := by simp; omega
            have d5 : ¬ 1 ≤ z := by omega
            have HB := Lib.hid (show mayC L = false from all_bad hlt HP.out (by simp [okA, okP, d5]))
            go_wp2_with (first | (go_at_call 89; ((with_reducible refine (may_is x true hx _).mono ?_); rintro e w3 ⟨rfl, rfl⟩)) | (go_at_call 89; ((with_reducible refine (may_is y true hy _).mono ?_); rintro e w3 ⟨rfl, rfl⟩)))
            go_ret
            exact ⟨by rw [HB.out]; rfl, hb.alloc hb.size _⟩
          · have d5 : 1 ≤ z := by omega
            by_cases hz3 : 3 < z
            · have d2 : decide (z < 1) = false := by simp; omega
              have d3 : decide (3 < z) = true := by simp; omega
              have d6 : ¬ z ≤ 3 := by omega
              have HB := Lib.hid (show mayC L = false from all_bad hlt HP.out (by simp [okA, okP, d6]))
              go_wp2_with (first | (go_at_call 89; ((with_reducible refine (may_is x true hx _).mono ?_); rintro e w3 ⟨rfl, rfl⟩)) | (go_at_call 89; ((with_reducible refine (may_is y true hy _).mono ?_); rintro e w3 ⟨rfl, rfl⟩)))
              go_ret
              exact ⟨by rw [HB.out]; rfl, hb.alloc hb.size _⟩
            · have d6 : z ≤ 3 := by omega
              by_cases he : z = 3
              · subst he
                cases hp : pairB L k
                · have HB := Lib.hid (show mayC L = false from all_bad hlt HP.out (by simp [okA, okP, hp]))
                  go_wp2_with (first | (go_at_call 89; ((with_reducible refine (may_is x true hx _).mono ?_); rintro e w3 ⟨rfl, rfl⟩)) | (go_at_call 89; ((with_reducible refine (may_is y true hy _).mono ?_); rintro e w3 ⟨rfl, rfl⟩)) | (go_at_call 90; ((with_reducible refine (CP _ false hp (hb.alloc hb.size _)).mono ?_); rintro e w3 ⟨rfl, b3⟩)))
                  go_ret
                  exact ⟨by rw [HB.out]; rfl, (hb.alloc hb.size _).trans (b3.mono (by simp; have := hb.size; omega))⟩
                · have HS := Lib.hid (all_next (f := okA L) HK.out HP.out (by simp [okA, okP, hx, hy, hp]))
                  go_wp2_with (first | (go_at_call 89; ((with_reducible refine (may_is x true hx _).mono ?_); rintro e w3 ⟨rfl, rfl⟩)) | (go_at_call 89; ((with_reducible refine (may_is y true hy _).mono ?_); rintro e w3 ⟨rfl, rfl⟩)) | (go_at_call 90; ((with_reducible refine (CP _ true hp (hb.alloc hb.size _)).mono ?_); rintro e w3 ⟨rfl, b3⟩)))
                  go_roundw
                  case rel => exact ⟨k + 1, by omega, by go_num, HS, (hb.alloc hb.size _).trans (b3.mono (by simp; have := hb.size; omega))⟩
                  case measure => simp [intOf]; omega
              · have d2 : decide (z < 1) = false := by simp; omega
                have d3 : decide (3 < z) = false := by simp; omega
                have d4 : (z == 3) = false := by simp; omega
                have HS := Lib.hid (all_next (f := okA L) HK.out HP.out (by simp [okA, okP, hx, hy, d4, d5, d6]))
                go_wp2_with (first | (go_at_call 89; ((with_reducible refine (may_is x true hx _).mono ?_); rintro e w3 ⟨rfl, rfl⟩)) | (go_at_call 89; ((with_reducible refine (may_is y true hy _).mono ?_); rintro e w3 ⟨rfl, rfl⟩)))
                go_roundw
                case rel => exact ⟨k + 1, by omega, by go_num, HS, hb.alloc hb.size _⟩
                case measure => simp [intOf]; omega
    · obtain rfl : k = n := by omega
      have HT := Lib.hid (all_done (f := okA L) HN.out HK.out)
      by_cases h0 : 0 < k
      · have HB := Lib.hid (show mayC L = true by unfold mayC; rw [HT.out, ← HN.out]; simp [h0])
        go_wp2
        go_ret
        exact ⟨by rw [HB.out]; rfl, hb⟩
      · obtain rfl : k = 0 := by omega
        have HB := Lib.hid (show mayC L = false by unfold mayC; rw [← HN.out]; simp)
        go_wp2
        go_ret
        exact ⟨by rw [HB.out]; rfl, hb⟩

set_option maxRecDepth 100000 in
set_option maxHeartbeats 4000000 in
theorem rmay_any (B : Nat) (A : Option Addr) (c : Nat) (L : List Pt) (w : World) (hB : B ≤ w.heap.size) (h : Lists w B A (ptCells L)) (hn : L.length ≤ 10000000) :
    Calls Try.prog 80 #[.slice A L.length c] w fun e w' => e = .returned (.bool (rmayC L)) ∧ Below w.heap.size w w' := by
  have CP := fun (k : Nat) (w1 : World) (r : Bool) (hr : cubB L k = r) (b1 : Below w.heap.size w w1) (hk : k < L.length) => cub_any B A c L k w1 (Nat.le_trans hB b1.size) (h.below (b1.mono hB)) hk hn r hr
  have H := Lib.hid h
  obtain ⟨n, hnn⟩ : ∃ n, n = L.length := ⟨_, rfl⟩
  rw [← hnn] at hn CP ⊢
  have HN := Lib.hid hnn
  clear h hnn
  go_enter Try.func80, Try.ntmps80
  go_wp2
  go_loopw [3] (fun i wr => ∃ k : Nat, k ≤ n ∧ i = .int .i64 k ∧ Hid (∀ (j : Nat) (p : Pt), j < k → L[j]? = some p → okC L j p = true) ∧ Below w.heap.size w wr) (fun i _ => n - (intOf i).toNat)
  case atStart => exact ⟨0, Nat.zero_le _, rfl, Lib.hid (fun j p h => absurd h (Nat.not_lt_zero _)), Below.refl _ _⟩
  case round =>
    obtain ⟨k, hk, rfl, HK, hb⟩ := hrel
    by_cases hlt : k < n
    · have CP := fun w1 r hr b1 => CP k w1 r hr b1 hlt
      obtain ⟨⟨x, y, z⟩, hp⟩ := at_some (L := L) (k := k) (by rw [← HN.out]; exact hlt)
      obtain ⟨b, o, rfl, hbl, c0, c1, c2⟩ := lists_pt H.out hp
      have g0 := (hb.cell (p := ⟨b, o + k * 3, none⟩) (Nat.lt_of_lt_of_le hbl hB)).trans c0
      have g1 := (hb.cell (p := ⟨b, o + k * 3 + 1, none⟩) (Nat.lt_of_lt_of_le hbl hB)).trans c1
      have g2 := (hb.cell (p := ⟨b, o + k * 3 + 2, none⟩) (Nat.lt_of_lt_of_le hbl hB)).trans c2
      have g3 : b < wr.heap.size := by have := hb.size; omega
      have HP := Lib.hid hp
      clear c0 c1 c2 hp
      simp only at g0 g1 g2
      by_cases hz1 : z < 1
      · have d2 : decide (z < 1) = true := by simp; omega
        have d5 : ¬ 1 ≤ z := by omega
        have HB := Lib.hid (show rmayC L = false from all_bad hlt HP.out (by simp [okC, okP, d5]))
        go_wp2
        go_ret
        exact ⟨by rw [HB.out]; rfl, hb.alloc hb.size _⟩
      · have d5 : 1 ≤ z := by omega
        by_cases hz3 : 3 < z
        · have d2 : decide (z < 1) = false := by simp; omega
          have d3 : decide (3 < z) = true := by simp; omega
          have d6 : ¬ z ≤ 3 := by omega
          have HB := Lib.hid (show rmayC L = false from all_bad hlt HP.out (by simp [okC, okP, d6]))
          go_wp2
          go_ret
          exact ⟨by rw [HB.out]; rfl, hb.alloc hb.size _⟩
        · have d6 : z ≤ 3 := by omega
          have d2 : decide (z < 1) = false := by simp; omega
          have d3 : decide (3 < z) = false := by simp; omega
          cases hx : mayB x
          · have HB := Lib.hid (show rmayC L = false from all_bad hlt HP.out (by simp [okC, okP, hx]))
            go_wp2_with (first | (go_at_call 96; ((with_reducible refine (rmay_is x false hx _).mono ?_); rintro e w3 ⟨rfl, rfl⟩)))
            go_ret
            exact ⟨by rw [HB.out]; rfl, hb.alloc hb.size _⟩
          · cases hy : mayB y
            · have HB := Lib.hid (show rmayC L = false from all_bad hlt HP.out (by simp [okC, okP, hx, hy]))
              go_wp2_with (first | (go_at_call 96; ((with_reducible refine (rmay_is x true hx _).mono ?_); rintro e w3 ⟨rfl, rfl⟩)) | (go_at_call 96; ((with_reducible refine (rmay_is y false hy _).mono ?_); rintro e w3 ⟨rfl, rfl⟩)))
              go_ret
              exact ⟨by rw [HB.out]; rfl, hb.alloc hb.size _⟩
            · by_cases he : z = 3
              · subst he
                cases hp : cubB L k
                · have HB := Lib.hid (show rmayC L = false from all_bad hlt HP.out (by simp [okC, okP, hp]))
                  go_wp2_with (first | (go_at_call 96; ((with_reducible refine (rmay_is x true hx _).mono ?_); rintro e w3 ⟨rfl, rfl⟩)) | (go_at_call 96; ((with_reducible refine (rmay_is y true hy _).mono ?_); rintro e w3 ⟨rfl, rfl⟩)) | (go_at_call 97; ((with_reducible refine (CP _ false hp (hb.alloc hb.size _)).mono ?_); rintro e w3 ⟨rfl, b3⟩)))
                  go_ret
                  exact ⟨by rw [HB.out]; rfl, (hb.alloc hb.size _).trans (b3.mono (by simp; have := hb.size; omega))⟩
                · have HS := Lib.hid (all_next (f := okC L) HK.out HP.out (by simp [okC, okP, hx, hy, hp]))
                  go_wp2_with (first | (go_at_call 96; ((with_reducible refine (rmay_is x true hx _).mono ?_); rintro e w3 ⟨rfl, rfl⟩)) | (go_at_call 96; ((with_reducible refine (rmay_is y true hy _).mono ?_); rintro e w3 ⟨rfl, rfl⟩)) | (go_at_call 97; ((with_reducible refine (CP _ true hp (hb.alloc hb.size _)).mono ?_); rintro e w3 ⟨rfl, b3⟩)))
                  go_roundw
                  case rel => exact ⟨k + 1, by omega, by go_num, HS, (hb.alloc hb.size _).trans (b3.mono (by simp; have := hb.size; omega))⟩
                  case measure => simp [intOf]; omega
              · have d4 : (z == 3) = false := by simp; omega
                have HS := Lib.hid (all_next (f := okC L) HK.out HP.out (by simp [okC, okP, hx, hy, d4, d5, d6]))
                go_wp2_with (first | (go_at_call 96; ((with_reducible refine (rmay_is x true hx _).mono ?_); rintro e w3 ⟨rfl, rfl⟩)) | (go_at_call 96; ((with_reducible refine (rmay_is y true hy _).mono ?_); rintro e w3 ⟨rfl, rfl⟩)))
                go_roundw
                case rel => exact ⟨k + 1, by omega, by go_num, HS, hb.alloc hb.size _⟩
                case measure => simp [intOf]; omega
    · obtain rfl : k = n := by omega
      have HT := Lib.hid (all_done (f := okC L) HN.out HK.out)
      by_cases h0 : 0 < k
      · have HB := Lib.hid (show rmayC L = true by unfold rmayC; rw [HT.out, ← HN.out]; simp [h0])
        go_wp2
        go_ret
        exact ⟨by rw [HB.out]; rfl, hb⟩
      · obtain rfl : k = 0 := by omega
        have HB := Lib.hid (show rmayC L = false by unfold rmayC; rw [← HN.out]; simp)
        go_wp2
        go_ret
        exact ⟨by rw [HB.out]; rfl, hb⟩

end Go.Proofs.Ytelhckckcilpaaa

namespace Go.Proofs.Ytelhckckcilpaaa
open Go Go.RowKit

/-- An outline, read: all lies below block B. -/
structure OutAt (w : World) (B : Nat) (A : Option Addr) (Ls : List (List Pt)) : Prop where
  at' : ∀ (i : Nat) (L : List Pt), Ls[i]? = some L → ∃ (b o : Nat) (Ai : Option Addr) (ci : Nat), A = some ⟨b, o, none⟩ ∧ b < B ∧ w.cell? ⟨b, o + i, none⟩ = some (.slice Ai L.length ci) ∧ Lists w B Ai (ptCells L)
theorem OutAt.below {w w1 : World} {B : Nat} {A : Option Addr} {Ls : List (List Pt)} (h : OutAt w B A Ls) (hb : Below B w w1) : OutAt w1 B A Ls :=
  ⟨fun i L hL => by
    obtain ⟨b, o, Ai, ci, h1, h2, h3, h4⟩ := h.at' i L hL
    exact ⟨b, o, Ai, ci, h1, h2, (hb.cell (p := ⟨b, o + i, none⟩) h2).trans h3, h4.below hb⟩⟩
theorem OutAt.more {w : World} {B B1 : Nat} {A : Option Addr} {Ls : List (List Pt)} (h : OutAt w B A Ls) (hB : B ≤ B1) : OutAt w B1 A Ls :=
  ⟨fun i L hL => by
    obtain ⟨b, o, Ai, ci, h1, h2, h3, h4⟩ := h.at' i L hL
    exact ⟨b, o, Ai, ci, h1, Nat.lt_of_lt_of_le h2 hB, h3, h4.more hB⟩⟩
/-- Small enough to be reckoned with. -/
def Sm (Ls : List (List Pt)) : Prop := Ls.length ≤ 100000 ∧ ∀ L ∈ Ls, L.length ≤ 100000
def cntO (Ls : List (List Pt)) : Nat := (Ls.map List.length).sum
theorem cntO_snoc (Ls : List (List Pt)) (L : List Pt) : cntO (Ls ++ [L]) = cntO Ls + L.length := by simp [cntO]
theorem cntO_le {Ls : List (List Pt)} {m : Nat} (h : ∀ L ∈ Ls, L.length ≤ m) : cntO Ls ≤ Ls.length * m := by
  induction Ls with
  | nil => simp [cntO]
  | cons L Ls ih =>
    have h1 := ih fun M hM => h M (by simp [hM])
    have h2 := h L (by simp)
    simp only [cntO, List.map_cons, List.sum_cons, List.length_cons, Nat.add_mul, Nat.one_mul] at *
    omega
theorem take_snoc1 {α : Type} {L : List α} {k : Nat} {x : α} (h : L[k]? = some x) : L.take (k + 1) = L.take k ++ [x] := by
  rw [List.take_add_one, h]; rfl
theorem all_cut {α : Type} {L : List α} {k : Nat} {x : α} {f : α → Bool} (h : L[k]? = some x) (hf : f x = false) : L.all f = false := by
  cases h2 : L.all f
  · rfl
  · rw [List.all_eq_true] at h2
    rw [h2 x (List.mem_of_getElem? h)] at hf; cases hf
theorem all_snoc {α : Type} {L : List α} {k : Nat} {x : α} {f : α → Bool} (h : L[k]? = some x) (h1 : (L.take k).all f = true) (hf : f x = true) : (L.take (k + 1)).all f = true := by
  rw [take_snoc1 h, List.all_append, h1]; simp [hf]
def chkE (Ls : List (List Pt)) : Int := if 256 < Ls.length ∨ 4096 < cntO Ls then 100 else if Ls.all mayC then 0 else 101
def rchkE (Ls : List (List Pt)) : Int := if 256 < Ls.length ∨ 4096 < cntO Ls then 100 else if Ls.all rmayC then 0 else 101

set_option maxRecDepth 100000 in
theorem count_any (B : Nat) (A : Option Addr) (c : Nat) (Ls : List (List Pt)) (w : World) (hB : B ≤ w.heap.size) (h : OutAt w B A Ls) (hs : Sm Ls) :
    Calls Try.prog 65 #[.slice A Ls.length c] w fun e w' => e = .returned (.int .i64 (cntO Ls : Nat)) ∧ Below w.heap.size w w' := by
  have hn := hs.1
  have HM := Lib.hid hs.2
  have HL := Lib.hid h
  obtain ⟨n, hnn⟩ : ∃ n, n = Ls.length := ⟨_, rfl⟩
  rw [← hnn] at hn ⊢
  have HN := Lib.hid hnn
  clear h hnn hs
  go_enter Try.func65, Try.ntmps65
  go_wp2
  go_loopw [3, 8] (fun s i wr => ∃ k : Nat, k ≤ n ∧ i = .int .i64 k ∧ s = .int .i64 (cntO (Ls.take k) : Nat) ∧ Below w.heap.size w wr) (fun _ i _ => n - (intOf i).toNat)
  case atStart => exact ⟨0, Nat.zero_le _, rfl, rfl, Below.refl _ _⟩
  case round =>
    obtain ⟨k, hk, rfl, rfl, hb⟩ := hrel
    by_cases hlt : k < n
    · have d1 : decide ((k : Int) < (n : Int)) = true := by simp; omega
      obtain ⟨L, hL⟩ := at_some (L := Ls) (k := k) (by rw [← HN.out]; exact hlt)
      obtain ⟨b, o, Ai, ci, rfl, hbl, c0, hE⟩ := HL.out.at' k L hL
      have g0 := (hb.cell (p := ⟨b, o + k, none⟩) (Nat.lt_of_lt_of_le hbl hB)).trans c0
      have g3 : b < wr.heap.size := by have := hb.size; omega
      have HS := Lib.hid (show cntO (Ls.take (k + 1)) = cntO (Ls.take k) + L.length by rw [take_snoc1 hL, cntO_snoc])
      have hl : L.length ≤ 100000 := HM.out L (List.mem_of_getElem? hL)
      have hc : cntO (Ls.take k) ≤ 10000000000 := Nat.le_trans (cntO_le fun M hM => HM.out M (List.mem_of_mem_take hM)) (by have : (Ls.take k).length ≤ 100000 := Nat.le_trans (List.length_take_le _ _) (by omega); omega)
      clear c0 hE hL
      generalize L.length = l at *
      generalize cntO (Ls.take k) = s at *
      go_wp2
      go_roundw
      case rel => exact ⟨k + 1, by omega, by go_num, congrArg (Value.int .i64) (by rw [HS.out]; omega), hb⟩
      case measure => simp [intOf]; omega
    · obtain rfl : k = n := by omega
      have d1 : decide ((k : Int) < (k : Int)) = false := by simp
      have HT := Lib.hid (show Ls.take k = Ls by rw [HN.out]; exact List.take_length)
      go_wp2
      go_ret
      exact ⟨by rw [HT.out]; rfl, hb⟩

set_option maxRecDepth 100000 in
theorem rcount_any (B : Nat) (A : Option Addr) (c : Nat) (Ls : List (List Pt)) (w : World) (hB : B ≤ w.heap.size) (h : OutAt w B A Ls) (hs : Sm Ls) :
    Calls Try.prog 79 #[.slice A Ls.length c] w fun e w' => e = .returned (.int .i64 (cntO Ls : Nat)) ∧ Below w.heap.size w w' := by
  have hn := hs.1
  have HM := Lib.hid hs.2
  have HL := Lib.hid h
  obtain ⟨n, hnn⟩ : ∃ n, n = Ls.length := ⟨_, rfl⟩
  rw [← hnn] at hn ⊢
  have HN := Lib.hid hnn
  clear h hnn hs
  go_enter Try.func79, Try.ntmps79
  go_wp2
  go_loopw [3, 4] (fun s i wr => ∃ k : Nat, k ≤ n ∧ i = .int .i64 k ∧ s = .int .i64 (cntO (Ls.take k) : Nat) ∧ Below w.heap.size w wr) (fun _ i _ => n - (intOf i).toNat)
  case atStart => exact ⟨0, Nat.zero_le _, rfl, rfl, Below.refl _ _⟩
  case round =>
    obtain ⟨k, hk, rfl, rfl, hb⟩ := hrel
    by_cases hlt : k < n
    · have d1 : decide ((k : Int) < (n : Int)) = true := by simp; omega
      obtain ⟨L, hL⟩ := at_some (L := Ls) (k := k) (by rw [← HN.out]; exact hlt)
      obtain ⟨b, o, Ai, ci, rfl, hbl, c0, hE⟩ := HL.out.at' k L hL
      have g0 := (hb.cell (p := ⟨b, o + k, none⟩) (Nat.lt_of_lt_of_le hbl hB)).trans c0
      have g3 : b < wr.heap.size := by have := hb.size; omega
      have HS := Lib.hid (show cntO (Ls.take (k + 1)) = cntO (Ls.take k) + L.length by rw [take_snoc1 hL, cntO_snoc])
      have hl : L.length ≤ 100000 := HM.out L (List.mem_of_getElem? hL)
      have hc : cntO (Ls.take k) ≤ 10000000000 := Nat.le_trans (cntO_le fun M hM => HM.out M (List.mem_of_mem_take hM)) (by have : (Ls.take k).length ≤ 100000 := Nat.le_trans (List.length_take_le _ _) (by omega); omega)
      clear c0 hE hL
      generalize L.length = l at *
      generalize cntO (Ls.take k) = s at *
      go_wp2
      go_roundw
      case rel => exact ⟨k + 1, by omega, by go_num, congrArg (Value.int .i64) (by rw [HS.out]; omega), hb⟩
      case measure => simp [intOf]; omega
    · obtain rfl : k = n := by omega
      have d1 : decide ((k : Int) < (k : Int)) = false := by simp
      have HT := Lib.hid (show Ls.take k = Ls by rw [HN.out]; exact List.take_length)
      go_wp2
      go_ret
      exact ⟨by rw [HT.out]; rfl, hb⟩

theorem notMay_any (B : Nat) (Ai : Option Addr) (c : Nat) (L : List Pt) (w : World) (hB : B ≤ w.heap.size) (h : Lists w B Ai (ptCells L)) (hn : L.length ≤ 10000000) :
    Calls Try.prog 67 #[.slice Ai L.length c] w fun e w' => e = .returned (.bool (!mayC L)) ∧ Below w.heap.size w w' := by
  have C := maybe_any B Ai c L w hB h hn
  clear h
  go_enter Try.func67, Try.ntmps67
  go_wp2_with (first | (go_at_call 68; ((with_reducible refine (C).mono ?_); rintro e w1 ⟨rfl, b⟩)))
  go_ret
  exact ⟨rfl, b⟩
def FoundBad (w : World) (Ls : List (List Pt)) (e : Ending) (w' : World) : Prop := ∃ r : Int, e = .returned (.int .i64 r) ∧ decide (0 ≤ r) = (!Ls.all mayC) ∧ Below w.heap.size w w'

set_option maxRecDepth 100000 in
theorem findBad_any (B : Nat) (A : Option Addr) (c : Nat) (Ls : List (List Pt)) (w : World) (hB : B ≤ w.heap.size) (h : OutAt w B A Ls) (hs : Sm Ls) :
    Calls Try.prog 88 #[.slice A Ls.length c, .func (.func 67) #[] #[]] w fun e w' => FoundBad w Ls e w' := by
  have HL := Lib.hid h
  have HM := Lib.hid hs.2
  have hn := hs.1
  clear h hs
  obtain ⟨n, hnn⟩ : ∃ n, n = Ls.length := ⟨_, rfl⟩
  rw [← hnn] at hn ⊢
  have HN := Lib.hid hnn
  clear hnn
  go_enter Try.func88, Try.ntmps88
  go_wp2
  go_loopw [8] (fun i wr => ∃ k : Nat, k ≤ n ∧ i = .int .i64 k ∧ Hid ((Ls.take k).all mayC = true) ∧ Below w.heap.size w wr) (fun i _ => n - (intOf i).toNat)
  case atStart => exact ⟨0, Nat.zero_le _, rfl, Lib.hid rfl, Below.refl _ _⟩
  case round =>
    obtain ⟨k, hk, rfl, HK, hb⟩ := hrel
    by_cases hlt : k < n
    · have d1 : decide ((k : Int) < (n : Int)) = true := by simp; omega
      obtain ⟨L, hL⟩ := at_some (L := Ls) (k := k) (by rw [← HN.out]; exact hlt)
      obtain ⟨b, o, Ai, ci, rfl, hbl, c0, hE⟩ := HL.out.at' k L hL
      have g0 := (hb.cell (p := ⟨b, o + k, none⟩) (Nat.lt_of_lt_of_le hbl hB)).trans c0
      have g3 : b < wr.heap.size := by have := hb.size; omega
      have C := notMay_any B Ai ci L wr (Nat.le_trans hB hb.size) (hE.below (hb.mono hB)) (by have := HM.out L (List.mem_of_getElem? hL); omega)
      cases h3 : mayC L
      · rw [h3] at C
        have HT := Lib.hid (show Ls.all mayC = false from all_cut hL h3)
        clear c0 hE hL h3
        go_wp2_with (first | (go_at_call 67; ((with_reducible refine (C).mono ?_); rintro e w1 ⟨rfl, b1⟩)))
        go_ret
        exact ⟨(k : Int), rfl, by rw [HT.out]; simp, hb.trans (b1.mono hb.size)⟩
      · rw [h3] at C
        have HT := Lib.hid (all_snoc hL HK.out h3)
        clear c0 hE hL h3
        go_wp2_with (first | (go_at_call 67; ((with_reducible refine (C).mono ?_); rintro e w1 ⟨rfl, b1⟩)))
        go_roundw
        case rel => exact ⟨k + 1, by omega, by go_num, HT, hb.trans (b1.mono hb.size)⟩
        case measure => simp [intOf]; omega
    · obtain rfl : k = n := by omega
      have d1 : decide ((k : Int) < (k : Int)) = false := by simp
      have HT := Lib.hid (show Ls.all mayC = true by have := HK.out; rwa [HN.out, List.take_length] at this)
      go_wp2
      go_ret
      exact ⟨-1, rfl, by rw [HT.out]; rfl, hb⟩

theorem hasBad_any (B : Nat) (A : Option Addr) (c : Nat) (Ls : List (List Pt)) (w : World) (hB : B ≤ w.heap.size) (h : OutAt w B A Ls) (hs : Sm Ls) :
    Calls Try.prog 66 #[.slice A Ls.length c, .func (.func 67) #[] #[]] w fun e w' => e = .returned (.bool (!Ls.all mayC)) ∧ Below w.heap.size w w' := by
  have C := findBad_any B A c Ls w hB h hs
  clear h
  go_enter Try.func66, Try.ntmps66
  go_wp2_with (first | (go_at_call 88; ((with_reducible refine (C).mono ?_); rintro e w1 ⟨r, rfl, hr, b⟩)))
  go_ret
  refine ⟨?_, b⟩
  rw [← hr]
  rfl
theorem rmay_all {B : Nat} {A : Option Addr} {Ls : List (List Pt)} {w : World} (hB : B ≤ w.heap.size) (_ : OutAt w B A Ls) (hs : Sm Ls) {k : Nat} {L : List Pt} (hL : Ls[k]? = some L) :
    ∀ (Ai : Option Addr) (ci : Nat) (w1 : World), Below w.heap.size w w1 → Lists w B Ai (ptCells L) → Calls Try.prog 80 #[.slice Ai L.length ci] w1 fun e w' => e = .returned (.bool (rmayC L)) ∧ Below w1.heap.size w1 w' :=
  fun Ai ci w1 hb hE => rmay_any B Ai ci L w1 (Nat.le_trans hB hb.size) (hE.below (hb.mono hB)) (by have := hs.2 L (List.mem_of_getElem? hL); omega)

set_option maxRecDepth 100000 in
theorem check_any (B : Nat) (A : Option Addr) (c : Nat) (Ls : List (List Pt)) (w : World) (hB : B ≤ w.heap.size) (h : OutAt w B A Ls) (hs : Sm Ls) :
    Calls Try.prog 31 #[.slice A Ls.length c] w fun e w' => e = .returned (.int .i64 (chkE Ls)) ∧ Below w.heap.size w w' := by
  have C1 := count_any B A c Ls w hB h hs
  unfold chkE
  by_cases h1 : 256 < Ls.length
  · rw [if_pos (.inl h1)]
    clear C1
    obtain ⟨n, hnn⟩ : ∃ n, n = Ls.length := ⟨_, rfl⟩
    rw [← hnn] at h1 ⊢
    clear h hnn
    have d1 : decide (256 < (n : Int)) = true := by simp; omega
    go_enter Try.func31, Try.ntmps31
    go_wp2
    go_ret
    exact ⟨rfl, Below.refl _ _⟩
  · by_cases h2 : 4096 < cntO Ls
    · rw [if_pos (.inr h2)]
      obtain ⟨n, hnn⟩ : ∃ n, n = Ls.length := ⟨_, rfl⟩
      rw [← hnn] at h1 C1 ⊢
      generalize cntO Ls = s at *
      clear h hnn
      have d1 : decide (256 < (n : Int)) = false := by simp; omega
      have d2 : decide (4096 < (s : Int)) = true := by simp; omega
      go_enter Try.func31, Try.ntmps31
      go_wp2_with (first | (go_at_call 65; ((with_reducible refine (C1).mono ?_); rintro e w1 ⟨rfl, b1⟩)))
      go_ret
      exact ⟨rfl, b1⟩
    · rw [if_neg (by omega)]
      have C2 := fun (w1 : World) (b1 : Below w.heap.size w w1) => hasBad_any B A c Ls w1 (Nat.le_trans hB b1.size) (h.below (b1.mono hB)) hs
      obtain ⟨n, hnn⟩ : ∃ n, n = Ls.length := ⟨_, rfl⟩
      rw [← hnn] at h1 C1 C2 ⊢
      generalize cntO Ls = s at *
      clear h hnn
      have d1 : decide (256 < (n : Int)) = false := by simp; omega
      have d2 : decide (4096 < (s : Int)) = false := by simp; omega
      cases h3 : Ls.all mayC
      all_goals
        rw [h3] at C2
        go_enter Try.func31, Try.ntmps31
        go_wp2_with (first | (go_at_call 65; ((with_reducible refine (C1).mono ?_); rintro e w1 ⟨rfl, b1⟩)) | (go_at_call 66; ((with_reducible refine (C2 _ b1).mono ?_); rintro e w2 ⟨rfl, b2⟩)))
        go_ret
        exact ⟨rfl, b1.trans (b2.mono b1.size)⟩

set_option maxRecDepth 100000 in
theorem rcheck_any (B : Nat) (A : Option Addr) (c : Nat) (Ls : List (List Pt)) (w : World) (hB : B ≤ w.heap.size) (h : OutAt w B A Ls) (hs : Sm Ls) :
    Calls Try.prog 49 #[.slice A Ls.length c] w fun e w' => e = .returned (.int .i64 (rchkE Ls)) ∧ Below w.heap.size w w' := by
  have C1 := rcount_any B A c Ls w hB h hs
  unfold rchkE
  by_cases h1 : 256 < Ls.length
  · rw [if_pos (.inl h1)]
    clear C1
    obtain ⟨n, hnn⟩ : ∃ n, n = Ls.length := ⟨_, rfl⟩
    rw [← hnn] at h1 ⊢
    clear h hnn
    have d1 : decide (256 < (n : Int)) = true := by simp; omega
    go_enter Try.func49, Try.ntmps49
    go_wp2
    go_ret
    exact ⟨rfl, Below.refl _ _⟩
  · by_cases h2 : 4096 < cntO Ls
    · rw [if_pos (.inr h2)]
      obtain ⟨n, hnn⟩ : ∃ n, n = Ls.length := ⟨_, rfl⟩
      rw [← hnn] at h1 C1 ⊢
      generalize cntO Ls = s at *
      clear h hnn
      have d1 : decide (256 < (n : Int)) = false := by simp; omega
      have d2 : decide (4096 < (s : Int)) = true := by simp; omega
      go_enter Try.func49, Try.ntmps49
      go_wp2_with (first | (go_at_call 79; ((with_reducible refine (C1).mono ?_); rintro e w1 ⟨rfl, b1⟩)))
      go_ret
      exact ⟨rfl, b1⟩
    · rw [if_neg (by omega)]
      obtain ⟨r, hr⟩ : ∃ r : Int, r = (if Ls.all rmayC = true then 0 else 101) := ⟨_, rfl⟩
      rw [← hr]
      have HR := Lib.hid hr
      clear hr
      have CM := fun (k : Nat) (L : List Pt) (hL : Ls[k]? = some L) => rmay_all hB h hs hL
      have HL := Lib.hid h
      have HM := Lib.hid hs.2
      have hn := hs.1
      obtain ⟨n, hnn⟩ : ∃ n, n = Ls.length := ⟨_, rfl⟩
      rw [← hnn] at h1 C1 hn ⊢
      generalize cntO Ls = s at *
      have HN := Lib.hid hnn
      clear h hnn hs
      have d1 : decide (256 < (n : Int)) = false := by simp; omega
      have d2 : decide (4096 < (s : Int)) = false := by simp; omega
      go_enter Try.func49, Try.ntmps49
      go_wp2_with (first | (go_at_call 79; ((with_reducible refine (C1).mono ?_); rintro e w1 ⟨rfl, b1⟩)))
      go_loopw [3] (fun i wr => ∃ k : Nat, k ≤ n ∧ i = .int .i64 k ∧ Hid ((Ls.take k).all rmayC = true) ∧ Below w.heap.size w wr) (fun i _ => n - (intOf i).toNat)
      case atStart => exact ⟨0, Nat.zero_le _, rfl, Lib.hid rfl, b1⟩
      case round =>
        obtain ⟨k, hk, rfl, HK, hb⟩ := hrel
        by_cases hlt : k < n
        · have d3 : decide ((k : Int) < (n : Int)) = true := by simp; omega
          obtain ⟨L, hL⟩ := at_some (L := Ls) (k := k) (by rw [← HN.out]; exact hlt)
          obtain ⟨b, o, Ai, ci, rfl, hbl, c0, hE⟩ := HL.out.at' k L hL
          have g0 := (hb.cell (p := ⟨b, o + k, none⟩) (Nat.lt_of_lt_of_le hbl hB)).trans c0
          have g3 : b < wr.heap.size := by have := hb.size; omega
          obtain CM := CM k L hL Ai ci wr hb
          have CM := CM (by
            obtain ⟨b', o', Ai', ci', e1, _, c1, hE'⟩ := HL.out.at' k L hL
            cases e1
            rw [c0] at c1
            cases c1
            exact hE')
          cases h3 : rmayC L
          · rw [h3] at CM
            have HB := Lib.hid (show Ls.all rmayC = false from all_cut hL h3)
            clear c0 hE hL
            go_wp2_with (first | (go_at_call 80; ((with_reducible refine (CM).mono ?_); rintro e w2 ⟨rfl, b2⟩)))
            go_ret
            exact ⟨by rw [HR.out, HB.out]; rfl, hb.trans (b2.mono hb.size)⟩
          · rw [h3] at CM
            have HS := Lib.hid (all_snoc hL HK.out h3)
            clear c0 hE hL
            go_wp2_with (first | (go_at_call 80; ((with_reducible refine (CM).mono ?_); rintro e w2 ⟨rfl, b2⟩)))
            go_roundw
            case rel => exact ⟨k + 1, by omega, by go_num, HS, hb.trans (b2.mono hb.size)⟩
            case measure => simp [intOf]; omega
        · obtain rfl : k = n := by omega
          have d3 : decide ((k : Int) < (k : Int)) = false := by simp
          have HB := Lib.hid (show Ls.all rmayC = true by have := HK.out; rwa [HN.out, List.take_length] at this)
          go_wp2
          go_ret
          exact ⟨by rw [HR.out, HB.out]; rfl, hb⟩

def bigB (Ls : List (List Pt)) : Bool := decide (300 < Ls.length) || decide (5000 < cntO Ls)
theorem big_no {Ls : List (List Pt)} (h : bigB Ls = false) : Ls.length ≤ 300 ∧ cntO Ls ≤ 5000 := by
  unfold bigB at h
  simp at h
  omega

end Go.Proofs.Ytelhckckcilpaaa

namespace Go.Proofs.Ytelhckckcilpaaa
open Go Go.RowKit

theorem ptInfo : (Try.prog.info? 57).map (fun i => (i.zero, i.size, i.bytes)) = some (some (.agg #[.int .i64 0, .int .i64 0, .int .i64 0]), 3, 24) := by kernel_rfl
theorem rowInfo : (Try.prog.info? 43).map (fun i => (i.zero, i.size, i.bytes)) = some (some (.slice none 0 0), 1, 24) := by kernel_rfl
theorem info_parts1 {o : Option TypeInfo} {z : Option Value} {n b : Nat} (h : o.map (fun i => (i.zero, i.size, i.bytes)) = some (z, n, b)) : ∃ i, o = some i ∧ i.zero = z ∧ i.size = n ∧ i.bytes = b := by
  cases o with
  | none => cases h
  | some i => simp at h; exact ⟨i, rfl, h.1, h.2.1, h.2.2⟩
theorem lists_new1 (w : World) (v : Value) (T : TypeId) : Lists (w.alloc (.cells #[v] T)) (w.heap.size + 1) (some ⟨w.heap.size, 0, none⟩) [v] :=
  ⟨fun ha => (nomatch ha), fun a ha j u hu => by
    cases ha
    have : j = 0 := by
      have := (List.getElem?_eq_some_iff.1 hu).1
      simp at this; omega
    subst this
    simp at hu; subst hu
    rw [addr_plain, World.cell?_alloc_new]; rfl, fun a ha _ => by cases ha; simp⟩
theorem own_none (w : World) (T : TypeId) (size : Nat) : (w.alloc (.cells #[] T)).ownsRow w.heap.size T size (.slice (some ⟨w.heap.size, 0, none⟩) 0 0) 0 [] :=
  ⟨by simp, .inr ⟨w.heap.size, 0, #[], rfl, Nat.le_refl _, heap_alloc_new w _, Nat.le_refl _, Nat.zero_le _, by simp, by simp⟩⟩
theorem own_low2 {w : World} {base : Nat} {e : TypeId} {size n : Nat} {v : Value} {xs : List Value} (h : w.ownsRow base e size v n xs) : ∀ b ∈ blk v, base ≤ b := by
  intro b hm
  rcases h.2 with ⟨rfl, _⟩ | ⟨g, cap, cur, rfl, h2, _⟩
  · simp [blk, Value.ownBlock] at hm
  · have : b = g := by simpa [blk, Value.ownBlock] using hm
    omega
theorem own_stay {w w1 : World} {base : Nat} {e : TypeId} {size n : Nat} {v : Value} {xs : List Value} (h : w.ownsRow base e size v n xs) (b : Below w.heap.size w w1) : w1.ownsRow base e size v n xs :=
  own_only h (Only.of_below b []) fun _ _ h => (nomatch h)
theorem own_slice {w : World} {base : Nat} {e : TypeId} {size n : Nat} {v : Value} {xs : List Value} (h : w.ownsRow base e size v n xs) : v.oneCell' = true := by
  obtain ⟨A, c, rfl, _⟩ := own_lists h
  rfl

theorem own_mono {w : World} {base base1 : Nat} {e : TypeId} {size n : Nat} {v : Value} {xs : List Value} (h : w.ownsRow base e size v n xs) (hb : base1 ≤ base) : w.ownsRow base1 e size v n xs := by
  refine ⟨h.1, ?_⟩
  rcases h.2 with h1 | ⟨g, cap, cur, h1, h2, h3⟩
  · exact .inl h1
  · exact .inr ⟨g, cap, cur, h1, Nat.le_trans hb h2, h3⟩
def Inner (w : World) (base : Nat) (Ls : List (List Pt)) (rows : List Value) : Prop :=
  (∀ (i : Nat) (L : List Pt), Ls[i]? = some L → ∃ r, rows[i]? = some r ∧ w.ownsRow base 57 3 r L.length (ptCells L)) ∧
  ∀ (i j : Nat) (r s : Value), i ≠ j → rows[i]? = some r → rows[j]? = some s → ∀ b ∈ blk r, b ∉ blk s
/-- An outline that the call owns: the list of contours, and each contour in memory of its own. -/
def Own2 (w : World) (base : Nat) (v : Value) (Ls : List (List Pt)) : Prop :=
  ∃ rows : List Value, w.ownsRow base 43 1 v Ls.length rows ∧ Inner w base Ls rows
theorem Own2.nil (w : World) (base : Nat) : Own2 w base (.slice none 0 0) [] := ⟨[], World.ownsRow_nil _ _ _ _, fun i L h => by simp at h, fun i j r s _ h => by simp at h⟩
theorem Inner.below {w w1 : World} {base : Nat} {Ls : List (List Pt)} {rows : List Value} (h : Inner w base Ls rows) (b : Below w.heap.size w w1) : Inner w1 base Ls rows :=
  ⟨fun i L hL => by
    obtain ⟨r, h1, h2⟩ := h.1 i L hL
    exact ⟨r, h1, own_stay h2 b⟩, h.2⟩
theorem Own2.below {w w1 : World} {base : Nat} {v : Value} {Ls : List (List Pt)} (h : Own2 w base v Ls) (b : Below w.heap.size w w1) : Own2 w1 base v Ls := by
  obtain ⟨rows, h1, h2⟩ := h
  exact ⟨rows, own_stay h1 b, h2.below b⟩
theorem Own2.mono {w : World} {base base1 : Nat} {v : Value} {Ls : List (List Pt)} (h : Own2 w base v Ls) (hb : base1 ≤ base) : Own2 w base1 v Ls := by
  obtain ⟨rows, h1, h2, h3⟩ := h
  refine ⟨rows, own_mono h1 hb, fun i L hL => ?_, h3⟩
  obtain ⟨r, h4, h5⟩ := h2 i L hL
  exact ⟨r, h4, own_mono h5 hb⟩
theorem own2_push {w w1 W w2 : World} {base : Nat} {v v2 r : Value} {Ls : List (List Pt)} {L : List Pt} {rows : List Value} (hb : base ≤ w.heap.size) (ho : w.ownsRow base 43 1 v Ls.length rows) (hi : Inner w base Ls rows)
    (b1 : Below w.heap.size w w1) (hr : w1.ownsRow w.heap.size 57 3 r L.length (ptCells L)) (b2 : Below w1.heap.size w1 W) (own2 : w2.ownsRow base 43 1 v2 (Ls.length + 1) (rows ++ [r])) (hg : W.grownBy w2 v.ownBlock) : Own2 w2 base v2 (Ls ++ [L]) := by
  have o2 : Only W w2 (blk v) := (Only.refl _ _).grown hg (fun b hb => .inl (by simp [blk, hb]))
  have hoW := own_stay (own_stay ho b1) b2
  have hlen : rows.length = Ls.length := by simpa using ho.1
  have stay : ∀ {q : Value} {m : Nat} {cs : List Value}, W.ownsRow base 57 3 q m cs → w2.ownsRow base 57 3 q m cs := fun hq => own_only hq o2 (fun b h1 h2 => own_own hq hoW (by decide) b h1 h2)
  refine ⟨rows ++ [r], by simpa using own2, fun i M hM => ?_, fun i j p s hne hp hs b hbp hbs => ?_⟩
  · rcases Nat.lt_or_ge i Ls.length with h | h
    · rw [List.getElem?_append_left h] at hM
      obtain ⟨q, h1, h2⟩ := hi.1 i M hM
      exact ⟨q, by rw [List.getElem?_append_left (by omega)]; exact h1, stay (own_stay (own_stay h2 b1) b2)⟩
    · have h0 : i = Ls.length := by
        have := (List.getElem?_eq_some_iff.1 hM).1
        simp at this; omega
      subst h0
      simp at hM
      subst hM
      refine ⟨r, by rw [← hlen]; simp, stay (own_mono (own_stay hr b2) hb)⟩
  · have hlast : ∀ (k : Nat) (x : Value), (rows ++ [r])[k]? = some x → (k < rows.length ∧ rows[k]? = some x) ∨ (k = rows.length ∧ x = r) := fun k x hx => by
      rcases Nat.lt_or_ge k rows.length with h | h
      · rw [List.getElem?_append_left h] at hx
        exact .inl ⟨h, hx⟩
      · have h0 : k = rows.length := by
          have := (List.getElem?_eq_some_iff.1 hx).1
          simp at this; omega
        subst h0
        simp at hx
        exact .inr ⟨rfl, hx.symm⟩
    have old : ∀ (k : Nat) (x : Value), k < rows.length → rows[k]? = some x → ∀ b ∈ blk x, b < w.heap.size := fun k x hk hx b hm => by
      obtain ⟨M, hM⟩ := at_some (L := Ls) (k := k) (by omega)
      obtain ⟨q, h1, h2⟩ := hi.1 k M hM
      rw [hx] at h1; cases h1
      exact blk_lt h2 b hm
    have new : ∀ b ∈ blk r, w.heap.size ≤ b := own_low2 hr
    rcases hlast i p hp with ⟨h1, h2⟩ | ⟨h1, rfl⟩
    · rcases hlast j s hs with ⟨h3, h4⟩ | ⟨h3, rfl⟩
      · exact hi.2 i j p s hne h2 h4 b hbp hbs
      · have := old i p h1 h2 b hbp
        have := new b hbs
        omega
    · rcases hlast j s hs with ⟨h3, h4⟩ | ⟨h3, rfl⟩
      · have := old j s h3 h4 b hbs
        have := new b hbp
        omega
      · omega
theorem Own2.out {w : World} {base : Nat} {v : Value} {Ls : List (List Pt)} (h : Own2 w base v Ls) : ∃ A c, v = .slice A Ls.length c ∧ OutAt w w.heap.size A Ls := by
  obtain ⟨rows, h1, h2, _⟩ := h
  obtain ⟨A, c, rfl, hl, hc⟩ := own_lists h1
  refine ⟨A, c, rfl, ⟨fun i L hL => ?_⟩⟩
  obtain ⟨r, hr, hro⟩ := h2 i L hL
  obtain ⟨Ai, ci, rfl, hli, _⟩ := own_lists hro
  obtain ⟨b, o, rfl, hb, hcell⟩ := hl.plain (by intro e; subst e; simp at hr)
  exact ⟨b, o, Ai, ci, rfl, hb, hcell i _ hr, hli⟩

def MadeOut (w : World) (Ls : List (List Pt)) (e : Ending) (w' : World) : Prop := ∃ v, e = .returned v ∧ Own2 w' w.heap.size v Ls ∧ Below w.heap.size w w'
def MadeRow (w : World) (L : List Pt) (e : Ending) (w' : World) : Prop := ∃ r, e = .returned r ∧ w'.ownsRow w.heap.size 57 3 r L.length (ptCells L) ∧ Below w.heap.size w w'

end Go.Proofs.Ytelhckckcilpaaa

namespace Go.Proofs.Ytelhckckcilpaaa
open Go Go.RowKit
set_option linter.unusedVariables false
set_option linter.unusedSimpArgs false
variable {q : Nat → Prop}

def rf1 (bs : List Value) (k : Nat) (_ : Int) : Int × Nat := ((ub1 bs k : Int), k + 1)
def rf2 (bs : List Value) (k : Nat) (_ : Int) : Int × Nat := (ib2 bs k, k + 2)
def knd (f : Nat) : Int := if bt f 0 then 1 else 2
def ptsC : List Nat → List Int → List Int → Int → Int → Option (List Pt)
  | f :: F, a :: X, b :: Y, x, y => if inS (x + a) && inS (y + b) then (ptsC F X Y (x + a) (y + b)).map (((x + a) * 65536, (y + b) * 65536, knd f) :: ·) else none
  | _, _, _, _, _ => some []
/-- What readPoints finds, and where the reader then stands. -/
def rpX (bs : List Value) (n : Nat) (F : List Nat) (k : Nat) : List Int × Nat := carr (rf1 bs) (rf2 bs) 1 4 F (zer n) k
def rpY (bs : List Value) (n : Nat) (F : List Nat) (k : Nat) : List Int × Nat := carr (rf1 bs) (rf2 bs) 2 5 F (zer n) (rpX bs n F k).2
def rpC (bs : List Value) (n k : Nat) : Option (List Pt) :=
  if (flgC bs n n k []).1.length = n then ptsC (flgC bs n n k []).1 (rpX bs n (flgC bs n n k []).1 (flgC bs n n k []).2).1 (rpY bs n (flgC bs n n k []).1 (flgC bs n n k []).2).1 0 0 else none
def rpK (bs : List Value) (n k : Nat) : Nat := (rpY bs n (flgC bs n n k []).1 (flgC bs n n k []).2).2
def RPtsP (q : Nat → Prop) (w : World) (p : Nat) (bs : List Value) (n k3 : Nat) (R : Option (List Pt)) (e : Ending) (w' : World) : Prop :=
  (match R with
   | none => e = .returned (.tuple #[.slice none 0 0, .bool false]) ∧ ∃ k2, RS q w' p bs k2
   | some L => ∃ v, e = .returned (.tuple #[v, .bool true]) ∧ w'.ownsRow w.heap.size 57 3 v L.length (ptCells L) ∧ L.length = n ∧ RS q w' p bs k3) ∧ Only w w' [p]
theorem RPtsP.no {q : Nat → Prop} {w w' : World} {p n k3 : Nat} {bs : List Value} {R : Option (List Pt)} (h : R = none) (k2 : Nat) (r : RS q w' p bs k2) (o : Only w w' [p]) : RPtsP q w p bs n k3 R (.returned (.tuple #[.slice none 0 0, .bool false])) w' := by
  subst h; exact ⟨⟨rfl, k2, r⟩, o⟩
theorem RPtsP.yes {q : Nat → Prop} {w w' : World} {p n k3 : Nat} {bs : List Value} {R : Option (List Pt)} {L : List Pt} {v : Value} (h : R = some L) (hv : w'.ownsRow w.heap.size 57 3 v L.length (ptCells L)) (hl : L.length = n) (r : RS q w' p bs k3) (o : Only w w' [p]) : RPtsP q w p bs n k3 R (.returned (.tuple #[v, .bool true])) w' := by
  subst h; exact ⟨⟨v, rfl, hv, hl, r⟩, o⟩
theorem flg_lt {bs : List Value} (h8 : Bytes8 bs) (n : Nat) : ∀ (j k : Nat) (acc : List Nat), (∀ f ∈ acc, f < 256) → ∀ f ∈ (flgC bs n j k acc).1, f < 256
  | 0, k, acc, h => h
  | j + 1, k, acc, h => by
    unfold flgC
    split
    · exact h
    · split
      · refine flg_lt h8 n j _ _ fun f hf => ?_
        rcases List.mem_append.1 hf with hf | hf
        · exact h f hf
        · rw [(List.mem_replicate.1 hf).2]; exact u1_lt h8 k
      · refine flg_lt h8 n j _ _ fun f hf => ?_
        rcases List.mem_append.1 hf with hf | hf
        · exact h f hf
        · simp at hf; subst hf; exact u1_lt h8 k
theorem zer_bnd (n : Nat) : ∀ x ∈ zer n, -100000 ≤ x ∧ x ≤ 100000 := fun x hx => by
  rw [(List.mem_replicate.1 hx).2]; omega
theorem rf1_bnd {bs : List Value} (h8 : Bytes8 bs) (s : Nat) (v : Int) (_ : -100000 ≤ v) (_ : v ≤ 100000) : -100000 ≤ (rf1 bs s v).1 ∧ (rf1 bs s v).1 ≤ 100000 := by
  have := u1_lt h8 s
  unfold rf1; dsimp only; omega
theorem rf2_bnd {bs : List Value} (h8 : Bytes8 bs) (s : Nat) (v : Int) (_ : -100000 ≤ v) (_ : v ≤ 100000) : -100000 ≤ (rf2 bs s v).1 ∧ (rf2 bs s v).1 ≤ 100000 := by
  unfold rf2 ib2 s16; have : ub2 bs s < 65536 := rsn_lt (rd2_lt h8 s); dsimp only; split <;> omega
theorem pts_next {F : List Nat} {X Y : List Int} {x y a b : Int} {i f : Nat} (hF : F[i]? = some f) (hX : X[i]? = some a) (hY : Y[i]? = some b) :
    ptsC (F.drop i) (X.drop i) (Y.drop i) x y = if inS (x + a) && inS (y + b) then (ptsC (F.drop (i + 1)) (X.drop (i + 1)) (Y.drop (i + 1)) (x + a) (y + b)).map (((x + a) * 65536, (y + b) * 65536, knd f) :: ·) else none := by
  obtain ⟨h1, h2⟩ := List.getElem?_eq_some_iff.1 hF
  obtain ⟨h3, h4⟩ := List.getElem?_eq_some_iff.1 hX
  obtain ⟨h5, h6⟩ := List.getElem?_eq_some_iff.1 hY
  rw [List.drop_eq_getElem_cons h1, List.drop_eq_getElem_cons h3, List.drop_eq_getElem_cons h5, h2, h4, h6]
  rfl
theorem pts_len : ∀ (F : List Nat) (X Y : List Int) (x y : Int) (L : List Pt), F.length = X.length → F.length = Y.length → ptsC F X Y x y = some L → L.length = F.length
  | [], _, _, x, y, L, _, _, h => by simp [ptsC] at h; subst h; rfl
  | f :: F, a :: X, b :: Y, x, y, L, h1, h2, h => by
    unfold ptsC at h
    split at h
    · cases hr : ptsC F X Y (x + a) (y + b) with
      | none => rw [hr] at h; simp at h
      | some M =>
        rw [hr] at h
        simp at h
        subst h
        simp [pts_len F X Y _ _ M (by simpa using h1) (by simpa using h2) hr]
    · simp at h
theorem ptInfoS : (Try.prog.info? 57).map (fun i => (i.zero, i.size, i.bytes)) = some (some (.agg #[.int .i64 0, .int .i64 0, .int .i64 0]), 3, 24) := by kernel_rfl
/-- Between two points. -/
structure PtQ (q : Nat → Prop) (p : Nat) (bs : List Value) (k3 : Nat) (w : World) (F : List Nat) (X Y : List Int) (R : Option (List Pt)) (n bx by_ : Nat) (fv : Value) (i : Nat) (acc : List Pt) (x y : Int) (v : Value) (W : World) : Prop where
  own : W.ownsRow w.heap.size 57 3 v acc.length (ptCells acc)
  len : acc.length = i
  run : R = (ptsC (F.drop i) (X.drop i) (Y.drop i) x y).map (acc ++ ·)
  xin : -32768 ≤ x ∧ x ≤ 32767 ∧ -32768 ≤ y ∧ y ≤ 32767
  fl : W.ownsRow w.heap.size 3 1 fv F.length (ints F)
  bx : Blk W bx 3 (X.map (Value.int .i64) ++ []).toArray
  by_ : Blk W by_ 3 (Y.map (Value.int .i64) ++ []).toArray
  rd : RS q W p bs k3
  on : Only w W [p]
end Go.Proofs.Ytelhckckcilpaaa

namespace Go.Proofs.Ytelhckckcilpaaa
open Go Go.RowKit
set_option linter.unusedVariables false
set_option linter.unusedSimpArgs false

/-- The first place at which p holds, or -1. -/
def idxP {α : Type} (p : α → Bool) : List α → Int
  | [] => -1
  | x :: L => if p x then 0 else (if idxP p L < 0 then -1 else idxP p L + 1)
theorem take_any_no {α : Type} {L : List α} {p : α → Bool} {k : Nat} {x : α} (hx : L[k]? = some x) (h : (L.take k).any p = false) (ht : p x = false) : (L.take (k + 1)).any p = false := by
  rw [List.take_add_one, hx]
  simp only [Option.toList_some, List.any_append, h, List.any_cons, ht, List.any_nil, Bool.or_self]
theorem idxP_none {α : Type} {p : α → Bool} : ∀ {L : List α}, L.any p = false → idxP p L = -1
  | [], _ => rfl
  | x :: L, h => by
    simp only [List.any_cons, Bool.or_eq_false_iff] at h
    have e := idxP_none h.2
    unfold idxP
    rw [h.1, e]
    rfl
theorem idxP_at {α : Type} {p : α → Bool} : ∀ {L : List α} {k : Nat} {x : α}, L[k]? = some x → (L.take k).any p = false → p x = true → idxP p L = k
  | [], k, x, h, _, _ => by simp at h
  | y :: L, 0, x, h, _, ht => by
    obtain rfl : y = x := by simpa using h
    unfold idxP
    rw [ht]
    rfl
  | y :: L, k + 1, x, h, hk, ht => by
    rw [List.take_succ_cons, List.any_cons, Bool.or_eq_false_iff] at hk
    have e := idxP_at (p := p) (L := L) (by simpa using h) hk.2 ht
    unfold idxP
    rw [hk.1, e, if_neg (by simp), if_neg (by omega)]
    rfl
def fmL (x : Int × Int) : List Value := [.int .i64 x.1, .int .i64 x.2]
theorem fmLen (x : Int × Int) : (fmL x).length = 2 := rfl
def F4 : List (Int × Int) := [(0, 0), (8, 1), (64, 2), (128, 4)]
/-- The form that find answers. -/
def fnd (p : Int × Int → Bool) : (Int × Int) × Bool :=
  if p (0, 0) then ((0, 0), true) else if p (8, 1) then ((8, 1), true) else if p (64, 2) then ((64, 2), true) else if p (128, 4) then ((128, 4), true) else ((0, 0), false)
theorem fnd_idx (p : Int × Int → Bool) : (p (0, 0) = true ∧ idxP p F4 = 0 ∧ fnd p = ((0, 0), true)) ∨ (p (0, 0) = false ∧ p (8, 1) = true ∧ idxP p F4 = 1 ∧ fnd p = ((8, 1), true)) ∨ (p (0, 0) = false ∧ p (8, 1) = false ∧ p (64, 2) = true ∧ idxP p F4 = 2 ∧ fnd p = ((64, 2), true)) ∨ (p (0, 0) = false ∧ p (8, 1) = false ∧ p (64, 2) = false ∧ p (128, 4) = true ∧ idxP p F4 = 3 ∧ fnd p = ((128, 4), true)) ∨ (p (0, 0) = false ∧ p (8, 1) = false ∧ p (64, 2) = false ∧ p (128, 4) = false ∧ idxP p F4 = -1 ∧ fnd p = ((0, 0), false)) := by
  unfold fnd F4 idxP
  cases h0 : p (0, 0)
  · cases h1 : p (8, 1)
    · cases h2 : p (64, 2)
      · cases h3 : p (128, 4) <;> simp [idxP, h1, h2, h3]
      · simp [idxP, h1, h2]
    · simp [idxP, h1]
  · simp
end Go.Proofs.Ytelhckckcilpaaa

namespace Go.Proofs.Ytelhckckcilpaaa
open Go Go.RowKit
set_option linter.unusedVariables false
set_option linter.unusedSimpArgs false
variable {q : Nat → Prop}

theorem bits_200 (f : Nat) (hf : f < 65536) : bits .and .i64 (f : Int) 200 = (b200 f : Nat) := by
  rw [show (200 : Int) = ((200 : Nat) : Int) from rfl, and_nat f 200 (by omega) (by omega), and_200]
theorem fnd_frm (f : Nat) : ∃ b : Int, fnd (fun x => x.1 == (b200 f : Int)) = ((b, ((matN f : Nat) : Int)), (frm f).isSome) := by
  unfold matN
  rcases frm_cases f with ⟨h, e⟩ | ⟨h, e⟩ | ⟨h, e⟩ | ⟨h, e⟩ | ⟨h0, h1, h2, h3, e⟩
  · exact ⟨0, by rw [e, h]; rfl⟩
  · exact ⟨8, by rw [e, h]; rfl⟩
  · exact ⟨64, by rw [e, h]; rfl⟩
  · exact ⟨128, by rw [e, h]; rfl⟩
  · refine ⟨0, ?_⟩
    rw [e]
    unfold fnd
    have n0 : ((0 : Int) == (b200 f : Int)) = false := by simp; omega
    have n1 : ((8 : Int) == (b200 f : Int)) = false := by simp; omega
    have n2 : ((64 : Int) == (b200 f : Int)) = false := by simp; omega
    have n3 : ((128 : Int) == (b200 f : Int)) = false := by simp; omega
    simp only [n0, n1, n2, n3]
    rfl
/-- Take: what it answers does not matter here. -/
def TookS (q : Nat → Prop) (w : World) (p : Nat) (bs : List Value) (k : Nat) (e : Ending) (w' : World) : Prop := ∃ v, e = .returned v ∧ RS q w' p bs k ∧ Only w w' [p]
set_option maxRecDepth 100000 in
theorem rs_take (p : Nat) (bs : List Value) (k m : Nat) (w : World) (h : RS q w p bs k) (hL : bs.length ≤ 140737488355328) (hm : 0 < m) :
    Calls Try.prog 18 #[.pointer (some ⟨p, 0, none⟩), .int .i64 m] w (TookS q w p bs (k + m)) := by
  have h8 := h.bytes
  have C : Calls Try.prog 56 #[.pointer (some ⟨p, 0, none⟩), .int .i64 m] w fun e w' => ∃ A E, e = .returned (.slice A E.length E.length) ∧ Lists w' w'.heap.size A E ∧ Bytes8 E ∧ E.length ≤ 140737488355328 ∧ RS q w' p bs (k + m) ∧ Only w w' [p] := by
    rcases h with ⟨h1, h2⟩ | ⟨h1, i, h2⟩
    · by_cases hk : k + m ≤ bs.length
      · refine (next_ok p bs k m w h2 (by omega) hk).mono fun e w' ⟨A, a, l, b, o⟩ => ⟨A, (bs.drop k).take m, ?_, l, fun u hu => h8 u (List.mem_of_mem_drop (List.mem_of_mem_take hu)), by rw [List.length_take, List.length_drop]; omega, .inl ⟨hk, b⟩, o⟩
        rw [List.length_take, List.length_drop, Nat.min_eq_left (by omega)]
        exact a
      · exact (next_short p bs k m w h2 (by omega) (.inr (by omega))).mono fun e w' ⟨a, b, o⟩ => ⟨none, [], a, Lists.empty _ _ _, fun u hu => (nomatch hu), by simp, .inr ⟨by omega, k, b⟩, o⟩
    · exact (next_bad p bs i m w h2).mono fun e w' ⟨a, b⟩ => ⟨none, [], a, Lists.empty _ _ _, fun u hu => (nomatch hu), by simp, .inr ⟨by omega, i, b ▸ h2⟩, b ▸ Only.refl _ _⟩
  clear h h8
  go_enter Try.func18, Try.ntmps18
  go_wp2_with (first | (go_at_call 56; ((with_reducible refine (C).mono ?_); rintro e w1 ⟨A1, E1, rfl, l1, h81, hm1, r1, o1⟩)) | (go_at_call 55; ((with_reducible refine (clone_any A1 E1.length E1.length E1 w1 l1 rfl h81 hm1).mono ?_); rintro e w2 ⟨A2, c2, rfl, l2, m2, n2, b2, _⟩)))
  go_ret
  exact ⟨_, rfl, r1.below b2, o1.then_below b2⟩
theorem rs_doneC (p : Nat) (bs : List Value) (k : Nat) (w : World) (h : RS q w p bs k) : Calls Try.prog 22 #[.pointer (some ⟨p, 0, none⟩)] w fun e w' => ∃ z : Int, e = .returned (.int .i64 z) ∧ (z == 0) = decide (k ≤ bs.length) ∧ w = w' := by
  rcases h with ⟨h1, A, c, hb, _⟩ | ⟨h1, i, A, c, hb, _⟩
  · exact (rdone_low p bs.length c k A false w hb).mono fun e w' ⟨a, b⟩ => ⟨0, a, by simpa using h1, b⟩
  · exact (rdone_low p bs.length c i A true w hb).mono fun e w' ⟨a, b⟩ => ⟨30, a, by simp; omega, b⟩
end Go.Proofs.Ytelhckckcilpaaa

namespace Go.Proofs.Ytelhckckcilpaaa
open Go Go.RowKit

set_option maxRecDepth 100000 in
theorem pclone_any (B : Nat) (A : Option Addr) (c : Nat) (L : List Pt) (w : World) (hB : B ≤ w.heap.size) (h : Lists w B A (ptCells L)) (hn : L.length ≤ 100000) :
    Calls Try.prog 64 #[.slice A L.length c] w (MadeRow w L) := by
  obtain ⟨i1, hi1, hz1, hs1, hy1⟩ := info_parts1 ptInfo
  obtain ⟨i2, hi2, hz2, hs2, hy2⟩ := info_parts1 rowInfo
  have HI1 := Lib.hid hi1
  have HZ1 := Lib.hid hz1
  have HS1 := Lib.hid hs1
  have HY1 := Lib.hid hy1
  have HI2 := Lib.hid hi2
  have HZ2 := Lib.hid hz2
  have HS2 := Lib.hid hs2
  have HY2 := Lib.hid hy2
  clear hi1 hz1 hs1 hy1 hi2 hz2 hs2 hy2
  cases A with
  | none =>
    have hp := h.nil rfl
    have h0 : L = [] := by
      cases L with
      | nil => rfl
      | cons p r => simp [ptCells] at hp
    subst h0
    clear h hp
    have hq : ∀ (w : World) (n c : Nat), (binOp .eql 43 (.slice none n c) (.slice none 0 0)).run Try.prog w = .ok (.bool true) w := fun w n c => Lib.run_eql_slice_nil w _ _ _ _ _ _ _ Try.underlying43
    go_enter Try.func64, Try.ntmps64
    go_wp2
    go_ret
    exact ⟨_, rfl, World.ownsRow_nil _ _ _ _, Below.refl _ _⟩
  | some a =>
    have HE := Lib.hid h
    clear h
    have hq : ∀ (w : World) (n c : Nat), (binOp .eql 43 (.slice (some a) n c) (.slice none 0 0)).run Try.prog w = .ok (.bool false) w := fun w n c => Lib.run_eql_slice_nil w _ _ _ _ _ _ _ Try.underlying43
    go_enter Try.func64, Try.ntmps64
    go_wp2_with (first
      | (at_builtin; refine wpList_append_src _ rfl (.tmp 5) (.tmp 6) 43 rfl w.heap.size 57 i1 (.agg #[.int .i64 0, .int .i64 0, .int .i64 0]) 3 24 Try.underlying43 HI1.out HZ1.out HS1.out HY1.out rfl (by decide) (.slice (some ⟨w.heap.size, 0, none⟩) 0 0) 0 [] rfl (own_none w _ 3) B (some a) L.length c (ptCells L) rfl (HE.out.below ((Below.refl _ _).alloc hB _)) (ptCells_len L) (ptCells_one L) (by simp only [maxLen]; omega) (by omega) (by simp) ?_; intro v1 w1 own1 hg1 hat1; rw [Nat.zero_add, List.nil_append] at own1; have b1 : Below w.heap.size w w1 := ((Below.refl _ _).alloc (Nat.le_refl _) _).grown hg1 (by simp) (fun j hj => by cases hj; exact Nat.le_refl _)))
    go_ret
    exact ⟨v1, rfl, own1, b1⟩

/-- Outlines, one behind the other in block b. -/
structure OutsAt (w : World) (B b : Nat) (Lss : List (List (List Pt))) : Prop where
  at' : ∀ (i : Nat) (Ls : List (List Pt)), Lss[i]? = some Ls → ∃ (A : Option Addr) (c : Nat), w.cell? ⟨b, i, none⟩ = some (.slice A Ls.length c) ∧ OutAt w B A Ls
def SmS (Lss : List (List (List Pt))) : Prop := Lss.length ≤ 2 ∧ ∀ Ls ∈ Lss, Sm Ls

theorem lists_new2 (w : World) (x y : Value) (T : TypeId) (j : Nat) (v : Value) (h : [x, y][j]? = some v) : (w.alloc (.cells #[x, y] T)).cell? ⟨w.heap.size, j, none⟩ = some v := by
  rw [World.cell?_alloc_new]
  rw [← h]; simp

end Go.Proofs.Ytelhckckcilpaaa
