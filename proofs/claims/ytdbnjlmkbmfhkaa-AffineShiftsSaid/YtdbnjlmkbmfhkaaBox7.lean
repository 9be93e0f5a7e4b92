/- Boxes: serifref02. -/
import Derived.Test.YtdbnjlmkbmfhkaaBox6
namespace Go.Proofs.Ytdbnjlmkbmfhkaa
open Go.RowKit

theorem rmayQ_any (A : Q) (w : World) :
    Calls Try.prog 23 #[.agg #[.int .i64 A.x0, .int .i64 A.y0, .int .i64 A.x1, .int .i64 A.y1]] w fun e w' => e = .returned (.bool (mayQ A)) ∧ Below w.heap.size w w' := by
  unfold mayQ
  have F := fun x w => may_ref x w
  cases ha : mayB A.x0 <;> cases hb : mayB A.y0 <;> cases hc : mayB A.x1 <;> cases hd : mayB A.y1
  all_goals
    have F1 := fun w => F A.x0 w
    have F2 := fun w => F A.y0 w
    have F3 := fun w => F A.x1 w
    have F4 := fun w => F A.y1 w
    rw [ha] at F1
    rw [hb] at F2
    rw [hc] at F3
    rw [hd] at F4
    clear ha hb hc hd F
    go_enter Try.func23, Try.ntmps23
    go_wp2_with (first | (go_at_call 13; ((with_reducible refine (F1 _).mono ?_); rintro e w' ⟨rfl, rfl⟩)) | (go_at_call 13; ((with_reducible refine (F2 _).mono ?_); rintro e w' ⟨rfl, rfl⟩)) | (go_at_call 13; ((with_reducible refine (F3 _).mono ?_); rintro e w' ⟨rfl, rfl⟩)) | (go_at_call 13; ((with_reducible refine (F4 _).mono ?_); rintro e w' ⟨rfl, rfl⟩)))
    go_ret
    exact ⟨rfl, below_a1 _ _⟩

theorem rplain_any (A : Q) (w : World) : Calls Try.prog 54 #[.agg #[.int .i64 A.x0, .int .i64 A.y0, .int .i64 A.x1, .int .i64 A.y1]] w fun e w' => e = .returned (.agg #[.int .i64 (plainQ A).x0, .int .i64 (plainQ A).y0, .int .i64 (plainQ A).x1, .int .i64 (plainQ A).y1]) ∧ Below w.heap.size w w' := by
  unfold plainQ
  by_cases h : emptyQ A = true
  · rw [if_pos h]; exact rplain_zero A w h
  · rw [if_neg h]; exact rplain_same A w (by simpa using h)

theorem rholds_any (A : Q) (x y : Int) (w : World) :
    Calls Try.prog 29 #[.agg #[.int .i64 A.x0, .int .i64 A.y0, .int .i64 A.x1, .int .i64 A.y1], .int .i64 x, .int .i64 y] w fun e w' => e = .returned (.bool (holdsQ A x y)) ∧ Below w.heap.size w w' := by
  have M := fun w => rmayQ_any A w
  have I := In1.start w A
  unfold holdsQ
  by_cases hm : mayQ A = true
  · rw [hm] at M ⊢
    clear hm
    by_cases h1 : A.x0 ≤ x <;> by_cases h2 : x < A.x1 <;> by_cases h3 : A.y0 ≤ y <;> by_cases h4 : y < A.y1
    all_goals
      go_enter Try.func29, Try.ntmps29
      go_wp2_with (first | (go_at_call 23; ((with_reducible refine (M _).mono ?_); rintro e w1 ⟨rfl, b1⟩; have I := I.next b1; obtain ⟨_, y1, hA⟩ := id I)))
      go_ret
      refine ⟨?_, I.1⟩
      simp [h1, h2, h3, h4]
  · rw [show mayQ A = false by simpa using hm] at M ⊢
    clear hm
    go_enter Try.func29, Try.ntmps29
    go_wp2_with (first | (go_at_call 23; ((with_reducible refine (M _).mono ?_); rintro e w1 ⟨rfl, b1⟩; have I := I.next b1; obtain ⟨_, y1, hA⟩ := id I)))
    go_ret
    exact ⟨rfl, I.1⟩

set_option maxHeartbeats 2000000 in
theorem rjoin_any (A B : Q) (w : World) :
    Calls Try.prog 26 #[.agg #[.int .i64 A.x0, .int .i64 A.y0, .int .i64 A.x1, .int .i64 A.y1], .agg #[.int .i64 B.x0, .int .i64 B.y0, .int .i64 B.x1, .int .i64 B.y1]] w fun e w' => e = .returned (.agg #[.int .i64 (joinR A B).x0, .int .i64 (joinR A B).y0, .int .i64 (joinR A B).x1, .int .i64 (joinR A B).y1]) ∧ Below w.heap.size w w' := by
  have E1 := fun w => rempty_any A w
  have E2 := fun w => rempty_any B w
  have P := fun w => rplain_any B w
  have I := In3.start w A B zeroQ
  unfold joinR
  cases h1 : emptyQ A
  · rw [h1] at E1
    rw [if_neg (by decide)]
    cases h2 : emptyQ B
    · rw [h2] at E2
      rw [if_neg (by decide)]
      clear h1 h2 P
      go_enter Try.func26, Try.ntmps26
      go_wp2_with (first | (go_at_call 25; ((with_reducible refine (E1 _).mono ?_); rintro e w1 ⟨rfl, b1⟩; (first | have I := I.next b1 | have I := I.drew.next b1); obtain ⟨_, ⟨y1, y2, y3⟩, hA, hB, hZ, f1, f2, f3⟩ := id I)) | (go_at_call 25; ((with_reducible refine (E2 _).mono ?_); rintro e w2 ⟨rfl, b2⟩; (first | have I := I.next b2 | have I := I.drew.next b2); obtain ⟨_, ⟨y1, y2, y3⟩, hA, hB, hZ, f1, f2, f3⟩ := id I)))
      have ne1 : ¬ w.heap.size + 1 + 1 = w.heap.size := by omega
      have ne2 : ¬ w.heap.size = w.heap.size + 1 + 1 := by omega
      go_region_held3 (fun w' => w'.cell? ⟨w.heap.size, 0, none⟩ = some (.int .i64 A.x0) ∧ w'.cell? ⟨w.heap.size, 1, none⟩ = some (.int .i64 A.y0) ∧ w'.cell? ⟨w.heap.size, 2, none⟩ = some (.int .i64 A.x1) ∧ w'.cell? ⟨w.heap.size, 3, none⟩ = some (.int .i64 A.y1) ∧ w'.cell? ⟨w.heap.size + 1, 0, none⟩ = some (.int .i64 B.x0) ∧ w'.cell? ⟨w.heap.size + 1, 1, none⟩ = some (.int .i64 B.y0) ∧ w'.cell? ⟨w.heap.size + 1, 2, none⟩ = some (.int .i64 B.x1) ∧ w'.cell? ⟨w.heap.size + 1, 3, none⟩ = some (.int .i64 B.y1))
        (go_keep) (first | (go_at_call 55; refine (rleast_any _ _ _).mono ?_; rintro e w' ⟨rfl, rfl⟩) | (go_at_call 56; refine (rmost_any _ _ _).mono ?_; rintro e w' ⟨rfl, rfl⟩))
      go_wp2
      refine bodyPost_ret (v := .agg #[.int .i64 (min A.x0 B.x0), .int .i64 (min A.y0 B.y0), .int .i64 (max A.x1 B.x1), .int .i64 (max A.y1 B.y1)]) (by simp [results, Try.results26, go_sem, *]) rfl ⟨rfl, ?_⟩
      exact (below_set4 (b := w.heap.size + 1 + 1) I.1 (by omega) _ _ _ _).drew
    · rw [h2] at E2
      rw [if_pos rfl]
      clear h1 h2 P
      go_enter Try.func26, Try.ntmps26
      go_wp2_with (first | (go_at_call 25; ((with_reducible refine (E1 _).mono ?_); rintro e w1 ⟨rfl, b1⟩; (first | have I := I.next b1 | have I := I.drew.next b1); obtain ⟨_, ⟨y1, y2, y3⟩, hA, hB, hZ, f1, f2, f3⟩ := id I)) | (go_at_call 25; ((with_reducible refine (E2 _).mono ?_); rintro e w2 ⟨rfl, b2⟩; (first | have I := I.next b2 | have I := I.drew.next b2); obtain ⟨_, ⟨y1, y2, y3⟩, hA, hB, hZ, f1, f2, f3⟩ := id I)))
      refine bodyPost_ret (v := .agg #[.int .i64 A.x0, .int .i64 A.y0, .int .i64 A.x1, .int .i64 A.y1]) (by simp [results, Try.results26, go_sem, *]) rfl ⟨rfl, ?_⟩
      exact below_set4 (b := w.heap.size + 1 + 1) I.1 (by omega) _ _ _ _
  · rw [h1] at E1
    rw [if_pos rfl]
    generalize plainQ B = PB at *
    clear h1 E2
    go_enter Try.func26, Try.ntmps26
    go_wp2_with (first | (go_at_call 25; ((with_reducible refine (E1 _).mono ?_); rintro e w1 ⟨rfl, b1⟩; (first | have I := I.next b1 | have I := I.drew.next b1); obtain ⟨_, ⟨y1, y2, y3⟩, hA, hB, hZ, f1, f2, f3⟩ := id I)) | (go_at_call 54; ((with_reducible refine (P _).mono ?_); rintro e w2 ⟨rfl, b2⟩; (first | have I := I.next b2 | have I := I.drew.next b2); obtain ⟨_, ⟨y1, y2, y3⟩, hA, hB, hZ, f1, f2, f3⟩ := id I)))
    refine bodyPost_ret (v := .agg #[.int .i64 PB.x0, .int .i64 PB.y0, .int .i64 PB.x1, .int .i64 PB.y1]) (by simp [results, Try.results26, go_sem, *]) rfl ⟨rfl, ?_⟩
    exact below_set4 (b := w.heap.size + 1 + 1) I.1 (by omega) _ _ _ _

set_option maxHeartbeats 2000000 in
theorem rmeet_any (A B : Q) (w : World) :
    Calls Try.prog 27 #[.agg #[.int .i64 A.x0, .int .i64 A.y0, .int .i64 A.x1, .int .i64 A.y1], .agg #[.int .i64 B.x0, .int .i64 B.y0, .int .i64 B.x1, .int .i64 B.y1]] w fun e w' => e = .returned (.agg #[.int .i64 (meetR A B).x0, .int .i64 (meetR A B).y0, .int .i64 (meetR A B).x1, .int .i64 (meetR A B).y1]) ∧ Below w.heap.size w w' := by
  have P : ∀ w, Calls Try.prog 54 #[.agg #[.int .i64 (max A.x0 B.x0), .int .i64 (max A.y0 B.y0), .int .i64 (min A.x1 B.x1), .int .i64 (min A.y1 B.y1)]] w (fun e w' => e = .returned (.agg #[.int .i64 (meetR A B).x0, .int .i64 (meetR A B).y0, .int .i64 (meetR A B).x1, .int .i64 (meetR A B).y1]) ∧ Below w.heap.size w w') := fun w => rplain_any (meetQ A B) w
  have I := In3.start w A B zeroQ
  generalize meetR A B = R at *
  have ne1 : ¬ w.heap.size + 1 + 1 = w.heap.size := by omega
  have ne2 : ¬ w.heap.size = w.heap.size + 1 + 1 := by omega
  go_enter Try.func27, Try.ntmps27
  go_wp2
  go_region_held3 (fun w' => w'.cell? ⟨w.heap.size, 0, none⟩ = some (.int .i64 A.x0) ∧ w'.cell? ⟨w.heap.size, 1, none⟩ = some (.int .i64 A.y0) ∧ w'.cell? ⟨w.heap.size, 2, none⟩ = some (.int .i64 A.x1) ∧ w'.cell? ⟨w.heap.size, 3, none⟩ = some (.int .i64 A.y1) ∧ w'.cell? ⟨w.heap.size + 1, 0, none⟩ = some (.int .i64 B.x0) ∧ w'.cell? ⟨w.heap.size + 1, 1, none⟩ = some (.int .i64 B.y0) ∧ w'.cell? ⟨w.heap.size + 1, 2, none⟩ = some (.int .i64 B.x1) ∧ w'.cell? ⟨w.heap.size + 1, 3, none⟩ = some (.int .i64 B.y1))
    (go_keep) (first | (go_at_call 55; refine (rleast_any _ _ _).mono ?_; rintro e w' ⟨rfl, rfl⟩) | (go_at_call 56; refine (rmost_any _ _ _).mono ?_; rintro e w' ⟨rfl, rfl⟩) | (go_at_call 54; refine (P _).mono ?_; rintro e w1 ⟨rfl, b1⟩; have I := I.drew.next b1; obtain ⟨_, ⟨y1, y2, y3⟩, hA, hB, hZ, f1, f2, f3⟩ := id I))
  all_goals go_wp2
  refine bodyPost_ret (v := .agg #[.int .i64 R.x0, .int .i64 R.y0, .int .i64 R.x1, .int .i64 R.y1]) (by simp [results, Try.results27, go_sem, *]) rfl ⟨rfl, ?_⟩
  exact below_set4 (b := w.heap.size + 1 + 1) I.1 (by omega) _ _ _ _

end Go.Proofs.Ytdbnjlmkbmfhkaa
