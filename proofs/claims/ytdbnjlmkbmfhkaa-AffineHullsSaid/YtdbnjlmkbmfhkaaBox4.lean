/- Boxes: join and meet, of the program. -/
import Derived.Test.YtdbnjlmkbmfhkaaBox3
import Derived.Deep.DeepCutAuto
namespace Go.Proofs.Ytdbnjlmkbmfhkaa
open Go.RowKit

def joinQ (A B : Q) : Q := ⟨min A.x0 B.x0, min A.y0 B.y0, max A.x1 B.x1, max A.y1 B.y1⟩
def meetQ (A B : Q) : Q := ⟨max A.x0 B.x0, max A.y0 B.y0, min A.x1 B.x1, min A.y1 B.y1⟩

theorem join_no1 (A B : Q) (w : World) (hA : mayQ A = false) :
    Calls Try.prog 20 #[.agg #[.int .i64 A.x0, .int .i64 A.y0, .int .i64 A.x1, .int .i64 A.y1], .agg #[.int .i64 B.x0, .int .i64 B.y0, .int .i64 B.x1, .int .i64 B.y1]] w fun e w' => e = .returned (.tuple #[.agg #[.int .i64 0, .int .i64 0, .int .i64 0, .int .i64 0], .int .i64 10]) ∧ Below w.heap.size w w' := by
  have M1 := fun w => mayBox_any A w
  rw [hA] at M1
  have I := In3.start w A B zeroQ
  go_enter Try.func20, Try.ntmps20
  go_wp2_with (first | (go_at_call 22; ((with_reducible refine (M1 _).mono ?_); rintro e w1 ⟨rfl, b1⟩; (first | have I := I.next b1 | have I := I.drew.next b1); obtain ⟨_, ⟨y1, y2, y3⟩, hA, hB, hZ, f1, f2, f3⟩ := id I)))
  refine bodyPost_ret (v := .tuple #[.agg #[.int .i64 0, .int .i64 0, .int .i64 0, .int .i64 0], .int .i64 10]) (by simp [results, Try.results20, go_sem, *]) rfl ⟨rfl, ?_⟩
  exact below_set4 I.1 (by omega) _ _ _ _

theorem join_no2 (A B : Q) (w : World) (hA : mayQ A = true) (hB : mayQ B = false) :
    Calls Try.prog 20 #[.agg #[.int .i64 A.x0, .int .i64 A.y0, .int .i64 A.x1, .int .i64 A.y1], .agg #[.int .i64 B.x0, .int .i64 B.y0, .int .i64 B.x1, .int .i64 B.y1]] w fun e w' => e = .returned (.tuple #[.agg #[.int .i64 0, .int .i64 0, .int .i64 0, .int .i64 0], .int .i64 10]) ∧ Below w.heap.size w w' := by
  have M1 := fun w => mayBox_any A w
  have M2 := fun w => mayBox_any B w
  rw [hA] at M1
  rw [hB] at M2
  have I := In3.start w A B zeroQ
  go_enter Try.func20, Try.ntmps20
  go_wp2_with (first | (go_at_call 22; ((with_reducible refine (M1 _).mono ?_); rintro e w1 ⟨rfl, b1⟩; (first | have I := I.next b1 | have I := I.drew.next b1); obtain ⟨_, ⟨y1, y2, y3⟩, hA, hB, hZ, f1, f2, f3⟩ := id I)) | (go_at_call 22; ((with_reducible refine (M2 _).mono ?_); rintro e w2 ⟨rfl, b2⟩; (first | have I := I.next b2 | have I := I.drew.next b2); obtain ⟨_, ⟨y1, y2, y3⟩, hA, hB, hZ, f1, f2, f3⟩ := id I)))
  refine bodyPost_ret (v := .tuple #[.agg #[.int .i64 0, .int .i64 0, .int .i64 0, .int .i64 0], .int .i64 10]) (by simp [results, Try.results20, go_sem, *]) rfl ⟨rfl, ?_⟩
  exact below_set4 I.1 (by omega) _ _ _ _

set_option maxHeartbeats 2000000 in
theorem join_gen (A B PA PB : Q) (w : World) (za zb : Bool) (hA : mayQ A = true) (hB : mayQ B = true)
    (P1 : ∀ w, Calls Try.prog 48 #[.agg #[.int .i64 A.x0, .int .i64 A.y0, .int .i64 A.x1, .int .i64 A.y1]] w fun e w' => e = .returned (.agg #[.int .i64 PA.x0, .int .i64 PA.y0, .int .i64 PA.x1, .int .i64 PA.y1]) ∧ Below w.heap.size w w')
    (P2 : ∀ w, Calls Try.prog 48 #[.agg #[.int .i64 B.x0, .int .i64 B.y0, .int .i64 B.x1, .int .i64 B.y1]] w fun e w' => e = .returned (.agg #[.int .i64 PB.x0, .int .i64 PB.y0, .int .i64 PB.x1, .int .i64 PB.y1]) ∧ Below w.heap.size w w')
    (ea : eq4 PA.x0 PA.y0 PA.x1 PA.y1 0 0 0 0 = za) (eb : eq4 PB.x0 PB.y0 PB.x1 PB.y1 0 0 0 0 = zb) (R : Q) (hR : R = if za then PB else if zb then PA else joinQ PA PB) :
    Calls Try.prog 20 #[.agg #[.int .i64 A.x0, .int .i64 A.y0, .int .i64 A.x1, .int .i64 A.y1], .agg #[.int .i64 B.x0, .int .i64 B.y0, .int .i64 B.x1, .int .i64 B.y1]] w fun e w' => e = .returned (.tuple #[.agg #[.int .i64 R.x0, .int .i64 R.y0, .int .i64 R.x1, .int .i64 R.y1], .int .i64 0]) ∧ Below w.heap.size w w' := by
  have M1 := fun w => mayBox_any A w
  have M2 := fun w => mayBox_any B w
  rw [hA] at M1
  rw [hB] at M2
  have q1 := fun w => eqB_run PA.x0 PA.y0 PA.x1 PA.y1 0 0 0 0 w
  have q2 := fun x y w => eqB_guard PA.x0 PA.y0 PA.x1 PA.y1 0 0 0 0 x y w
  have q3 := fun w => eqB_run PB.x0 PB.y0 PB.x1 PB.y1 0 0 0 0 w
  have q4 := fun x y w => eqB_guard PB.x0 PB.y0 PB.x1 PB.y1 0 0 0 0 x y w
  rw [ea] at q1
  rw [eb] at q3
  have HR : Hid (R = if za then PB else if zb then PA else joinQ PA PB) := hR
  clear hA hB ea eb hR
  have I := In3.start w A B zeroQ
  go_enter Try.func20, Try.ntmps20
  go_wp2_with (first | (go_at_call 22; ((with_reducible refine (M1 _).mono ?_); rintro e w1 ⟨rfl, b1⟩; (first | have I := I.next b1 | have I := I.drew.next b1); obtain ⟨_, ⟨y1, y2, y3⟩, hA, hB, hZ, f1, f2, f3⟩ := id I)) | (go_at_call 22; ((with_reducible refine (M2 _).mono ?_); rintro e w2 ⟨rfl, b2⟩; (first | have I := I.next b2 | have I := I.drew.next b2); obtain ⟨_, ⟨y1, y2, y3⟩, hA, hB, hZ, f1, f2, f3⟩ := id I)))
  go_cut [16] (fun _ wx => In3 w wx PA PB zeroQ)
  case first =>
    go_region_with (first | (go_at_call 48; ((with_reducible refine (P1 _).mono ?_); rintro e w3 ⟨rfl, b3⟩; (first | have I := I.next b3 | have I := I.drew.next b3); obtain ⟨_, ⟨y1, y2, y3⟩, hA, hB, hZ, f1, f2, f3⟩ := id I)) | (go_at_call 48; ((with_reducible refine (P2 _).mono ?_); rintro e w4 ⟨rfl, b4⟩; (first | have I := I.next b4 | have I := I.drew.next b4); obtain ⟨_, ⟨y1, y2, y3⟩, hA, hB, hZ, f1, f2, f3⟩ := id I)))
    all_goals (go_wp2_with fail; go_meet; exact I.set01 PA PB)
  case rest =>
    clear I hA hB hZ y1 y2 y3 f1 f2 f3
    have I := hcut
    obtain ⟨_, ⟨y1, y2, y3⟩, hA, hB, hZ, f1, f2, f3⟩ := id I
    clear hcut
    cases za
    · cases zb
      · obtain rfl : R = joinQ PA PB := HR.out
        go_wp2_with (first | (go_at_call 49; ((with_reducible refine (between_join PA PB _).mono ?_); rintro e w5 ⟨rfl, b5⟩; (first | have I := I.next b5 | have I := I.drew.next b5); obtain ⟨_, ⟨y1, y2, y3⟩, hA, hB, hZ, f1, f2, f3⟩ := id I)))
        refine bodyPost_ret (v := .tuple #[.agg #[.int .i64 (min PA.x0 PB.x0), .int .i64 (min PA.y0 PB.y0), .int .i64 (max PA.x1 PB.x1), .int .i64 (max PA.y1 PB.y1)], .int .i64 0]) (by simp [results, Try.results20, go_sem, *]) rfl ⟨rfl, ?_⟩
        exact below_set4 I.1 (by omega) _ _ _ _
      · obtain rfl : R = PA := HR.out
        go_wp2
        refine bodyPost_ret (v := .tuple #[.agg #[.int .i64 R.x0, .int .i64 R.y0, .int .i64 R.x1, .int .i64 R.y1], .int .i64 0]) (by simp [results, Try.results20, go_sem, *]) rfl ⟨rfl, ?_⟩
        exact below_set4 I.1 (by omega) _ _ _ _
    · obtain rfl : R = PB := HR.out
      go_wp2
      refine bodyPost_ret (v := .tuple #[.agg #[.int .i64 R.x0, .int .i64 R.y0, .int .i64 R.x1, .int .i64 R.y1], .int .i64 0]) (by simp [results, Try.results20, go_sem, *]) rfl ⟨rfl, ?_⟩
      exact below_set4 I.1 (by omega) _ _ _ _

theorem meet_no1 (A B : Q) (w : World) (hA : mayQ A = false) :
    Calls Try.prog 21 #[.agg #[.int .i64 A.x0, .int .i64 A.y0, .int .i64 A.x1, .int .i64 A.y1], .agg #[.int .i64 B.x0, .int .i64 B.y0, .int .i64 B.x1, .int .i64 B.y1]] w fun e w' => e = .returned (.tuple #[.agg #[.int .i64 0, .int .i64 0, .int .i64 0, .int .i64 0], .int .i64 10]) ∧ Below w.heap.size w w' := by
  have M1 := fun w => mayBox_any A w
  rw [hA] at M1
  have I := In3.start w A B zeroQ
  go_enter Try.func21, Try.ntmps21
  go_wp2_with (first | (go_at_call 22; ((with_reducible refine (M1 _).mono ?_); rintro e w1 ⟨rfl, b1⟩; (first | have I := I.next b1 | have I := I.drew.next b1); obtain ⟨_, ⟨y1, y2, y3⟩, hA, hB, hZ, f1, f2, f3⟩ := id I)))
  refine bodyPost_ret (v := .tuple #[.agg #[.int .i64 0, .int .i64 0, .int .i64 0, .int .i64 0], .int .i64 10]) (by simp [results, Try.results21, go_sem, *]) rfl ⟨rfl, ?_⟩
  exact below_set4 I.1 (by omega) _ _ _ _

theorem meet_no2 (A B : Q) (w : World) (hA : mayQ A = true) (hB : mayQ B = false) :
    Calls Try.prog 21 #[.agg #[.int .i64 A.x0, .int .i64 A.y0, .int .i64 A.x1, .int .i64 A.y1], .agg #[.int .i64 B.x0, .int .i64 B.y0, .int .i64 B.x1, .int .i64 B.y1]] w fun e w' => e = .returned (.tuple #[.agg #[.int .i64 0, .int .i64 0, .int .i64 0, .int .i64 0], .int .i64 10]) ∧ Below w.heap.size w w' := by
  have M1 := fun w => mayBox_any A w
  have M2 := fun w => mayBox_any B w
  rw [hA] at M1
  rw [hB] at M2
  have I := In3.start w A B zeroQ
  go_enter Try.func21, Try.ntmps21
  go_wp2_with (first | (go_at_call 22; ((with_reducible refine (M1 _).mono ?_); rintro e w1 ⟨rfl, b1⟩; (first | have I := I.next b1 | have I := I.drew.next b1); obtain ⟨_, ⟨y1, y2, y3⟩, hA, hB, hZ, f1, f2, f3⟩ := id I)) | (go_at_call 22; ((with_reducible refine (M2 _).mono ?_); rintro e w2 ⟨rfl, b2⟩; (first | have I := I.next b2 | have I := I.drew.next b2); obtain ⟨_, ⟨y1, y2, y3⟩, hA, hB, hZ, f1, f2, f3⟩ := id I)))
  refine bodyPost_ret (v := .tuple #[.agg #[.int .i64 0, .int .i64 0, .int .i64 0, .int .i64 0], .int .i64 10]) (by simp [results, Try.results21, go_sem, *]) rfl ⟨rfl, ?_⟩
  exact below_set4 I.1 (by omega) _ _ _ _

theorem meet_gen (A B R : Q) (w : World) (hA : mayQ A = true) (hB : mayQ B = true)
    (P : ∀ w, Calls Try.prog 48 #[.agg #[.int .i64 (max A.x0 B.x0), .int .i64 (max A.y0 B.y0), .int .i64 (min A.x1 B.x1), .int .i64 (min A.y1 B.y1)]] w fun e w' => e = .returned (.agg #[.int .i64 R.x0, .int .i64 R.y0, .int .i64 R.x1, .int .i64 R.y1]) ∧ Below w.heap.size w w') :
    Calls Try.prog 21 #[.agg #[.int .i64 A.x0, .int .i64 A.y0, .int .i64 A.x1, .int .i64 A.y1], .agg #[.int .i64 B.x0, .int .i64 B.y0, .int .i64 B.x1, .int .i64 B.y1]] w fun e w' => e = .returned (.tuple #[.agg #[.int .i64 R.x0, .int .i64 R.y0, .int .i64 R.x1, .int .i64 R.y1], .int .i64 0]) ∧ Below w.heap.size w w' := by
  have M1 := fun w => mayBox_any A w
  have M2 := fun w => mayBox_any B w
  rw [hA] at M1
  rw [hB] at M2
  clear hA hB
  have I := In3.start w A B zeroQ
  go_enter Try.func21, Try.ntmps21
  go_wp2_with (first | (go_at_call 22; ((with_reducible refine (M1 _).mono ?_); rintro e w1 ⟨rfl, b1⟩; (first | have I := I.next b1 | have I := I.drew.next b1); obtain ⟨_, ⟨y1, y2, y3⟩, hA, hB, hZ, f1, f2, f3⟩ := id I)) | (go_at_call 22; ((with_reducible refine (M2 _).mono ?_); rintro e w2 ⟨rfl, b2⟩; (first | have I := I.next b2 | have I := I.drew.next b2); obtain ⟨_, ⟨y1, y2, y3⟩, hA, hB, hZ, f1, f2, f3⟩ := id I)) | (go_at_call 49; ((with_reducible refine (between_meet A B _).mono ?_); rintro e w3 ⟨rfl, b3⟩; (first | have I := I.next b3 | have I := I.drew.next b3); obtain ⟨_, ⟨y1, y2, y3⟩, hA, hB, hZ, f1, f2, f3⟩ := id I)) | (go_at_call 48; ((with_reducible refine (P _).mono ?_); rintro e w4 ⟨rfl, b4⟩; (first | have I := I.next b4 | have I := I.drew.next b4); obtain ⟨_, ⟨y1, y2, y3⟩, hA, hB, hZ, f1, f2, f3⟩ := id I)))
  refine bodyPost_ret (v := .tuple #[.agg #[.int .i64 R.x0, .int .i64 R.y0, .int .i64 R.x1, .int .i64 R.y1], .int .i64 0]) (by simp [results, Try.results21, go_sem, *]) rfl ⟨rfl, ?_⟩
  exact below_set4 I.1 (by omega) _ _ _ _

def joinR (A B : Q) : Q := if emptyQ A then plainQ B else if emptyQ B then A else joinQ A B
def meetR (A B : Q) : Q := plainQ (meetQ A B)

theorem plain_any (A : Q) (w : World) : Calls Try.prog 48 #[.agg #[.int .i64 A.x0, .int .i64 A.y0, .int .i64 A.x1, .int .i64 A.y1]] w fun e w' => e = .returned (.agg #[.int .i64 (plainQ A).x0, .int .i64 (plainQ A).y0, .int .i64 (plainQ A).x1, .int .i64 (plainQ A).y1]) ∧ Below w.heap.size w w' := by
  unfold plainQ
  by_cases h : emptyQ A = true
  · rw [if_pos h]; exact plain_zero A w h
  · rw [if_neg h]; exact plain_same A w (by simpa using h)

theorem plain_eq4 (A : Q) : eq4 (plainQ A).x0 (plainQ A).y0 (plainQ A).x1 (plainQ A).y1 0 0 0 0 = emptyQ A := by
  unfold plainQ
  by_cases h : emptyQ A = true
  · rw [if_pos h, h]; rfl
  · rw [if_neg h, show emptyQ A = false by simpa using h]; exact not_zero A (by simpa using h)

theorem join_any (A B : Q) (w : World) (hA : mayQ A = true) (hB : mayQ B = true) :
    Calls Try.prog 20 #[.agg #[.int .i64 A.x0, .int .i64 A.y0, .int .i64 A.x1, .int .i64 A.y1], .agg #[.int .i64 B.x0, .int .i64 B.y0, .int .i64 B.x1, .int .i64 B.y1]] w fun e w' => e = .returned (.tuple #[.agg #[.int .i64 (joinR A B).x0, .int .i64 (joinR A B).y0, .int .i64 (joinR A B).x1, .int .i64 (joinR A B).y1], .int .i64 0]) ∧ Below w.heap.size w w' := by
  refine join_gen A B (plainQ A) (plainQ B) w (emptyQ A) (emptyQ B) hA hB (plain_any A) (plain_any B) (plain_eq4 A) (plain_eq4 B) _ ?_
  unfold joinR
  cases hEA : emptyQ A <;> cases hEB : emptyQ B <;> simp [plainQ, hEA, hEB]

theorem meet_any (A B : Q) (w : World) (hA : mayQ A = true) (hB : mayQ B = true) :
    Calls Try.prog 21 #[.agg #[.int .i64 A.x0, .int .i64 A.y0, .int .i64 A.x1, .int .i64 A.y1], .agg #[.int .i64 B.x0, .int .i64 B.y0, .int .i64 B.x1, .int .i64 B.y1]] w fun e w' => e = .returned (.tuple #[.agg #[.int .i64 (meetR A B).x0, .int .i64 (meetR A B).y0, .int .i64 (meetR A B).x1, .int .i64 (meetR A B).y1], .int .i64 0]) ∧ Below w.heap.size w w' :=
  meet_gen A B (meetR A B) w hA hB (plain_any (meetQ A B))

end Go.Proofs.Ytdbnjlmkbmfhkaa
