/- Matrices: Apply as a whole, the reference's; Det. -/
import Derived.Test.YtdbnjlmkbmfhkaaBox3
namespace Go.Proofs.Ytdbnjlmkbmfhkaa
open Go.RowKit

/-- the facts of a world in which the call's own matrix lies -/
def In1M (w wx : World) (a b c d : Int) : Prop := Below w.heap.size w wx ∧ w.heap.size < wx.heap.size ∧ (wx.cell? ⟨w.heap.size, 0, none⟩ = some (.int .i64 a) ∧ wx.cell? ⟨w.heap.size, 1, none⟩ = some (.int .i64 b) ∧ wx.cell? ⟨w.heap.size, 2, none⟩ = some (.int .i64 c) ∧ wx.cell? ⟨w.heap.size, 3, none⟩ = some (.int .i64 d))
theorem In1mk (w : World) (a b c d : Int) : In1M w (w.alloc (.cells #[.int .i64 a, .int .i64 b, .int .i64 c, .int .i64 d] 23)) a b c d := by
  refine ⟨below_a1 _ _, by simp, ?_, ?_, ?_, ?_⟩ <;> go_simp
theorem In1nx {w wx wy : World} {a b c d : Int} (h : In1M w wx a b c d) (b' : Below wx.heap.size wx wy) : In1M w wy a b c d := by
  obtain ⟨h0, h1, hA⟩ := h
  exact ⟨below_next h0 b', lt_next b' h1, at_next (A := ⟨a, b, c, d⟩) b' h1 hA⟩

def apU (a b c d x y : Int) : Int := if apE a b c d x y = 0 then apX a c x y else 0
def apV (a b c d x y : Int) : Int := if apE a b c d x y = 0 then apX b d x y else 0

theorem apply_any (a b c d x y : Int) (w : World) :
    Calls Try.prog 10 #[.agg #[.int .i64 a, .int .i64 b, .int .i64 c, .int .i64 d], .int .i64 x, .int .i64 y] w fun e w' =>
      e = .returned (.tuple #[.int .i64 (apU a b c d x y), .int .i64 (apV a b c d x y), .int .i64 (apE a b c d x y)]) ∧ Below w.heap.size w w' := by
  unfold apU apV apE
  cases hm : fitM a b c d
  · exact apply_arg a b c d x y w hm
  · cases hx : (mayB x && mayB y)
    · exact apply_over a b c d x y w hm hx
    · cases hr : (mayB (apX a c x y) && mayB (apX b d x y))
      · exact apply_rest a b c d x y w hm hx false hr
      · exact apply_rest a b c d x y w hm hx true hr

theorem rapply_arg (a b c d x y : Int) (w : World) (h : fitM a b c d = false) :
    Calls Try.prog 11 #[.agg #[.int .i64 a, .int .i64 b, .int .i64 c, .int .i64 d], .int .i64 x, .int .i64 y] w fun e w' =>
      e = .returned (.tuple #[.int .i64 0, .int .i64 0, .int .i64 1]) ∧ Below w.heap.size w w' := by
  have M := fun w => rmayM_any a b c d w
  rw [h] at M
  clear h
  go_enter Try.func11, Try.ntmps11
  go_wp2_with (go_at_call 16; refine (M _).mono ?_; rintro e w1 ⟨rfl, hb⟩)
  go_ret3
  exact ⟨rfl, below_next (below_a1 _ _) hb⟩

theorem rapply_over (a b c d x y : Int) (w : World) (h : fitM a b c d = true) (h2 : (mayB x && mayB y) = false) :
    Calls Try.prog 11 #[.agg #[.int .i64 a, .int .i64 b, .int .i64 c, .int .i64 d], .int .i64 x, .int .i64 y] w fun e w' =>
      e = .returned (.tuple #[.int .i64 0, .int .i64 0, .int .i64 10]) ∧ Below w.heap.size w w' := by
  have M := fun w => rmayM_any a b c d w
  have D := fun w => may_ref x w
  have E := fun w => may_ref y w
  rw [h] at M
  cases hx : mayB x
  · rw [hx] at D
    clear h h2 hx E
    go_enter Try.func11, Try.ntmps11
    go_wp2_with (first | (go_at_call 16; refine (M _).mono ?_; rintro e w1 ⟨rfl, hb⟩) | (go_at_call 13; ((with_reducible refine (D _).mono ?_); rintro e w' ⟨rfl, rfl⟩)))
    go_ret3
    exact ⟨rfl, below_next (below_a1 _ _) hb⟩
  · have hy : mayB y = false := by simpa [hx] using h2
    rw [hx] at D
    rw [hy] at E
    clear h h2 hx hy
    go_enter Try.func11, Try.ntmps11
    go_wp2_with (first | (go_at_call 16; refine (M _).mono ?_; rintro e w1 ⟨rfl, hb⟩) | (go_at_call 13; ((with_reducible refine (D _).mono ?_); rintro e w' ⟨rfl, rfl⟩)) | (go_at_call 13; ((with_reducible refine (E _).mono ?_); rintro e w' ⟨rfl, rfl⟩)))
    go_ret3
    exact ⟨rfl, below_next (below_a1 _ _) hb⟩

set_option maxHeartbeats 2000000 in
theorem rapply_rest (a b c d x y : Int) (w : World) (h : fitM a b c d = true) (h2 : (mayB x && mayB y) = true) (ok : Bool) (hok : (mayB (apX a c x y) && mayB (apX b d x y)) = ok) :
    Calls Try.prog 11 #[.agg #[.int .i64 a, .int .i64 b, .int .i64 c, .int .i64 d], .int .i64 x, .int .i64 y] w fun e w' =>
      e = .returned (.tuple #[.int .i64 (if ok then apX a c x y else 0), .int .i64 (if ok then apX b d x y else 0), .int .i64 (if ok then 0 else 10)]) ∧ Below w.heap.size w w' := by
  have M := fun w => rmayM_any a b c d w
  have D := fun w => may_ref x w
  have E := fun w => may_ref y w
  have O1 := fun w => may_ref (apX a c x y) w
  have O2 := fun w => may_ref (apX b d x y) w
  rw [h] at M
  unfold fitM at h
  simp only [Bool.and_eq_true] at h h2
  rw [h2.1] at D
  rw [h2.2] at E
  obtain ⟨p1, p2⟩ := prod_lim h2.1 h.1.1.1
  obtain ⟨p3, p4⟩ := prod_lim h2.2 h.1.2
  obtain ⟨p5, p6⟩ := prod_lim h2.1 h.1.1.2
  obtain ⟨p7, p8⟩ := prod_lim h2.2 h.2
  have N1 := fun w => round_any (x * a + y * c) w (by omega) (by omega)
  have N2 := fun w => round_any (x * b + y * d) w (by omega) (by omega)
  have q1 : IntKind.i64.wrap (x * a) = x * a := IntWalk.i64_in _ (by omega)
  have q2 : IntKind.i64.wrap (y * c) = y * c := IntWalk.i64_in _ (by omega)
  have q3 : IntKind.i64.wrap (x * a + y * c) = x * a + y * c := IntWalk.i64_in _ (by omega)
  have q4 : IntKind.i64.wrap (x * b) = x * b := IntWalk.i64_in _ (by omega)
  have q5 : IntKind.i64.wrap (y * d) = y * d := IntWalk.i64_in _ (by omega)
  have q6 : IntKind.i64.wrap (x * b + y * d) = x * b + y * d := IntWalk.i64_in _ (by omega)
  clear h h2
  change ∀ w, Calls Try.prog 44 #[.int .i64 (x * a + y * c)] w (fun e w' => e = .returned (.int .i64 (apX a c x y)) ∧ w = w') at N1
  change ∀ w, Calls Try.prog 44 #[.int .i64 (x * b + y * d)] w (fun e w' => e = .returned (.int .i64 (apX b d x y)) ∧ w = w') at N2
  have I := In1mk w a b c d
  generalize apX a c x y = P at *
  generalize apX b d x y = R at *
  cases hP : mayB P
  · rw [hP] at O1
    obtain rfl : ok = false := by rw [← hok, hP]; rfl
    clear hok hP O2
    go_enter Try.func11, Try.ntmps11
    go_wp2_with (first | (go_at_call 16; refine (M _).mono ?_; rintro e w1 ⟨rfl, hb⟩; have I := In1nx I hb; obtain ⟨_, y1, hA⟩ := id I) | (go_at_call 13; ((with_reducible refine (D _).mono ?_); rintro e w' ⟨rfl, rfl⟩)) | (go_at_call 13; ((with_reducible refine (E _).mono ?_); rintro e w' ⟨rfl, rfl⟩)))
    go_region_held3 (fun w' => w'.cell? ⟨w.heap.size, 0, none⟩ = some (.int .i64 a) ∧ w'.cell? ⟨w.heap.size, 1, none⟩ = some (.int .i64 b) ∧ w'.cell? ⟨w.heap.size, 2, none⟩ = some (.int .i64 c) ∧ w'.cell? ⟨w.heap.size, 3, none⟩ = some (.int .i64 d))
      (go_keep) (first | (go_at_call 44; ((with_reducible refine (N1 _).mono ?_); rintro e w' ⟨rfl, rfl⟩)) | (go_at_call 44; ((with_reducible refine (N2 _).mono ?_); rintro e w' ⟨rfl, rfl⟩)))
    clear q1 q2 q3 q4 q5 q6
    go_wp2_with (first | (go_at_call 13; ((with_reducible refine (O1 _).mono ?_); rintro e w' ⟨rfl, rfl⟩)))
    go_ret3
    exact ⟨rfl, I.1.drew⟩
  · rw [hP] at O1
    have hR : mayB R = ok := by rw [← hok, hP]; rfl
    rw [hR] at O2
    clear hok hP hR
    cases ok
    all_goals
      go_enter Try.func11, Try.ntmps11
      go_wp2_with (first | (go_at_call 16; refine (M _).mono ?_; rintro e w1 ⟨rfl, hb⟩; have I := In1nx I hb; obtain ⟨_, y1, hA⟩ := id I) | (go_at_call 13; ((with_reducible refine (D _).mono ?_); rintro e w' ⟨rfl, rfl⟩)) | (go_at_call 13; ((with_reducible refine (E _).mono ?_); rintro e w' ⟨rfl, rfl⟩)))
      go_region_held3 (fun w' => w'.cell? ⟨w.heap.size, 0, none⟩ = some (.int .i64 a) ∧ w'.cell? ⟨w.heap.size, 1, none⟩ = some (.int .i64 b) ∧ w'.cell? ⟨w.heap.size, 2, none⟩ = some (.int .i64 c) ∧ w'.cell? ⟨w.heap.size, 3, none⟩ = some (.int .i64 d))
        (go_keep) (first | (go_at_call 44; ((with_reducible refine (N1 _).mono ?_); rintro e w' ⟨rfl, rfl⟩)) | (go_at_call 44; ((with_reducible refine (N2 _).mono ?_); rintro e w' ⟨rfl, rfl⟩)))
      clear q1 q2 q3 q4 q5 q6
      go_wp2_with (first | (go_at_call 13; ((with_reducible refine (O1 _).mono ?_); rintro e w' ⟨rfl, rfl⟩)) | (go_at_call 13; ((with_reducible refine (O2 _).mono ?_); rintro e w' ⟨rfl, rfl⟩)))
      go_ret3
      exact ⟨rfl, I.1.drew⟩

theorem rapply_any (a b c d x y : Int) (w : World) :
    Calls Try.prog 11 #[.agg #[.int .i64 a, .int .i64 b, .int .i64 c, .int .i64 d], .int .i64 x, .int .i64 y] w fun e w' =>
      e = .returned (.tuple #[.int .i64 (apU a b c d x y), .int .i64 (apV a b c d x y), .int .i64 (apE a b c d x y)]) ∧ Below w.heap.size w w' := by
  unfold apU apV apE
  cases hm : fitM a b c d
  · exact rapply_arg a b c d x y w hm
  · cases hx : (mayB x && mayB y)
    · exact rapply_over a b c d x y w hm hx
    · cases hr : (mayB (apX a c x y) && mayB (apX b d x y))
      · exact rapply_rest a b c d x y w hm hx false hr
      · exact rapply_rest a b c d x y w hm hx true hr

def detV (a b c d : Int) : Int := if fitM a b c d then a * d - b * c else 0

theorem det_any (a b c d : Int) (w : World) :
    Calls Try.prog 19 #[.agg #[.int .i64 a, .int .i64 b, .int .i64 c, .int .i64 d]] w fun e w' => e = .returned (.int .i64 (detV a b c d)) ∧ Below w.heap.size w w' := by
  have M := fun w => mayM_any a b c d w
  have I := In1mk w a b c d
  unfold detV
  cases h : fitM a b c d
  · rw [h] at M
    clear h
    go_enter Try.func19, Try.ntmps19
    go_wp2_with (first | (go_at_call 15; refine (M _).mono ?_; rintro e w1 ⟨rfl, hb⟩; have I := In1nx I hb; obtain ⟨_, y1, hA⟩ := id I))
    go_ret
    exact ⟨rfl, I.1⟩
  · rw [h] at M
    unfold fitM at h
    simp only [Bool.and_eq_true] at h
    have a1 := fitB_lo h.1.1.1
    have a2 := fitB_hi h.1.1.1
    have b1 := fitB_lo h.1.1.2
    have b2 := fitB_hi h.1.1.2
    have c1 := fitB_lo h.1.2
    have c2 := fitB_hi h.1.2
    have d1 := fitB_lo h.2
    have d2 := fitB_hi h.2
    obtain ⟨p1, p2⟩ := mul_bound (a := a) (b := d) 32768 32768 (by omega) (by omega) (by omega) (by omega)
    obtain ⟨p3, p4⟩ := mul_bound (a := b) (b := c) 32768 32768 (by omega) (by omega) (by omega) (by omega)
    simp only [show ((32768 * 32768 : Nat) : Int) = 1073741824 from rfl] at p1 p2 p3 p4
    clear h a1 a2 b1 b2 c1 c2 d1 d2
    rw [if_pos rfl]
    go_enter Try.func19, Try.ntmps19
    go_wp2_with (first | (go_at_call 15; refine (M _).mono ?_; rintro e w1 ⟨rfl, hb⟩; have I := In1nx I hb; obtain ⟨_, y1, hA⟩ := id I))
    go_ret
    exact ⟨rfl, I.1⟩

end Go.Proofs.Ytdbnjlmkbmfhkaa
