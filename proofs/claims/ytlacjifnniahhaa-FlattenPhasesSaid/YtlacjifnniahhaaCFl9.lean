/- Part 10 of the proof: CvX, CvC, CvD. -/
import Derived.Test.YtlacjifnniahhaaCFl8

namespace Go.Proofs.Ytlacjifnniahhaa
open Go Go.RowKit
set_option linter.unusedVariables false
set_option linter.unusedSimpArgs false


def dp (f g : Nat → Int) : Nat → Int
  | 0 => 0
  | k + 1 => dp f g k + f k * g k
def al (f : Nat → Int) : Nat → Int
  | 0 => 0
  | k + 1 => al f k + f k
def w4g (w : W4) : Nat → Int
  | 0 => w.1
  | 1 => w.2.1
  | 2 => w.2.2.1
  | _ => w.2.2.2
theorem w4g_at (w : W4) (k : Nat) (h : k < 4) : (w4L w)[k]? = some (.int .i64 (w4g w k)) := by
  match k, h with
  | 0, _ => rfl
  | 1, _ => rfl
  | 2, _ => rfl
  | 3, _ => rfl
theorem w4g_le {w : W4} {B : Int} (h : W4le w B) (k : Nat) : 0 ≤ w4g w k ∧ w4g w k ≤ B := by
  obtain ⟨h1, h2, h3, h4⟩ := h
  match k with
  | 0 => exact h1
  | 1 => exact h2
  | 2 => exact h3
  | _ + 3 => exact h4
theorem mul_sym {f g : Int} (h : 0 ≤ f ∧ f ≤ 1073741824) (h2 : -1048576 ≤ g ∧ g ≤ 1048576) : -1125899906842624 ≤ f * g ∧ f * g ≤ 1125899906842624 := by
  have a := Int.mul_le_mul_of_nonneg_left h2.1 h.1
  have b := Int.mul_le_mul_of_nonneg_left h2.2 h.1
  omega
theorem dp_le {f g : Nat → Int} (h : ∀ k, 0 ≤ f k ∧ f k ≤ 1073741824) (h2 : ∀ k, -1048576 ≤ g k ∧ g k ≤ 1048576) : ∀ k : Nat, -1125899906842624 * (k : Int) ≤ dp f g k ∧ dp f g k ≤ 1125899906842624 * (k : Int)
  | 0 => by simp [dp]
  | k + 1 => by
    have := dp_le h h2 k
    have m := mul_sym (h k) (h2 k)
    unfold dp
    omega
theorem al_le {f : Nat → Int} (h : ∀ k, 0 ≤ f k ∧ f k ≤ 1073741824) : ∀ k : Nat, 0 ≤ al f k ∧ al f k ≤ 1073741824 * (k : Int)
  | 0 => by simp [al]
  | k + 1 => by
    have := al_le h k
    have m := h k
    unfold al
    omega
theorem at_x (x y : Int) (w : World) : Calls Try.prog 102 #[.agg #[.int .i64 x, .int .i64 y]] w fun e w' => e = .returned (.int .i64 x) ∧ Below w.heap.size w w' := by
  go_enter Try.func102, Try.ntmps102
  go_wp2
  go_ret
  exact ⟨rfl, below_a1 _ _⟩
theorem at_y (x y : Int) (w : World) : Calls Try.prog 103 #[.agg #[.int .i64 x, .int .i64 y]] w fun e w' => e = .returned (.int .i64 y) ∧ Below w.heap.size w w' := by
  go_enter Try.func103, Try.ntmps103
  go_wp2
  go_ret
  exact ⟨rfl, below_a1 _ _⟩
def gx (L : List Dt) (k : Nat) : Int := (L.getD k (0, 0)).1
def gy (L : List Dt) (k : Nat) : Int := (L.getD k (0, 0)).2
theorem gx_at {L : List Dt} {k : Nat} {x y : Int} (h : L[k]? = some (x, y)) : gx L k = x := by unfold gx; rw [List.getD_eq_getElem?_getD, h]; rfl
theorem gy_at {L : List Dt} {k : Nat} {x y : Int} (h : L[k]? = some (x, y)) : gy L k = y := by unfold gy; rw [List.getD_eq_getElem?_getD, h]; rfl
theorem g_le {L : List Dt} (h : L.any farD = false) (k : Nat) : (-1048576 ≤ gx L k ∧ gx L k ≤ 1048576) ∧ (-1048576 ≤ gy L k ∧ gy L k ≤ 1048576) := by
  unfold gx gy
  cases hk : L[k]? with
  | none => rw [List.getD_eq_getElem?_getD, hk]; simp
  | some d =>
    obtain ⟨x, y⟩ := d
    rw [List.getD_eq_getElem?_getD, hk]
    have := List.any_eq_false.1 h (x, y) (List.mem_of_getElem? hk)
    have h3 : farD (x, y) = false := by simpa using this
    unfold farD at h3
    simp only [Bool.or_eq_false_iff] at h3
    exact ⟨farB_ok h3.1, farB_ok h3.2⟩
set_option maxRecDepth 100000 in
set_option maxHeartbeats 2000000 in
theorem weighed_x (v : W4) (B : Nat) (A : Option Addr) (c : Nat) (L : List Dt) (w : World) (hB : B ≤ w.heap.size) (hL : Lists w B A (L.flatMap dtL)) (hn : L.length ≤ 4) (hv : W4le v 1073741824) (hf : L.any farD = false) (h1 : 1 ≤ al (w4g v) L.length) :
    Calls Try.prog 101 #[.agg (w4L v), .slice A L.length c, .func (.func 102) #[] #[]] w fun e w' => e = .returned (.int .i64 (near (dp (w4g v) (gx L) L.length) (al (w4g v) L.length))) ∧ Below w.heap.size w w' := by
  have HL := Lib.hid hL
  have HV := Lib.hid (w4g_le hv)
  have HG := Lib.hid (fun k => (g_le hf k).1)
  have HWC := Lib.hid (w4g_at v)
  have DL := dp_le HV.out HG.out L.length
  have AL := al_le HV.out L.length
  have KB := Blk.new w 110 (w4L v)
  have B0 := below_a1 w (.cells (w4L v) 110)
  obtain ⟨n, hnn⟩ : ∃ n, n = L.length := ⟨_, rfl⟩
  rw [← hnn] at hn h1 DL AL ⊢
  have HN := Lib.hid hnn
  have HK := Lib.hid KB
  clear hL hv hf hnn KB
  have CN := fun W => near_ok (dp (w4g v) (gx L) n) (al (w4g v) n) W h1 (by omega) (by omega) (by omega)
  generalize hw : w4L v = ww at *
  have HWW := Lib.hid hw
  obtain ⟨v0, v1, v2, v3⟩ := v
  simp only [w4L] at hw
  subst hw
  go_enter Try.func101, Try.ntmps101
  go_wp2
  go_loopw [7, 8, 15] (fun s a i wr => ∃ k : Nat, k ≤ n ∧ s = .int .i64 (dp (w4g (v0, v1, v2, v3)) (gx L) k) ∧ a = .int .i64 (al (w4g (v0, v1, v2, v3)) k) ∧ i = .int .i64 k ∧ Below w.heap.size w wr ∧ Blk wr w.heap.size 110 #[.int .i64 v0, .int .i64 v1, .int .i64 v2, .int .i64 v3]) (fun _ _ i _ => n - (intOf i).toNat)
  case atStart => exact ⟨0, Nat.zero_le _, rfl, rfl, rfl, B0, HK.out⟩
  case round =>
    obtain ⟨k, hk, rfl, rfl, rfl, hb, KB⟩ := hrel
    by_cases hlt : k < n
    · have d1 : decide ((k : Int) < (n : Int)) = true := by simp; omega
      obtain ⟨p, hp⟩ : ∃ p, L[k]? = some p := ⟨L[k]'(by rw [← HN.out]; exact hlt), List.getElem?_eq_getElem _⟩
      obtain ⟨x, y⟩ := p
      obtain ⟨b, o, hA, hbl, hcl⟩ := lists_flat dtLen (by decide) HL.out hp
      subst hA
      have g0 : Hid (wr.rangeAt b (o + k * 2) [.int .i64 x, .int .i64 y]) := Lib.hid (range_below hcl (Nat.lt_of_lt_of_le hbl hB) hb)
      have hxx := gx_at hp
      have hS := Lib.hid (show dp (w4g (v0, v1, v2, v3)) (gx L) (k + 1) = dp (w4g (v0, v1, v2, v3)) (gx L) k + w4g (v0, v1, v2, v3) k * x by rw [← hxx]; rfl)
      have hA2 := Lib.hid (show al (w4g (v0, v1, v2, v3)) (k + 1) = al (w4g (v0, v1, v2, v3)) k + w4g (v0, v1, v2, v3) k from rfl)
      have ckk : wr.cell? ⟨w.heap.size, k, none⟩ = some (.int .i64 (w4g (v0, v1, v2, v3) k)) := (KB.cell k).trans (HWC.out k (by omega))
      have m1 := HV.out k
      have m2 : -1048576 ≤ x ∧ x ≤ 1048576 := hxx ▸ HG.out k
      have m3 := mul_sym m1 m2
      have m4 := dp_le HV.out HG.out k
      have m5 := al_le HV.out k
      generalize dp (w4g (v0, v1, v2, v3)) (gx L) k = s at *
      generalize al (w4g (v0, v1, v2, v3)) k = a at *
      generalize w4g (v0, v1, v2, v3) k = u at *
      have r1 : IntKind.i64.wrap (u * x) = u * x := IntWalk.i64_in _ (by omega)
      have r2 : IntKind.i64.wrap (s + u * x) = s + u * x := IntWalk.i64_in _ (by omega)
      have r3 : IntKind.i64.wrap (a + u) = a + u := IntWalk.i64_in _ (by omega)
      have hbs := KB.lt
      have KD := Blk.new wr 27 #[.int .i64 x, .int .i64 y]
      have BA := below_a1 wr (.cells #[.int .i64 x, .int .i64 y] 27)
      obtain ⟨W1, hW1⟩ : ∃ W1, W1 = wr.alloc (.cells #[.int .i64 x, .int .i64 y] 27) := ⟨_, rfl⟩
      rw [← hW1] at KD BA
      have KB1 := KB.below BA
      have hWd : ∀ V, Below W1.heap.size W1 V → V.cell? ⟨wr.heap.size, 0, none⟩ = some (.int .i64 x) ∧ V.cell? ⟨wr.heap.size, 1, none⟩ = some (.int .i64 y) ∧ wr.heap.size < V.heap.size ∧ V.cell? ⟨w.heap.size, k, none⟩ = some (.int .i64 u) ∧ w.heap.size < V.heap.size := fun V hV => ⟨(KD.below hV).cell 0, (KD.below hV).cell 1, (KD.below hV).lt, ((KB1.below hV).cell k).trans (((KB.cell k).symm.trans ckk)), (KB1.below hV).lt⟩
      have HWd := Lib.hid hWd
      have HB := Lib.hid (hb.trans (BA.mono hb.size))
      have HKB := Lib.hid KB1
      have HW1 := Lib.hid hW1
      have k4 : k < 4 := by omega
      have q4 : (k : Int) < 4 := by omega
      have r4 := Lib.hid r1
      have r5 := Lib.hid r2
      have r6 := Lib.hid r3
      clear m1 m2 m3 m4 m5 r1 r2 r3 hWd hb KB KB1 hW1 hcl hp hxx BA KD HL HWC HV HG DL AL HK HN HWW
      go_wp2_with (first | (refine wpList_load_mid rfl 27 _ (by with_reducible rfl) b (o + k * 2) (by rfl) [.int .i64 x, .int .i64 y] _ g0.out Try.underlying27 rfl (by kernel_rfl) ?_))
      rw [← HW1.out]
      have hI : Below W1.heap.size W1 W1.drew := (Below.refl _ _).drew
      have r1 := r4.out
      have r2 := r5.out
      have r3 := r6.out
      have CF := fun W => at_x x y W
      refine wp_region_chain (fun V => Below W1.heap.size W1 V) [(0, false), (1, false), (2, false), (3, false), (4, false), (5, false), (6, true), (7, false), (8, false), (9, false)] (by kernel_rfl) (by kernel_rfl) hI ?_
      repeat (first
        | (refine ChainL.skip (o := ?_) ?_ ?_ ?_; rotate_left; (focus (first | (simp only [List.getElem?_toArray, List.getElem?_cons_succ, List.getElem?_cons_zero]; with_reducible rfl) | (simp only [List.getElem?_toArray, List.getElem?_cons_zero]; with_reducible rfl))); (focus rfl); simp only [Act.put, List.setIfInBounds_toArray, List.set_cons_zero, List.set_cons_succ])
        | (refine ChainL.val (o := ?_) (v := ?_) ?_ ?_ ?_ ?_ ?_; rotate_left 2; (focus (first | (simp only [List.getElem?_toArray, List.getElem?_cons_succ, List.getElem?_cons_zero]; with_reducible rfl) | (simp only [List.getElem?_toArray, List.getElem?_cons_zero]; with_reducible rfl))); (focus (intro _ _ h; cases h)); (focus rfl); (focus (intro w' hJ; obtain ⟨y0, y1, y2, y3, y4⟩ := HWd.out _ hJ; go_simp <;> with_reducible rfl)); simp only [Act.put, List.setIfInBounds_toArray, List.set_cons_zero, List.set_cons_succ]))
      refine ChainL.call (o := ?_) (f := ?_) (args := ?_) ?_ ?_ ?_ ?_
      rotate_left 3
      (focus (first | (simp only [List.getElem?_toArray, List.getElem?_cons_succ, List.getElem?_cons_zero]; with_reducible rfl) | (simp only [List.getElem?_toArray, List.getElem?_cons_zero]; with_reducible rfl)))
      (focus rfl)
      (focus (go_simp; (constructor <;> with_reducible rfl)))
      with_reducible refine (CF _).mono ?_
      rintro e w5 ⟨rfl, b5⟩
      have I5 := hI.trans (b5.mono hI.size)
      refine ⟨_, rfl, I5, ?_⟩
      simp only [Act.put, List.setIfInBounds_toArray, List.set_cons_zero, List.set_cons_succ]
      repeat (first
        | (refine ChainL.skip (o := ?_) ?_ ?_ ?_; rotate_left; (focus (first | (simp only [List.getElem?_toArray, List.getElem?_cons_succ, List.getElem?_cons_zero]; with_reducible rfl) | (simp only [List.getElem?_toArray, List.getElem?_cons_zero]; with_reducible rfl))); (focus rfl); simp only [Act.put, List.setIfInBounds_toArray, List.set_cons_zero, List.set_cons_succ])
        | (refine ChainL.val (o := ?_) (v := ?_) ?_ ?_ ?_ ?_ ?_; rotate_left 2; (focus (first | (simp only [List.getElem?_toArray, List.getElem?_cons_succ, List.getElem?_cons_zero]; with_reducible rfl) | (simp only [List.getElem?_toArray, List.getElem?_cons_zero]; with_reducible rfl))); (focus (intro _ _ h; cases h)); (focus rfl); (focus (intro w' hJ; obtain ⟨y0, y1, y2, y3, y4⟩ := HWd.out _ hJ; go_simp <;> with_reducible rfl)); simp only [Act.put, List.setIfInBounds_toArray, List.set_cons_zero, List.set_cons_succ]))
      refine ChainL.nil ?_
      obtain ⟨y0, y1, y2, y3, y4⟩ := HWd.out _ I5
      go_wp2
      go_roundw
      case rel => exact ⟨k + 1, by omega, by rw [hS.out], by rw [hA2.out], by go_num, HB.out.trans (I5.mono HB.out.size), HKB.out.below I5⟩
      case measure => simp [intOf]; omega
    · have d1 : decide ((k : Int) < (n : Int)) = false := by simp; omega
      obtain rfl : k = n := by omega
      clear HL HWC HV HG DL AL HK HN HWW
      generalize hs : dp (w4g (v0, v1, v2, v3)) (gx L) k = s at *
      generalize ha : al (w4g (v0, v1, v2, v3)) k = a at *
      have HS := Lib.hid hs
      have HA := Lib.hid ha
      clear hs ha
      go_wp2_with (first | (go_at_call 57; ((with_reducible refine (CN _).mono ?_); rintro e w' ⟨rfl, j, rfl⟩)))
      go_ret
      exact ⟨ret_int (by rw [HS.out, HA.out]), below_drewN hb _⟩
set_option maxRecDepth 100000 in
set_option maxHeartbeats 2000000 in
theorem weighed_y (v : W4) (B : Nat) (A : Option Addr) (c : Nat) (L : List Dt) (w : World) (hB : B ≤ w.heap.size) (hL : Lists w B A (L.flatMap dtL)) (hn : L.length ≤ 4) (hv : W4le v 1073741824) (hf : L.any farD = false) (h1 : 1 ≤ al (w4g v) L.length) :
    Calls Try.prog 101 #[.agg (w4L v), .slice A L.length c, .func (.func 103) #[] #[]] w fun e w' => e = .returned (.int .i64 (near (dp (w4g v) (gy L) L.length) (al (w4g v) L.length))) ∧ Below w.heap.size w w' := by
  have HL := Lib.hid hL
  have HV := Lib.hid (w4g_le hv)
  have HG := Lib.hid (fun k => (g_le hf k).2)
  have HWC := Lib.hid (w4g_at v)
  have DL := dp_le HV.out HG.out L.length
  have AL := al_le HV.out L.length
  have KB := Blk.new w 110 (w4L v)
  have B0 := below_a1 w (.cells (w4L v) 110)
  obtain ⟨n, hnn⟩ : ∃ n, n = L.length := ⟨_, rfl⟩
  rw [← hnn] at hn h1 DL AL ⊢
  have HN := Lib.hid hnn
  have HK := Lib.hid KB
  clear hL hv hf hnn KB
  have CN := fun W => near_ok (dp (w4g v) (gy L) n) (al (w4g v) n) W h1 (by omega) (by omega) (by omega)
  generalize hw : w4L v = ww at *
  have HWW := Lib.hid hw
  obtain ⟨v0, v1, v2, v3⟩ := v
  simp only [w4L] at hw
  subst hw
  go_enter Try.func101, Try.ntmps101
  go_wp2
  go_loopw [7, 8, 15] (fun s a i wr => ∃ k : Nat, k ≤ n ∧ s = .int .i64 (dp (w4g (v0, v1, v2, v3)) (gy L) k) ∧ a = .int .i64 (al (w4g (v0, v1, v2, v3)) k) ∧ i = .int .i64 k ∧ Below w.heap.size w wr ∧ Blk wr w.heap.size 110 #[.int .i64 v0, .int .i64 v1, .int .i64 v2, .int .i64 v3]) (fun _ _ i _ => n - (intOf i).toNat)
  case atStart => exact ⟨0, Nat.zero_le _, rfl, rfl, rfl, B0, HK.out⟩
  case round =>
    obtain ⟨k, hk, rfl, rfl, rfl, hb, KB⟩ := hrel
    by_cases hlt : k < n
    · have d1 : decide ((k : Int) < (n : Int)) = true := by simp; omega
      obtain ⟨p, hp⟩ : ∃ p, L[k]? = some p := ⟨L[k]'(by rw [← HN.out]; exact hlt), List.getElem?_eq_getElem _⟩
      obtain ⟨x, y⟩ := p
      obtain ⟨b, o, hA, hbl, hcl⟩ := lists_flat dtLen (by decide) HL.out hp
      subst hA
      have g0 : Hid (wr.rangeAt b (o + k * 2) [.int .i64 x, .int .i64 y]) := Lib.hid (range_below hcl (Nat.lt_of_lt_of_le hbl hB) hb)
      have hxx := gy_at hp
      have hS := Lib.hid (show dp (w4g (v0, v1, v2, v3)) (gy L) (k + 1) = dp (w4g (v0, v1, v2, v3)) (gy L) k + w4g (v0, v1, v2, v3) k * y by rw [← hxx]; rfl)
      have hA2 := Lib.hid (show al (w4g (v0, v1, v2, v3)) (k + 1) = al (w4g (v0, v1, v2, v3)) k + w4g (v0, v1, v2, v3) k from rfl)
      have ckk : wr.cell? ⟨w.heap.size, k, none⟩ = some (.int .i64 (w4g (v0, v1, v2, v3) k)) := (KB.cell k).trans (HWC.out k (by omega))
      have m1 := HV.out k
      have m2 : -1048576 ≤ y ∧ y ≤ 1048576 := hxx ▸ HG.out k
      have m3 := mul_sym m1 m2
      have m4 := dp_le HV.out HG.out k
      have m5 := al_le HV.out k
      generalize dp (w4g (v0, v1, v2, v3)) (gy L) k = s at *
      generalize al (w4g (v0, v1, v2, v3)) k = a at *
      generalize w4g (v0, v1, v2, v3) k = u at *
      have r1 : IntKind.i64.wrap (u * y) = u * y := IntWalk.i64_in _ (by omega)
      have r2 : IntKind.i64.wrap (s + u * y) = s + u * y := IntWalk.i64_in _ (by omega)
      have r3 : IntKind.i64.wrap (a + u) = a + u := IntWalk.i64_in _ (by omega)
      have hbs := KB.lt
      have KD := Blk.new wr 27 #[.int .i64 x, .int .i64 y]
      have BA := below_a1 wr (.cells #[.int .i64 x, .int .i64 y] 27)
      obtain ⟨W1, hW1⟩ : ∃ W1, W1 = wr.alloc (.cells #[.int .i64 x, .int .i64 y] 27) := ⟨_, rfl⟩
      rw [← hW1] at KD BA
      have KB1 := KB.below BA
      have hWd : ∀ V, Below W1.heap.size W1 V → V.cell? ⟨wr.heap.size, 0, none⟩ = some (.int .i64 x) ∧ V.cell? ⟨wr.heap.size, 1, none⟩ = some (.int .i64 y) ∧ wr.heap.size < V.heap.size ∧ V.cell? ⟨w.heap.size, k, none⟩ = some (.int .i64 u) ∧ w.heap.size < V.heap.size := fun V hV => ⟨(KD.below hV).cell 0, (KD.below hV).cell 1, (KD.below hV).lt, ((KB1.below hV).cell k).trans (((KB.cell k).symm.trans ckk)), (KB1.below hV).lt⟩
      have HWd := Lib.hid hWd
      have HB := Lib.hid (hb.trans (BA.mono hb.size))
      have HKB := Lib.hid KB1
      have HW1 := Lib.hid hW1
      have k4 : k < 4 := by omega
      have q4 : (k : Int) < 4 := by omega
      have r4 := Lib.hid r1
      have r5 := Lib.hid r2
      have r6 := Lib.hid r3
      clear m1 m2 m3 m4 m5 r1 r2 r3 hWd hb KB KB1 hW1 hcl hp hxx BA KD HL HWC HV HG DL AL HK HN HWW
      go_wp2_with (first | (refine wpList_load_mid rfl 27 _ (by with_reducible rfl) b (o + k * 2) (by rfl) [.int .i64 x, .int .i64 y] _ g0.out Try.underlying27 rfl (by kernel_rfl) ?_))
      rw [← HW1.out]
      have hI : Below W1.heap.size W1 W1.drew := (Below.refl _ _).drew
      have r1 := r4.out
      have r2 := r5.out
      have r3 := r6.out
      have CF := fun W => at_y x y W
      refine wp_region_chain (fun V => Below W1.heap.size W1 V) [(0, false), (1, false), (2, false), (3, false), (4, false), (5, false), (6, true), (7, false), (8, false), (9, false)] (by kernel_rfl) (by kernel_rfl) hI ?_
      repeat (first
        | (refine ChainL.skip (o := ?_) ?_ ?_ ?_; rotate_left; (focus (first | (simp only [List.getElem?_toArray, List.getElem?_cons_succ, List.getElem?_cons_zero]; with_reducible rfl) | (simp only [List.getElem?_toArray, List.getElem?_cons_zero]; with_reducible rfl))); (focus rfl); simp only [Act.put, List.setIfInBounds_toArray, List.set_cons_zero, List.set_cons_succ])
        | (refine ChainL.val (o := ?_) (v := ?_) ?_ ?_ ?_ ?_ ?_; rotate_left 2; (focus (first | (simp only [List.getElem?_toArray, List.getElem?_cons_succ, List.getElem?_cons_zero]; with_reducible rfl) | (simp only [List.getElem?_toArray, List.getElem?_cons_zero]; with_reducible rfl))); (focus (intro _ _ h; cases h)); (focus rfl); (focus (intro w' hJ; obtain ⟨y0, y1, y2, y3, y4⟩ := HWd.out _ hJ; go_simp <;> with_reducible rfl)); simp only [Act.put, List.setIfInBounds_toArray, List.set_cons_zero, List.set_cons_succ]))
      refine ChainL.call (o := ?_) (f := ?_) (args := ?_) ?_ ?_ ?_ ?_
      rotate_left 3
      (focus (first | (simp only [List.getElem?_toArray, List.getElem?_cons_succ, List.getElem?_cons_zero]; with_reducible rfl) | (simp only [List.getElem?_toArray, List.getElem?_cons_zero]; with_reducible rfl)))
      (focus rfl)
      (focus (go_simp; (constructor <;> with_reducible rfl)))
      with_reducible refine (CF _).mono ?_
      rintro e w5 ⟨rfl, b5⟩
      have I5 := hI.trans (b5.mono hI.size)
      refine ⟨_, rfl, I5, ?_⟩
      simp only [Act.put, List.setIfInBounds_toArray, List.set_cons_zero, List.set_cons_succ]
      repeat (first
        | (refine ChainL.skip (o := ?_) ?_ ?_ ?_; rotate_left; (focus (first | (simp only [List.getElem?_toArray, List.getElem?_cons_succ, List.getElem?_cons_zero]; with_reducible rfl) | (simp only [List.getElem?_toArray, List.getElem?_cons_zero]; with_reducible rfl))); (focus rfl); simp only [Act.put, List.setIfInBounds_toArray, List.set_cons_zero, List.set_cons_succ])
        | (refine ChainL.val (o := ?_) (v := ?_) ?_ ?_ ?_ ?_ ?_; rotate_left 2; (focus (first | (simp only [List.getElem?_toArray, List.getElem?_cons_succ, List.getElem?_cons_zero]; with_reducible rfl) | (simp only [List.getElem?_toArray, List.getElem?_cons_zero]; with_reducible rfl))); (focus (intro _ _ h; cases h)); (focus rfl); (focus (intro w' hJ; obtain ⟨y0, y1, y2, y3, y4⟩ := HWd.out _ hJ; go_simp <;> with_reducible rfl)); simp only [Act.put, List.setIfInBounds_toArray, List.set_cons_zero, List.set_cons_succ]))
      refine ChainL.nil ?_
      obtain ⟨y0, y1, y2, y3, y4⟩ := HWd.out _ I5
      go_wp2
      go_roundw
      case rel => exact ⟨k + 1, by omega, by rw [hS.out], by rw [hA2.out], by go_num, HB.out.trans (I5.mono HB.out.size), HKB.out.below I5⟩
      case measure => simp [intOf]; omega
    · have d1 : decide ((k : Int) < (n : Int)) = false := by simp; omega
      obtain rfl : k = n := by omega
      clear HL HWC HV HG DL AL HK HN HWW
      generalize hs : dp (w4g (v0, v1, v2, v3)) (gy L) k = s at *
      generalize ha : al (w4g (v0, v1, v2, v3)) k = a at *
      have HS := Lib.hid hs
      have HA := Lib.hid ha
      clear hs ha
      go_wp2_with (first | (go_at_call 57; ((with_reducible refine (CN _).mono ?_); rintro e w' ⟨rfl, j, rfl⟩)))
      go_ret
      exact ⟨ret_int (by rw [HS.out, HA.out]), below_drewN hb _⟩
end Go.Proofs.Ytlacjifnniahhaa

namespace Go.Proofs.Ytlacjifnniahhaa
open Go Go.RowKit
set_option linter.unusedVariables false
set_option linter.unusedSimpArgs false


def m3 (m u v : Int) : Int := if v > (if u > m then u else m) then v else (if u > m then u else m)
theorem m3_eq (m u v : Int) : m3 m u v = max (max m u) v := by
  unfold m3
  split <;> split <;> omega
theorem run_max3 (m u v : Int) (w : World) : (Builtin.max_ #[3, 3, 3] 3 #[.int .i64 m, .int .i64 u, .int .i64 v]).run Try.prog w = .ok (.int .i64 (m3 m u v)) w := rfl
theorem far_no {L : List Dt} (h : ∀ d ∈ L, farD d = false) : (!L.any farD) = true := by
  rw [List.any_eq_false.2 (fun d hd => by simp [h d hd])]; rfl
theorem farD_no {x y : Int} (h : -1048576 ≤ x ∧ x ≤ 1048576) (g : -1048576 ≤ y ∧ y ≤ 1048576) : farD (x, y) = false := by
  unfold farD farB; simp; omega
def lenOf : Value → Nat
  | .slice _ n _ => n
  | _ => 0
set_option maxRecDepth 100000 in
set_option maxHeartbeats 2000000 in
theorem bendc_1 (xa ya xb yb xc yc xd yd : Int) (hxa : -1048576 ≤ xa ∧ xa ≤ 1048576) (hya : -1048576 ≤ ya ∧ ya ≤ 1048576) (hxd : -1048576 ≤ xd ∧ xd ≤ 1048576) (hyd : -1048576 ≤ yd ∧ yd ≤ 1048576) (w : World) : Calls Try.prog 66 #[.agg #[.int .i64 1, .int .i64 xa, .int .i64 ya, .int .i64 xb, .int .i64 yb, .int .i64 xc, .int .i64 yc, .int .i64 xd, .int .i64 yd]] w fun e w' => e = .returned (.int .i64 0) ∧ Below w.heap.size w w' := by
  have CP := fun W => places_1 xa ya xb yb xc yc xd yd W
  have CM := fun W => may_1 xa ya xb yb xc yc xd yd W
  rw [far_no (L := [(xa, ya), (xd, yd)]) (by simp; exact ⟨farD_no hxa hya, farD_no hxd hyd⟩)] at CM
  go_enter Try.func66, Try.ntmps66
  go_wp2_with (first | (go_at_call 65; ((with_reducible refine (CM _).mono ?_); rintro e w1 ⟨rfl, b1⟩; have B1 := (below_a1 w (.cells #[.int .i64 1, .int .i64 xa, .int .i64 ya, .int .i64 xb, .int .i64 yb, .int .i64 xc, .int .i64 yc, .int .i64 xd, .int .i64 yd] 70)).trans (b1.mono (below_a1 w _).size); have KB := (Blk.new w 70 #[.int .i64 1, .int .i64 xa, .int .i64 ya, .int .i64 xb, .int .i64 yb, .int .i64 xc, .int .i64 yc, .int .i64 xd, .int .i64 yd]).below b1; have kc := KB.lt; have k0 := KB.cell 0; have k1 := KB.cell 1; have k2 := KB.cell 2; have k3 := KB.cell 3; have k4 := KB.cell 4; have k5 := KB.cell 5; have k6 := KB.cell 6; have k7 := KB.cell 7; have k8 := KB.cell 8)) | (go_at_call 86; ((with_reducible refine (CP _).mono ?_); rintro e w2 ⟨b, rfl, K2, hb2, b2⟩; have B2 := B1.trans (b2.mono B1.size); clear k0 k1 k2 k3 k4 k5 k6 k7 k8 kc KB CM CP b1)))
  have HB2 := Lib.hid B2
  have HK2 := Lib.hid K2
  clear b2 B1 B2 K2 hb2
  go_loopw [3, 4] (fun l m wr => Below w2.heap.size w2 wr ∧ ((l = .slice (some ⟨b, 0, none⟩) 2 2 ∧ m = .int .i64 0))) (fun l _ _ => lenOf l)
  case atStart => exact ⟨Below.refl _ _, ⟨rfl, rfl⟩⟩
  case round =>
  obtain ⟨hbr, hst⟩ := hrel
  have KR := HK2.out.below hbr
  have HBR := Lib.hid hbr
  clear hbr
  rcases hst with ⟨rfl, rfl⟩
  · clear KR hxa hya hxd hyd
    go_wp2
    go_ret
    exact ⟨rfl, HB2.out.trans (HBR.out.mono HB2.out.size)⟩
set_option maxRecDepth 100000 in
set_option maxHeartbeats 2000000 in
theorem bendc_2 (xa ya xb yb xc yc xd yd : Int) (hxa : -1048576 ≤ xa ∧ xa ≤ 1048576) (hya : -1048576 ≤ ya ∧ ya ≤ 1048576) (hxb : -1048576 ≤ xb ∧ xb ≤ 1048576) (hyb : -1048576 ≤ yb ∧ yb ≤ 1048576) (hxd : -1048576 ≤ xd ∧ xd ≤ 1048576) (hyd : -1048576 ≤ yd ∧ yd ≤ 1048576) (w : World) : Calls Try.prog 66 #[.agg #[.int .i64 2, .int .i64 xa, .int .i64 ya, .int .i64 xb, .int .i64 yb, .int .i64 xc, .int .i64 yc, .int .i64 xd, .int .i64 yd]] w fun e w' => e = .returned (.int .i64 (m3 0 (bnd xa xb xd) (bnd ya yb yd))) ∧ Below w.heap.size w w' := by
  have CP := fun W => places_2 xa ya xb yb xc yc xd yd W
  have CM := fun W => may_2 xa ya xb yb xc yc xd yd W
  rw [far_no (L := [(xa, ya), (xb, yb), (xd, yd)]) (by simp; exact ⟨farD_no hxa hya, farD_no hxb hyb, farD_no hxd hyd⟩)] at CM
  go_enter Try.func66, Try.ntmps66
  go_wp2_with (first | (go_at_call 65; ((with_reducible refine (CM _).mono ?_); rintro e w1 ⟨rfl, b1⟩; have B1 := (below_a1 w (.cells #[.int .i64 2, .int .i64 xa, .int .i64 ya, .int .i64 xb, .int .i64 yb, .int .i64 xc, .int .i64 yc, .int .i64 xd, .int .i64 yd] 70)).trans (b1.mono (below_a1 w _).size); have KB := (Blk.new w 70 #[.int .i64 2, .int .i64 xa, .int .i64 ya, .int .i64 xb, .int .i64 yb, .int .i64 xc, .int .i64 yc, .int .i64 xd, .int .i64 yd]).below b1; have kc := KB.lt; have k0 := KB.cell 0; have k1 := KB.cell 1; have k2 := KB.cell 2; have k3 := KB.cell 3; have k4 := KB.cell 4; have k5 := KB.cell 5; have k6 := KB.cell 6; have k7 := KB.cell 7; have k8 := KB.cell 8)) | (go_at_call 86; ((with_reducible refine (CP _).mono ?_); rintro e w2 ⟨b, rfl, K2, hb2, b2⟩; have B2 := B1.trans (b2.mono B1.size); clear k0 k1 k2 k3 k4 k5 k6 k7 k8 kc KB CM CP b1)))
  have HB2 := Lib.hid B2
  have HK2 := Lib.hid K2
  clear b2 B1 B2 K2 hb2
  go_loopw [3, 4] (fun l m wr => Below w2.heap.size w2 wr ∧ ((l = .slice (some ⟨b, 0, none⟩) 3 3 ∧ m = .int .i64 0) ∨ (l = .slice (some ⟨b, 2, none⟩) 2 2 ∧ m = .int .i64 (m3 0 (bnd xa xb xd) (bnd ya yb yd))))) (fun l _ _ => lenOf l)
  case atStart => exact ⟨Below.refl _ _, .inl ⟨rfl, rfl⟩⟩
  case round =>
  obtain ⟨hbr, hst⟩ := hrel
  have KR := HK2.out.below hbr
  have HBR := Lib.hid hbr
  clear hbr
  rcases hst with ⟨rfl, rfl⟩ | ⟨rfl, rfl⟩
  · have HD : ∀ V, Below wr.heap.size wr V → V.cell? ⟨b, 0, none⟩ = some (.int .i64 xa) ∧ V.cell? ⟨b, 1, none⟩ = some (.int .i64 ya) ∧ V.cell? ⟨b, 2, none⟩ = some (.int .i64 xb) ∧ V.cell? ⟨b, 3, none⟩ = some (.int .i64 yb) ∧ V.cell? ⟨b, 4, none⟩ = some (.int .i64 xd) ∧ V.cell? ⟨b, 5, none⟩ = some (.int .i64 yd) ∧ b < V.heap.size := fun V hV => ⟨(KR.below hV).cell 0, (KR.below hV).cell 1, (KR.below hV).cell 2, (KR.below hV).cell 3, (KR.below hV).cell 4, (KR.below hV).cell 5, (KR.below hV).lt⟩
    have CX := fun W => bend_any xa xb xd W hxa hxb hxd
    have CY := fun W => bend_any ya yb yd W hya hyb hyd
    have RM := run_max3 0 (bnd xa xb xd) (bnd ya yb yd)
    have HKR := Lib.hid KR
    clear hxa hya hxb hyb hxd hyd KR
    go_wp2
    have hI : Below wr.heap.size wr wr.drew := (Below.refl _ _).drew
    refine wp_region_chain (fun V => Below wr.heap.size wr V) [(0, false), (1, false), (2, false), (3, false), (4, false), (5, false), (6, false), (7, false), (8, false), (9, false), (10, false), (11, false), (12, false), (14, false), (15, false), (16, false), (17, false), (18, false), (19, false), (20, false), (21, false), (22, false), (23, false), (24, false), (25, false), (13, true), (26, true), (27, false), (28, false)] (by kernel_rfl) (by kernel_rfl) hI ?_
    repeat (first
      | (refine ChainL.skip (o := ?_) ?_ ?_ ?_; rotate_left; (focus (first | (simp only [List.getElem?_toArray, List.getElem?_cons_succ, List.getElem?_cons_zero]; with_reducible rfl) | (simp only [List.getElem?_toArray, List.getElem?_cons_zero]; with_reducible rfl))); (focus rfl); simp only [Act.put, List.setIfInBounds_toArray, List.set_cons_zero, List.set_cons_succ])
      | (refine ChainL.val (o := ?_) (v := ?_) ?_ ?_ ?_ ?_ ?_; rotate_left 2; (focus (first | (simp only [List.getElem?_toArray, List.getElem?_cons_succ, List.getElem?_cons_zero]; with_reducible rfl) | (simp only [List.getElem?_toArray, List.getElem?_cons_zero]; with_reducible rfl))); (focus (intro _ _ h; cases h)); (focus rfl); (focus (intro w' hJ; obtain ⟨y0, y1, y2, y3, y4, y5, yl⟩ := HD _ hJ; go_simp <;> with_reducible rfl)); simp only [Act.put, List.setIfInBounds_toArray, List.set_cons_zero, List.set_cons_succ]))
    refine ChainL.call (o := ?_) (f := ?_) (args := ?_) ?_ ?_ ?_ ?_
    rotate_left 3
    (focus (first | (simp only [List.getElem?_toArray, List.getElem?_cons_succ, List.getElem?_cons_zero]; with_reducible rfl) | (simp only [List.getElem?_toArray, List.getElem?_cons_zero]; with_reducible rfl)))
    (focus rfl)
    (focus (go_simp; (constructor <;> with_reducible rfl)))
    with_reducible refine (CX _).mono ?_
    rintro e w5 ⟨rfl, rfl⟩
    refine ⟨_, rfl, hI, ?_⟩
    simp only [Act.put, List.setIfInBounds_toArray, List.set_cons_zero, List.set_cons_succ]
    refine ChainL.call (o := ?_) (f := ?_) (args := ?_) ?_ ?_ ?_ ?_
    rotate_left 3
    (focus (first | (simp only [List.getElem?_toArray, List.getElem?_cons_succ, List.getElem?_cons_zero]; with_reducible rfl) | (simp only [List.getElem?_toArray, List.getElem?_cons_zero]; with_reducible rfl)))
    (focus rfl)
    (focus (go_simp; (constructor <;> with_reducible rfl)))
    with_reducible refine (CY _).mono ?_
    rintro e w5 ⟨rfl, rfl⟩
    refine ⟨_, rfl, hI, ?_⟩
    simp only [Act.put, List.setIfInBounds_toArray, List.set_cons_zero, List.set_cons_succ]
    repeat (first
      | (refine ChainL.skip (o := ?_) ?_ ?_ ?_; rotate_left; (focus (first | (simp only [List.getElem?_toArray, List.getElem?_cons_succ, List.getElem?_cons_zero]; with_reducible rfl) | (simp only [List.getElem?_toArray, List.getElem?_cons_zero]; with_reducible rfl))); (focus rfl); simp only [Act.put, List.setIfInBounds_toArray, List.set_cons_zero, List.set_cons_succ])
      | (refine ChainL.val (o := ?_) (v := ?_) ?_ ?_ ?_ ?_ ?_; rotate_left 2; (focus (first | (simp only [List.getElem?_toArray, List.getElem?_cons_succ, List.getElem?_cons_zero]; with_reducible rfl) | (simp only [List.getElem?_toArray, List.getElem?_cons_zero]; with_reducible rfl))); (focus (intro _ _ h; cases h)); (focus rfl); (focus (intro w' hJ; obtain ⟨y0, y1, y2, y3, y4, y5, yl⟩ := HD _ hJ; go_simp <;> with_reducible rfl)); simp only [Act.put, List.setIfInBounds_toArray, List.set_cons_zero, List.set_cons_succ]))
    refine ChainL.nil ?_
    go_wp2
    go_roundw
    case rel => exact ⟨HBR.out.drew, .inr (⟨rfl, rfl⟩)⟩
    case measure => simp [lenOf]
  · clear KR hxa hya hxb hyb hxd hyd
    go_wp2
    go_ret
    exact ⟨rfl, HB2.out.trans (HBR.out.mono HB2.out.size)⟩
set_option maxRecDepth 100000 in
set_option maxHeartbeats 2000000 in
theorem bendc_3 (xa ya xb yb xc yc xd yd : Int) (hxa : -1048576 ≤ xa ∧ xa ≤ 1048576) (hya : -1048576 ≤ ya ∧ ya ≤ 1048576) (hxb : -1048576 ≤ xb ∧ xb ≤ 1048576) (hyb : -1048576 ≤ yb ∧ yb ≤ 1048576) (hxc : -1048576 ≤ xc ∧ xc ≤ 1048576) (hyc : -1048576 ≤ yc ∧ yc ≤ 1048576) (hxd : -1048576 ≤ xd ∧ xd ≤ 1048576) (hyd : -1048576 ≤ yd ∧ yd ≤ 1048576) (w : World) : Calls Try.prog 66 #[.agg #[.int .i64 3, .int .i64 xa, .int .i64 ya, .int .i64 xb, .int .i64 yb, .int .i64 xc, .int .i64 yc, .int .i64 xd, .int .i64 yd]] w fun e w' => e = .returned (.int .i64 (m3 (m3 0 (bnd xa xb xc) (bnd ya yb yc)) (bnd xb xc xd) (bnd yb yc yd))) ∧ Below w.heap.size w w' := by
  have CP := fun W => places_3 xa ya xb yb xc yc xd yd W
  have CM := fun W => may_3 xa ya xb yb xc yc xd yd W
  rw [far_no (L := [(xa, ya), (xb, yb), (xc, yc), (xd, yd)]) (by simp; exact ⟨farD_no hxa hya, farD_no hxb hyb, farD_no hxc hyc, farD_no hxd hyd⟩)] at CM
  go_enter Try.func66, Try.ntmps66
  go_wp2_with (first | (go_at_call 65; ((with_reducible refine (CM _).mono ?_); rintro e w1 ⟨rfl, b1⟩; have B1 := (below_a1 w (.cells #[.int .i64 3, .int .i64 xa, .int .i64 ya, .int .i64 xb, .int .i64 yb, .int .i64 xc, .int .i64 yc, .int .i64 xd, .int .i64 yd] 70)).trans (b1.mono (below_a1 w _).size); have KB := (Blk.new w 70 #[.int .i64 3, .int .i64 xa, .int .i64 ya, .int .i64 xb, .int .i64 yb, .int .i64 xc, .int .i64 yc, .int .i64 xd, .int .i64 yd]).below b1; have kc := KB.lt; have k0 := KB.cell 0; have k1 := KB.cell 1; have k2 := KB.cell 2; have k3 := KB.cell 3; have k4 := KB.cell 4; have k5 := KB.cell 5; have k6 := KB.cell 6; have k7 := KB.cell 7; have k8 := KB.cell 8)) | (go_at_call 86; ((with_reducible refine (CP _).mono ?_); rintro e w2 ⟨b, rfl, K2, hb2, b2⟩; have B2 := B1.trans (b2.mono B1.size); clear k0 k1 k2 k3 k4 k5 k6 k7 k8 kc KB CM CP b1)))
  have HB2 := Lib.hid B2
  have HK2 := Lib.hid K2
  clear b2 B1 B2 K2 hb2
  go_loopw [3, 4] (fun l m wr => Below w2.heap.size w2 wr ∧ ((l = .slice (some ⟨b, 0, none⟩) 4 4 ∧ m = .int .i64 0) ∨ (l = .slice (some ⟨b, 2, none⟩) 3 3 ∧ m = .int .i64 (m3 0 (bnd xa xb xc) (bnd ya yb yc))) ∨ (l = .slice (some ⟨b, 4, none⟩) 2 2 ∧ m = .int .i64 (m3 (m3 0 (bnd xa xb xc) (bnd ya yb yc)) (bnd xb xc xd) (bnd yb yc yd))))) (fun l _ _ => lenOf l)
  case atStart => exact ⟨Below.refl _ _, .inl ⟨rfl, rfl⟩⟩
  case round =>
  obtain ⟨hbr, hst⟩ := hrel
  have KR := HK2.out.below hbr
  have HBR := Lib.hid hbr
  clear hbr
  rcases hst with ⟨rfl, rfl⟩ | ⟨rfl, rfl⟩ | ⟨rfl, rfl⟩
  · have HD : ∀ V, Below wr.heap.size wr V → V.cell? ⟨b, 0, none⟩ = some (.int .i64 xa) ∧ V.cell? ⟨b, 1, none⟩ = some (.int .i64 ya) ∧ V.cell? ⟨b, 2, none⟩ = some (.int .i64 xb) ∧ V.cell? ⟨b, 3, none⟩ = some (.int .i64 yb) ∧ V.cell? ⟨b, 4, none⟩ = some (.int .i64 xc) ∧ V.cell? ⟨b, 5, none⟩ = some (.int .i64 yc) ∧ V.cell? ⟨b, 6, none⟩ = some (.int .i64 xd) ∧ V.cell? ⟨b, 7, none⟩ = some (.int .i64 yd) ∧ b < V.heap.size := fun V hV => ⟨(KR.below hV).cell 0, (KR.below hV).cell 1, (KR.below hV).cell 2, (KR.below hV).cell 3, (KR.below hV).cell 4, (KR.below hV).cell 5, (KR.below hV).cell 6, (KR.below hV).cell 7, (KR.below hV).lt⟩
    have CX := fun W => bend_any xa xb xc W hxa hxb hxc
    have CY := fun W => bend_any ya yb yc W hya hyb hyc
    have RM := run_max3 0 (bnd xa xb xc) (bnd ya yb yc)
    have HKR := Lib.hid KR
    clear hxa hya hxb hyb hxc hyc hxd hyd KR
    go_wp2
    have hI : Below wr.heap.size wr wr.drew := (Below.refl _ _).drew
    refine wp_region_chain (fun V => Below wr.heap.size wr V) [(0, false), (1, false), (2, false), (3, false), (4, false), (5, false), (6, false), (7, false), (8, false), (9, false), (10, false), (11, false), (12, false), (14, false), (15, false), (16, false), (17, false), (18, false), (19, false), (20, false), (21, false), (22, false), (23, false), (24, false), (25, false), (13, true), (26, true), (27, false), (28, false)] (by kernel_rfl) (by kernel_rfl) hI ?_
    repeat (first
      | (refine ChainL.skip (o := ?_) ?_ ?_ ?_; rotate_left; (focus (first | (simp only [List.getElem?_toArray, List.getElem?_cons_succ, List.getElem?_cons_zero]; with_reducible rfl) | (simp only [List.getElem?_toArray, List.getElem?_cons_zero]; with_reducible rfl))); (focus rfl); simp only [Act.put, List.setIfInBounds_toArray, List.set_cons_zero, List.set_cons_succ])
      | (refine ChainL.val (o := ?_) (v := ?_) ?_ ?_ ?_ ?_ ?_; rotate_left 2; (focus (first | (simp only [List.getElem?_toArray, List.getElem?_cons_succ, List.getElem?_cons_zero]; with_reducible rfl) | (simp only [List.getElem?_toArray, List.getElem?_cons_zero]; with_reducible rfl))); (focus (intro _ _ h; cases h)); (focus rfl); (focus (intro w' hJ; obtain ⟨y0, y1, y2, y3, y4, y5, y6, y7, yl⟩ := HD _ hJ; go_simp <;> with_reducible rfl)); simp only [Act.put, List.setIfInBounds_toArray, List.set_cons_zero, List.set_cons_succ]))
    refine ChainL.call (o := ?_) (f := ?_) (args := ?_) ?_ ?_ ?_ ?_
    rotate_left 3
    (focus (first | (simp only [List.getElem?_toArray, List.getElem?_cons_succ, List.getElem?_cons_zero]; with_reducible rfl) | (simp only [List.getElem?_toArray, List.getElem?_cons_zero]; with_reducible rfl)))
    (focus rfl)
    (focus (go_simp; (constructor <;> with_reducible rfl)))
    with_reducible refine (CX _).mono ?_
    rintro e w5 ⟨rfl, rfl⟩
    refine ⟨_, rfl, hI, ?_⟩
    simp only [Act.put, List.setIfInBounds_toArray, List.set_cons_zero, List.set_cons_succ]
    refine ChainL.call (o := ?_) (f := ?_) (args := ?_) ?_ ?_ ?_ ?_
    rotate_left 3
    (focus (first | (simp only [List.getElem?_toArray, List.getElem?_cons_succ, List.getElem?_cons_zero]; with_reducible rfl) | (simp only [List.getElem?_toArray, List.getElem?_cons_zero]; with_reducible rfl)))
    (focus rfl)
    (focus (go_simp; (constructor <;> with_reducible rfl)))
    with_reducible refine (CY _).mono ?_
    rintro e w5 ⟨rfl, rfl⟩
    refine ⟨_, rfl, hI, ?_⟩
    simp only [Act.put, List.setIfInBounds_toArray, List.set_cons_zero, List.set_cons_succ]
    repeat (first
      | (refine ChainL.skip (o := ?_) ?_ ?_ ?_; rotate_left; (focus (first | (simp only [List.getElem?_toArray, List.getElem?_cons_succ, List.getElem?_cons_zero]; with_reducible rfl) | (simp only [List.getElem?_toArray, List.getElem?_cons_zero]; with_reducible rfl))); (focus rfl); simp only [Act.put, List.setIfInBounds_toArray, List.set_cons_zero, List.set_cons_succ])
      | (refine ChainL.val (o := ?_) (v := ?_) ?_ ?_ ?_ ?_ ?_; rotate_left 2; (focus (first | (simp only [List.getElem?_toArray, List.getElem?_cons_succ, List.getElem?_cons_zero]; with_reducible rfl) | (simp only [List.getElem?_toArray, List.getElem?_cons_zero]; with_reducible rfl))); (focus (intro _ _ h; cases h)); (focus rfl); (focus (intro w' hJ; obtain ⟨y0, y1, y2, y3, y4, y5, y6, y7, yl⟩ := HD _ hJ; go_simp <;> with_reducible rfl)); simp only [Act.put, List.setIfInBounds_toArray, List.set_cons_zero, List.set_cons_succ]))
    refine ChainL.nil ?_
    go_wp2
    go_roundw
    case rel => exact ⟨HBR.out.drew, .inr (.inl ⟨rfl, rfl⟩)⟩
    case measure => simp [lenOf]
  · have HD : ∀ V, Below wr.heap.size wr V → V.cell? ⟨b, 0, none⟩ = some (.int .i64 xa) ∧ V.cell? ⟨b, 1, none⟩ = some (.int .i64 ya) ∧ V.cell? ⟨b, 2, none⟩ = some (.int .i64 xb) ∧ V.cell? ⟨b, 3, none⟩ = some (.int .i64 yb) ∧ V.cell? ⟨b, 4, none⟩ = some (.int .i64 xc) ∧ V.cell? ⟨b, 5, none⟩ = some (.int .i64 yc) ∧ V.cell? ⟨b, 6, none⟩ = some (.int .i64 xd) ∧ V.cell? ⟨b, 7, none⟩ = some (.int .i64 yd) ∧ b < V.heap.size := fun V hV => ⟨(KR.below hV).cell 0, (KR.below hV).cell 1, (KR.below hV).cell 2, (KR.below hV).cell 3, (KR.below hV).cell 4, (KR.below hV).cell 5, (KR.below hV).cell 6, (KR.below hV).cell 7, (KR.below hV).lt⟩
    have CX := fun W => bend_any xb xc xd W hxb hxc hxd
    have CY := fun W => bend_any yb yc yd W hyb hyc hyd
    have RM := run_max3 (m3 0 (bnd xa xb xc) (bnd ya yb yc)) (bnd xb xc xd) (bnd yb yc yd)
    have HKR := Lib.hid KR
    clear hxa hya hxb hyb hxc hyc hxd hyd KR
    go_wp2
    have hI : Below wr.heap.size wr wr.drew := (Below.refl _ _).drew
    refine wp_region_chain (fun V => Below wr.heap.size wr V) [(0, false), (1, false), (2, false), (3, false), (4, false), (5, false), (6, false), (7, false), (8, false), (9, false), (10, false), (11, false), (12, false), (14, false), (15, false), (16, false), (17, false), (18, false), (19, false), (20, false), (21, false), (22, false), (23, false), (24, false), (25, false), (13, true), (26, true), (27, false), (28, false)] (by kernel_rfl) (by kernel_rfl) hI ?_
    repeat (first
      | (refine ChainL.skip (o := ?_) ?_ ?_ ?_; rotate_left; (focus (first | (simp only [List.getElem?_toArray, List.getElem?_cons_succ, List.getElem?_cons_zero]; with_reducible rfl) | (simp only [List.getElem?_toArray, List.getElem?_cons_zero]; with_reducible rfl))); (focus rfl); simp only [Act.put, List.setIfInBounds_toArray, List.set_cons_zero, List.set_cons_succ])
      | (refine ChainL.val (o := ?_) (v := ?_) ?_ ?_ ?_ ?_ ?_; rotate_left 2; (focus (first | (simp only [List.getElem?_toArray, List.getElem?_cons_succ, List.getElem?_cons_zero]; with_reducible rfl) | (simp only [List.getElem?_toArray, List.getElem?_cons_zero]; with_reducible rfl))); (focus (intro _ _ h; cases h)); (focus rfl); (focus (intro w' hJ; obtain ⟨y0, y1, y2, y3, y4, y5, y6, y7, yl⟩ := HD _ hJ; go_simp <;> with_reducible rfl)); simp only [Act.put, List.setIfInBounds_toArray, List.set_cons_zero, List.set_cons_succ]))
    refine ChainL.call (o := ?_) (f := ?_) (args := ?_) ?_ ?_ ?_ ?_
    rotate_left 3
    (focus (first | (simp only [List.getElem?_toArray, List.getElem?_cons_succ, List.getElem?_cons_zero]; with_reducible rfl) | (simp only [List.getElem?_toArray, List.getElem?_cons_zero]; with_reducible rfl)))
    (focus rfl)
    (focus (go_simp; (constructor <;> with_reducible rfl)))
    with_reducible refine (CX _).mono ?_
    rintro e w5 ⟨rfl, rfl⟩
    refine ⟨_, rfl, hI, ?_⟩
    simp only [Act.put, List.setIfInBounds_toArray, List.set_cons_zero, List.set_cons_succ]
    refine ChainL.call (o := ?_) (f := ?_) (args := ?_) ?_ ?_ ?_ ?_
    rotate_left 3
    (focus (first | (simp only [List.getElem?_toArray, List.getElem?_cons_succ, List.getElem?_cons_zero]; with_reducible rfl) | (simp only [List.getElem?_toArray, List.getElem?_cons_zero]; with_reducible rfl)))
    (focus rfl)
    (focus (go_simp; (constructor <;> with_reducible rfl)))
    with_reducible refine (CY _).mono ?_
    rintro e w5 ⟨rfl, rfl⟩
    refine ⟨_, rfl, hI, ?_⟩
    simp only [Act.put, List.setIfInBounds_toArray, List.set_cons_zero, List.set_cons_succ]
    repeat (first
      | (refine ChainL.skip (o := ?_) ?_ ?_ ?_; rotate_left; (focus (first | (simp only [List.getElem?_toArray, List.getElem?_cons_succ, List.getElem?_cons_zero]; with_reducible rfl) | (simp only [List.getElem?_toArray, List.getElem?_cons_zero]; with_reducible rfl))); (focus rfl); simp only [Act.put, List.setIfInBounds_toArray, List.set_cons_zero, List.set_cons_succ])
      | (refine ChainL.val (o := ?_) (v := ?_) ?_ ?_ ?_ ?_ ?_; rotate_left 2; (focus (first | (simp only [List.getElem?_toArray, List.getElem?_cons_succ, List.getElem?_cons_zero]; with_reducible rfl) | (simp only [List.getElem?_toArray, List.getElem?_cons_zero]; with_reducible rfl))); (focus (intro _ _ h; cases h)); (focus rfl); (focus (intro w' hJ; obtain ⟨y0, y1, y2, y3, y4, y5, y6, y7, yl⟩ := HD _ hJ; go_simp <;> with_reducible rfl)); simp only [Act.put, List.setIfInBounds_toArray, List.set_cons_zero, List.set_cons_succ]))
    refine ChainL.nil ?_
    go_wp2
    go_roundw
    case rel => exact ⟨HBR.out.drew, .inr (.inr (⟨rfl, rfl⟩))⟩
    case measure => simp [lenOf]
  · clear KR hxa hya hxb hyb hxc hyc hxd hyd
    go_wp2
    go_ret
    exact ⟨rfl, HB2.out.trans (HBR.out.mono HB2.out.size)⟩
set_option maxRecDepth 100000 in
theorem bendc_no (c : Bw) (h : mayW c = false) (w : World) : Calls Try.prog 66 #[bwV c] w fun e w' => e = .returned (.int .i64 0) ∧ Below w.heap.size w w' := by
  have CM := fun W => cmay_any c W
  rw [h] at CM
  clear h
  unfold bwV at *
  go_enter Try.func66, Try.ntmps66
  go_wp2_with (first | (go_at_call 65; ((with_reducible refine (CM _).mono ?_); rintro e w1 ⟨rfl, b1⟩; have B1 := (below_a1 w (.cells (bwL c).toArray 70)).trans (b1.mono (below_a1 w _).size))))
  go_ret
  exact ⟨rfl, B1⟩
/-- How far a bow bends. -/
def bnW (c : Bw) : Int := if mayW c = true then (if c.k = 2 then m3 0 (bnd c.xa c.xb c.xd) (bnd c.ya c.yb c.yd) else if c.k = 3 then m3 (m3 0 (bnd c.xa c.xb c.xc) (bnd c.ya c.yb c.yc)) (bnd c.xb c.xc c.xd) (bnd c.yb c.yc c.yd) else 0) else 0
theorem farD_of {x y : Int} (h : farD (x, y) = false) : (-1048576 ≤ x ∧ x ≤ 1048576) ∧ (-1048576 ≤ y ∧ y ≤ 1048576) := by
  unfold farD at h
  simp only [Bool.or_eq_false_iff] at h
  exact ⟨farB_ok h.1, farB_ok h.2⟩
theorem cbend_any (c : Bw) (w : World) : Calls Try.prog 66 #[bwV c] w fun e w' => e = .returned (.int .i64 (bnW c)) ∧ Below w.heap.size w w' := by
  unfold bnW
  by_cases hm : mayW c = true
  · rw [if_pos hm]
    obtain ⟨k, xa, ya, xb, yb, xc, yc, xd, yd⟩ := c
    unfold bwV
    dsimp only
    rcases kinds k with rfl | rfl | rfl | ⟨h1, h2, h3⟩
    · rw [if_neg (by decide), if_neg (by decide)]
      simp [mayW, plc] at hm
      exact bendc_1 xa ya xb yb xc yc xd yd (farD_of hm.1).1 (farD_of hm.1).2 (farD_of hm.2).1 (farD_of hm.2).2 w
    · rw [if_pos rfl]
      simp [mayW, plc] at hm
      exact bendc_2 xa ya xb yb xc yc xd yd (farD_of hm.1).1 (farD_of hm.1).2 (farD_of hm.2.1).1 (farD_of hm.2.1).2 (farD_of hm.2.2).1 (farD_of hm.2.2).2 w
    · rw [if_neg (by decide), if_pos rfl]
      simp [mayW, plc] at hm
      exact bendc_3 xa ya xb yb xc yc xd yd (farD_of hm.1).1 (farD_of hm.1).2 (farD_of hm.2.1).1 (farD_of hm.2.1).2 (farD_of hm.2.2.1).1 (farD_of hm.2.2.1).2 (farD_of hm.2.2.2).1 (farD_of hm.2.2.2).2 w
    · exfalso; unfold mayW at hm; rw [plc_0 (c := ⟨k, xa, ya, xb, yb, xc, yc, xd, yd⟩) h1 h2 h3] at hm; cases hm
  · rw [if_neg hm]
    exact bendc_no c (by simpa using hm) w
end Go.Proofs.Ytlacjifnniahhaa

namespace Go.Proofs.Ytlacjifnniahhaa
open Go Go.RowKit
set_option linter.unusedVariables false
set_option linter.unusedSimpArgs false


/-- The least n from k on for which d is at most 8 n n; at most 256. -/
def pcsG (d : Int) : Nat → Int → Int
  | 0, n => n
  | f + 1, n => if n < 256 ∧ 8 * n * n < d then pcsG d f (n + 1) else n
def pcs (d : Int) : Int := pcsG d 255 1
def need (c : Bw) : Int := if c.k = 3 then bnW c * 3 else bnW c
def pcW (c : Bw) : Int := if mayW c = true then pcs (need c) else 0
theorem bnd_le {a b d : Int} (ha : -1048576 ≤ a ∧ a ≤ 1048576) (hb : -1048576 ≤ b ∧ b ≤ 1048576) (hd : -1048576 ≤ d ∧ d ≤ 1048576) : 0 ≤ bnd a b d ∧ bnd a b d ≤ 4194304 := by unfold bnd; omega
theorem bnW_le (c : Bw) : 0 ≤ bnW c ∧ bnW c ≤ 4194304 := by
  unfold bnW
  by_cases hm : mayW c = true
  · rw [if_pos hm]
    obtain ⟨k, xa, ya, xb, yb, xc, yc, xd, yd⟩ := c
    dsimp only
    rcases kinds k with rfl | rfl | rfl | ⟨h1, h2, h3⟩
    · rw [if_neg (by decide), if_neg (by decide)]; omega
    · rw [if_pos rfl]
      simp [mayW, plc] at hm
      have u := bnd_le (farD_of hm.1).1 (farD_of hm.2.1).1 (farD_of hm.2.2).1
      have v := bnd_le (farD_of hm.1).2 (farD_of hm.2.1).2 (farD_of hm.2.2).2
      rw [m3_eq]; omega
    · rw [if_neg (by decide), if_pos rfl]
      simp [mayW, plc] at hm
      have u := bnd_le (farD_of hm.1).1 (farD_of hm.2.1).1 (farD_of hm.2.2.1).1
      have v := bnd_le (farD_of hm.1).2 (farD_of hm.2.1).2 (farD_of hm.2.2.1).2
      have u2 := bnd_le (farD_of hm.2.1).1 (farD_of hm.2.2.1).1 (farD_of hm.2.2.2).1
      have v2 := bnd_le (farD_of hm.2.1).2 (farD_of hm.2.2.1).2 (farD_of hm.2.2.2).2
      rw [m3_eq, m3_eq]; omega
    · rw [if_neg (by simpa using h2), if_neg (by simpa using h3)]; omega
  · rw [if_neg hm]; omega
theorem sq_le {k : Int} (h0 : 0 ≤ k) (h1 : k ≤ 512) : 0 ≤ 8 * k * k ∧ 8 * k * k ≤ 2097152 := by
  have a := Int.mul_le_mul (a := 8 * k) (b := k) (c := 4096) (d := 512) (by omega) h1 h0 (by omega)
  have b := Int.mul_nonneg (a := 8 * k) (b := k) (by omega) h0
  omega
theorem pcsG_go {d : Int} {k : Nat} (h : k < 256) (hd : 8 * (k : Int) * k < d) : pcsG d (256 - k) k = pcsG d (256 - (k + 1)) ((k + 1 : Nat) : Int) := by
  rw [show 256 - k = (256 - (k + 1)) + 1 by omega]
  conv => lhs; unfold pcsG
  rw [if_pos ⟨by omega, hd⟩]
  norm_cast
theorem pcsG_end {d : Int} {k : Nat} (h : k < 256) (hd : ¬ 8 * (k : Int) * k < d) : pcsG d (256 - k) k = k := by
  rw [show 256 - k = (256 - (k + 1)) + 1 by omega]
  unfold pcsG
  rw [if_neg (fun h => hd h.2)]

set_option maxRecDepth 100000 in
set_option maxHeartbeats 1000000 in
theorem cpcs_no (c : Bw) (h : mayW c = false) (w : World) : Calls Try.prog 39 #[bwV c] w fun e w' => e = .returned (.int .i64 0) ∧ Below w.heap.size w w' := by
  have CM := fun W => cmay_any c W
  rw [h] at CM
  clear h
  unfold bwV at *
  go_enter Try.func39, Try.ntmps39
  go_wp2_with (first | (go_at_call 65; ((with_reducible refine (CM _).mono ?_); rintro e w1 ⟨rfl, b1⟩; have B1 := (below_a1 w (.cells (bwL c).toArray 70)).trans (b1.mono (below_a1 w _).size))))
  go_ret
  exact ⟨rfl, B1⟩
set_option maxRecDepth 100000 in
set_option maxHeartbeats 1000000 in
theorem cpcs_3 (c : Bw) (h : mayW c = true) (h3 : (c.k == 3) = true) (w : World) : Calls Try.prog 39 #[bwV c] w fun e w' => e = .returned (.int .i64 (pcs (bnW c * 3))) ∧ Below w.heap.size w w' := by
  have CM := fun W => cmay_any c W
  have CB := fun W => cbend_any c W
  have BL := bnW_le c
  rw [h] at CM
  clear h
  unfold bwV at *
  unfold pcs
  generalize bnW c = d at *
  obtain ⟨l1, l2⟩ := BL
  obtain ⟨r, hr⟩ : ∃ r, r = pcsG (d * 3) 255 1 := ⟨_, rfl⟩
  have HR := Lib.hid hr
  rw [← hr]
  clear hr
  go_enter Try.func39, Try.ntmps39
  go_wp2_with (first | (go_at_call 65; ((with_reducible refine (CM _).mono ?_); rintro e w1 ⟨rfl, b1⟩; have B1 := (below_a1 w (.cells (bwL c).toArray 70)).trans (b1.mono (below_a1 w _).size); have KB := (Blk.new w 70 (bwL c).toArray).below b1; have kc := KB.lt; have k0 := KB.cell 0; have k1 := KB.cell 1; have k2 := KB.cell 2; have k3 := KB.cell 3; have k4 := KB.cell 4; have k5 := KB.cell 5; have k6 := KB.cell 6; have k7 := KB.cell 7; have k8 := KB.cell 8; simp only [bwL, List.getElem?_toArray, List.getElem?_cons_succ, List.getElem?_cons_zero] at k0 k1 k2 k3 k4 k5 k6 k7 k8)) | (go_at_call 66; ((with_reducible refine (CB _).mono ?_); rintro e w2 ⟨rfl, b2⟩; have B2 := B1.trans (b2.mono B1.size); have KC := KB.below b2; have kd := KC.lt; have q0 := KC.cell 0; simp only [bwL, List.getElem?_toArray, List.getElem?_cons_succ, List.getElem?_cons_zero] at q0)))
  obtain ⟨d3, hd3⟩ : ∃ d3, d3 = d * 3 := ⟨_, rfl⟩
  go_loop [4] (fun n => ∃ k : Nat, 1 ≤ k ∧ k ≤ 256 ∧ n = .int .i64 k ∧ Hid (pcsG (d * 3) (256 - k) k = r)) (fun n => 256 - (intOf n).toNat)
  case atStart => exact ⟨1, by omega, by omega, rfl, Lib.hid HR.out.symm⟩
  case round =>
    obtain ⟨k, hk1, hk2, rfl, HK⟩ := hrel
    have hs := sq_le (k := k) (by omega) (by omega)
    obtain ⟨s1, s2⟩ := hs
    by_cases hk : k < 256
    · have d1 : decide ((k : Int) < 256) = true := by simp; omega
      by_cases hd : 8 * (k : Int) * k < d * 3
      · have d2 : decide (d * 3 > 8 * (k : Int) * k) = true := by simpa using hd
        have HN := Lib.hid (pcsG_go hk hd)
        clear hd
        go_wp2
        go_round
        case rel => exact ⟨k + 1, by omega, by omega, by go_num, Lib.hid (HN.out.symm.trans HK.out)⟩
        case measure => simp [intOf]; omega
      · have d2 : decide (d * 3 > 8 * (k : Int) * k) = false := by simpa using hd
        have HN := Lib.hid (pcsG_end hk hd)
        clear hd
        go_wp2
        go_ret
        exact ⟨ret_int (HN.out.symm.trans HK.out), B2⟩
    · have d1 : decide ((k : Int) < 256) = false := by simp; omega
      have hk : k = 256 := by omega
      have HN := Lib.hid HK.out
      clear HK
      subst hk
      go_wp2
      go_ret
      exact ⟨ret_int HN.out, B2⟩
set_option maxRecDepth 100000 in
set_option maxHeartbeats 1000000 in
theorem cpcs_n (c : Bw) (h : mayW c = true) (h3 : (c.k == 3) = false) (w : World) : Calls Try.prog 39 #[bwV c] w fun e w' => e = .returned (.int .i64 (pcs (bnW c))) ∧ Below w.heap.size w w' := by
  have CM := fun W => cmay_any c W
  have CB := fun W => cbend_any c W
  have BL := bnW_le c
  rw [h] at CM
  clear h
  unfold bwV at *
  unfold pcs
  generalize bnW c = d at *
  obtain ⟨l1, l2⟩ := BL
  obtain ⟨r, hr⟩ : ∃ r, r = pcsG d 255 1 := ⟨_, rfl⟩
  have HR := Lib.hid hr
  rw [← hr]
  clear hr
  go_enter Try.func39, Try.ntmps39
  go_wp2_with (first | (go_at_call 65; ((with_reducible refine (CM _).mono ?_); rintro e w1 ⟨rfl, b1⟩; have B1 := (below_a1 w (.cells (bwL c).toArray 70)).trans (b1.mono (below_a1 w _).size); have KB := (Blk.new w 70 (bwL c).toArray).below b1; have kc := KB.lt; have k0 := KB.cell 0; have k1 := KB.cell 1; have k2 := KB.cell 2; have k3 := KB.cell 3; have k4 := KB.cell 4; have k5 := KB.cell 5; have k6 := KB.cell 6; have k7 := KB.cell 7; have k8 := KB.cell 8; simp only [bwL, List.getElem?_toArray, List.getElem?_cons_succ, List.getElem?_cons_zero] at k0 k1 k2 k3 k4 k5 k6 k7 k8)) | (go_at_call 66; ((with_reducible refine (CB _).mono ?_); rintro e w2 ⟨rfl, b2⟩; have B2 := B1.trans (b2.mono B1.size); have KC := KB.below b2; have kd := KC.lt; have q0 := KC.cell 0; simp only [bwL, List.getElem?_toArray, List.getElem?_cons_succ, List.getElem?_cons_zero] at q0)))
  skip
  go_loop [4] (fun n => ∃ k : Nat, 1 ≤ k ∧ k ≤ 256 ∧ n = .int .i64 k ∧ Hid (pcsG d (256 - k) k = r)) (fun n => 256 - (intOf n).toNat)
  case atStart => exact ⟨1, by omega, by omega, rfl, Lib.hid HR.out.symm⟩
  case round =>
    obtain ⟨k, hk1, hk2, rfl, HK⟩ := hrel
    have hs := sq_le (k := k) (by omega) (by omega)
    obtain ⟨s1, s2⟩ := hs
    by_cases hk : k < 256
    · have d1 : decide ((k : Int) < 256) = true := by simp; omega
      by_cases hd : 8 * (k : Int) * k < d
      · have d2 : decide (d > 8 * (k : Int) * k) = true := by simpa using hd
        have HN := Lib.hid (pcsG_go hk hd)
        clear hd
        go_wp2
        go_round
        case rel => exact ⟨k + 1, by omega, by omega, by go_num, Lib.hid (HN.out.symm.trans HK.out)⟩
        case measure => simp [intOf]; omega
      · have d2 : decide (d > 8 * (k : Int) * k) = false := by simpa using hd
        have HN := Lib.hid (pcsG_end hk hd)
        clear hd
        go_wp2
        go_ret
        exact ⟨ret_int (HN.out.symm.trans HK.out), B2⟩
    · have d1 : decide ((k : Int) < 256) = false := by simp; omega
      have hk : k = 256 := by omega
      have HN := Lib.hid HK.out
      clear HK
      subst hk
      go_wp2
      go_ret
      exact ⟨ret_int HN.out, B2⟩
theorem cpcs_any (c : Bw) (w : World) : Calls Try.prog 39 #[bwV c] w fun e w' => e = .returned (.int .i64 (pcW c)) ∧ Below w.heap.size w w' := by
  unfold pcW need
  by_cases hm : mayW c = true
  · rw [if_pos hm]
    by_cases h3 : c.k = 3
    · rw [if_pos h3]; exact cpcs_3 c hm (by simpa using h3) w
    · rw [if_neg h3]; exact cpcs_n c hm (by simpa using h3) w
  · rw [if_neg hm]; exact cpcs_no c (by simpa using hm) w
theorem pcsG_in (d : Int) : ∀ (f : Nat) (n : Int), 1 ≤ n → n + f ≤ 256 → n ≤ pcsG d f n ∧ pcsG d f n ≤ n + f
  | 0, n, h, _ => by unfold pcsG; omega
  | f + 1, n, h, h2 => by
    unfold pcsG
    split
    · have := pcsG_in d f (n + 1) (by omega) (by omega); omega
    · omega
theorem pcs_in (d : Int) : 1 ≤ pcs d ∧ pcs d ≤ 256 := by have := pcsG_in d 255 1 (by omega) (by omega); unfold pcs; omega
end Go.Proofs.Ytlacjifnniahhaa
