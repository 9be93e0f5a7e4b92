/- Part 9 of the proof: ReadH, ReadG, PutP, PutL, PutH. -/
import Derived.Test.YtbomgaacahaofaaCP7

namespace Go.Proofs.Ytbomgaacahaofaa
open Go Go.RowKit

theorem sizH : (Try.prog.info? 25).map (·.size) = some 9 := by kernel_rfl
theorem oneH : (zH : Array Value).all (·.oneCell') = true := by kernel_rfl

set_option maxRecDepth 100000 in
set_option maxHeartbeats 16000000 in
theorem readH_any (A : Option Addr) (c : Nat) (E : List Value) (w : World) (hE : Lists w w.heap.size A E) (h8 : Bytes8 E) (hc : E.length ≤ c) (hc2 : c ≤ 9223372036854775807) (hm : E.length ≤ 140737488355328) (err : Int) :
    Calls Try.prog 28 #[.slice A E.length c, .int .i64 54, .int .i64 err, .func (.func 25) #[] #[]] w (GotR w mkH zH err (rdRun (E.take 54) dsH zH) (E.take 54).length) := by
  obtain ⟨n, hn⟩ : ∃ n, n = E.length := ⟨_, rfl⟩
  obtain ⟨m, hmm⟩ : ∃ m, m = (E.take 54).length := ⟨_, rfl⟩
  have hm1 : m = min n 54 := by rw [hmm, List.length_take, hn]; omega
  rw [← hn] at hc hm ⊢
  rw [← hmm]
  have b0 : Below w.heap.size w (((w.alloc (.cells zH 25)).alloc (.cells zH 25)).alloc (.cells zH 25)) := below_al (below_al (below_al (Below.refl _ _) _) _) _
  have hR0 : Blk (((w.alloc (.cells zH 25)).alloc (.cells zH 25)).alloc (.cells zH 25)) w.heap.size 25 zH := ((Blk.at rfl).al _).al _
  have hX0 : Blk (((w.alloc (.cells zH 25)).alloc (.cells zH 25)).alloc (.cells zH 25)) (w.heap.size + 1) 25 zH := (Blk.at (by simp)).al _
  have hN0 : Blk (((w.alloc (.cells zH 25)).alloc (.cells zH 25)).alloc (.cells zH 25)) (w.heap.size + 2) 25 zH := Blk.at (by simp)
  have hz0 : (((w.alloc (.cells zH 25)).alloc (.cells zH 25)).alloc (.cells zH 25)).heap.size = w.heap.size + 3 := by simp
  obtain ⟨wa, hwa⟩ : ∃ wa, wa = ((w.alloc (.cells zH 25)).alloc (.cells zH 25)).alloc (.cells zH 25) := ⟨_, rfl⟩
  rw [← hwa] at b0 hR0 hX0 hN0 hz0
  have hTake : Lists wa wa.heap.size A (E.take 54) := by
    have h1 := lists_part hE 0 54
    rw [List.drop_zero] at h1
    have e : A.map (·.add 0) = A := by cases A <;> simp [Addr.add]
    rw [e] at h1
    exact (h1.below b0).more b0.size
  have C0 : Calls Try.prog 49 #[.slice A m c] wa (MadeRd wa (E.take 54)) := new_any A m c (E.take 54) wa hTake hmm.symm (fun u hu => h8 u (List.mem_of_mem_take hu)) (by omega)
  have C := C0.mono (R' := fun e w3 => ∃ p, e = .returned (.pointer (some ⟨p, 0, none⟩)) ∧ Calls Try.prog 50 #[.pointer (some ⟨p, 0, none⟩)] w3 fun e w4 => ∃ r, e = .returned (.func (.func 63) #[] #[.pointer (some ⟨r, 0, none⟩)]) ∧ Calls Try.prog 25 #[.pointer (some ⟨w.heap.size + 1, 0, none⟩)] w4 fun e w5 =>
      ∃ row cc : Nat, e = .returned (.slice (some ⟨row, 0, none⟩) dsH.length cc) ∧ Calls Try.prog 42 #[.func (.func 63) #[] #[.pointer (some ⟨r, 0, none⟩)], .slice (some ⟨row, 0, none⟩) dsH.length cc] w5 fun e w6 =>
        ∃ rb rk ra, rdRun (E.take 54) dsH zH = (rb, rk, ra) ∧ e = .returned (.bool rb) ∧ Below w.heap.size w w6 ∧ Blk w6 (w.heap.size + 1) 25 ra ∧ Blk w6 w.heap.size 25 zH ∧ Blk w6 (w.heap.size + 2) 25 zH ∧ ra.size = 9 ∧ ra.all (·.oneCell') = true ∧
          Calls Try.prog 51 #[.pointer (some ⟨p, 0, none⟩)] w6 fun e w7 => e = .returned (.int .i64 (if rk ≤ m then 0 else 30)) ∧ w6 = w7) ?_
  rotate_left
  · rintro e w3 ⟨p, rfl, hrd, b3, hp3⟩
    refine ⟨p, rfl, (from_new p w3).mono ?_⟩
    rintro e w4 ⟨rfl, hw4⟩
    have b4 : Below w3.heap.size w3 w4 := by rw [hw4]; exact below_al (Below.refl _ _) _
    have hr4 : Blk w4 w3.heap.size 99 #[.pointer (some ⟨p, 0, none⟩)] := by rw [hw4]; exact Blk.at rfl
    refine ⟨w3.heap.size, rfl, (headFields_any (w.heap.size + 1) w4).mono ?_⟩
    rintro e w5 ⟨vs, fp, own, row, cc, rfl, hvl, hrow, hF, hlow, hown, hsep, hro, b5⟩
    have hvl2 : vs.length = dsH.length := hvl
    rw [hvl2]
    refine ⟨row, cc, rfl, ?_⟩
    have z3 := b3.size
    have z4 := b4.size
    have z5 := b5.size
    have b35 : Below w3.heap.size w3 w5 := b4.trans (b5.mono z4)
    have b05 : Below w.heap.size w w5 := b0.trans ((b3.trans (b35.mono z3)).mono b0.size)
    have hX5 := ((hX0.below b3).below b4).below b5
    have hR5 := ((hR0.below b3).below b4).below b5
    have hN5 := ((hN0.below b3).below b4).below b5
    have Kc := from_carr2 w (fun b => wa.heap.size ≤ b ∧ b < w3.heap.size) w3.heap.size p (E.take 54) (by omega) 1000 (by omega)
    have hI : IFrom2 w (fun b => wa.heap.size ≤ b ∧ b < w3.heap.size) w3.heap.size p (E.take 54) 0 w5 :=
      ⟨⟨.inl ⟨Nat.zero_le _, (hrd.below b4).below b5⟩, hr4.below b5, (rd_blk ((hrd.below b4).below b5)), fun b hb => by omega⟩, b05⟩
    have hC := carryAll_any Kc [0, 1, 2, 3, 4, 5, 6, 7] [8] (by decide) (w.heap.size + 1) 25 ⟨⟨by omega, by omega⟩, by omega⟩ (by decide) (by decide) vs dsH fp own row cc zH 0 w5 hvl2 (by rw [hvl2]; decide) hrow
      (by unfold dsH; simp [fdOk]) hF (fun j hj => by have := (hlow j _ hj).1; omega) (fun j b hb => ⟨⟨by have := (hlow j b (hown j b hb)).1; omega, by have := (hlow j b (hown j b hb)).1; rw [hw4, al_size] at this; omega⟩, by have := (hlow j b (hown j b hb)).1; omega⟩)
      hsep hro hI hX5 ⟨by intro o ho; simp at ho; first | (rcases ho with rfl | rfl | rfl | rfl | rfl | rfl | rfl | rfl <;> exact ⟨_, rfl⟩) | (subst ho; exact ⟨_, rfl⟩), by intro o ho; simp at ho; try (subst ho; exact ⟨_, rfl⟩)⟩ (by decide)
    rw [hvl2] at hC
    refine hC.mono ?_
    rintro e w6 ⟨rfl, ⟨⟨hrs, _⟩, b6⟩, hX6, hk6⟩
    have hsz : (rdRun (E.take 54) dsH zH).2.2.size = 9 := runAll_size _ _ dsH 0 zH
    have hone : (rdRun (E.take 54) dsH zH).2.2.all (·.oneCell') = true := runAll_one _ _ dsH 0 zH oneH
    have hdone := rs_done _ _ _ _ hrs
    rw [← hmm] at hdone
    have hnot : ∀ b, b < wa.heap.size → ¬ ∃ i, b ∈ own i := fun b hb ⟨i, hi⟩ => by have := (hlow i b (hown i b hi)).1; omega
    exact ⟨_, _, _, rfl, rfl, b6, hX6, hk6.2 _ _ _ (by decide) (by rintro (h | h); omega; exact hnot _ (by omega) h) hR5, hk6.2 _ _ _ (by decide) (by rintro (h | h); omega; exact hnot _ (by omega) h) hN5, hsz, hone, hdone⟩
  clear C0 b0 hR0 hX0 hN0 hz0 hE h8 hTake
  subst hwa
  generalize hrr : rdRun (E.take 54) dsH zH = rr at *
  clear hrr hmm hn
  obtain ⟨rb, rk, ra⟩ := rr
  have HC := Lib.hid C
  clear C
  unfold zH at HC
  have hm2 : (m = 54 ∧ 54 < n) ∨ (m = n ∧ n ≤ 54) := by omega
  have d30 : decide ((30 : Int) = 0) = false := by decide
  cases rb with
  | false =>
    rcases hm2 with ⟨rfl, hlt⟩ | ⟨rfl, hlt⟩
    · clear hm1
      go_enter Try.func28, Try.ntmps28
      go_wp2_with (first | (go_at_call 49; ((with_reducible refine (HC.out).mono ?_); rintro e w3 ⟨p, rfl, C4⟩)) | (go_at_call 50; ((with_reducible refine C4.mono ?_); rintro e w4 ⟨r, rfl, C5⟩)) | (go_at_call 25; ((with_reducible refine C5.mono ?_); rintro e w5 ⟨row, cc, rfl, C6⟩)) | (go_at_call 42; ((with_reducible refine C6.mono ?_); rintro e w6 ⟨_, _, _, hq, rfl, b6, hX6, hR6, hN6, HZ, HO, C7⟩; cases hq; (try rw [if_pos hk] at C7); (try rw [if_neg hk] at C7); have HIr : (Try.prog.info? 25).map (·.size) = some ra.size := HZ ▸ sizH; have HZr : (zH : Array Value).size = ra.size := HZ.symm; have HIz : (Try.prog.info? 25).map (·.size) = some (zH : Array Value).size := sizH)) | (go_at_call 51; ((with_reducible refine C7.mono ?_); rintro e w' ⟨rfl, rfl⟩)) | (refine wpList_load_row rfl 25 (.tmp 10) (by with_reducible rfl) (w.heap.size + 1) (by rfl) 25 ra (0, 0) _ hX6 Try.underlying25 rfl HIr ?_) | (refine wpList_load_row rfl 25 (.tmp 11) (by with_reducible rfl) (w.heap.size + 2) (by rfl) 25 zH (0, 0) _ hN6 Try.underlying25 rfl HIz ?_) | (refine wpList_store_row rfl 25 (.tmp 8) (.tmp 33) (by with_reducible rfl) w.heap.size ra (by rfl) (by rfl) 25 zH hR6 HIr HZr HO ?_) | (refine wpList_store_row rfl 25 (.tmp 8) (.tmp 31) (by with_reducible rfl) w.heap.size zH (by rfl) (by rfl) 25 zH hR6 HIz rfl oneH ?_))
      refine bodyPost_ret (v := .tuple #[.agg zH, .int .i64 err]) ?_ rfl ?_
      · rw [results_cell_tmp rfl]
        simp [asAddr, Result.andThen, run_loadVar_row _ w.heap.size 25 25 zH (0, 0) _ (hR6.row zH) Try.underlying25 rfl HIz]
      exact ⟨rfl, below_setRow b6 (Nat.le_refl _) _⟩
    · clear hm1
      go_enter Try.func28, Try.ntmps28
      go_wp2_with (first | (go_at_call 49; ((with_reducible refine (HC.out).mono ?_); rintro e w3 ⟨p, rfl, C4⟩)) | (go_at_call 50; ((with_reducible refine C4.mono ?_); rintro e w4 ⟨r, rfl, C5⟩)) | (go_at_call 25; ((with_reducible refine C5.mono ?_); rintro e w5 ⟨row, cc, rfl, C6⟩)) | (go_at_call 42; ((with_reducible refine C6.mono ?_); rintro e w6 ⟨_, _, _, hq, rfl, b6, hX6, hR6, hN6, HZ, HO, C7⟩; cases hq; (try rw [if_pos hk] at C7); (try rw [if_neg hk] at C7); have HIr : (Try.prog.info? 25).map (·.size) = some ra.size := HZ ▸ sizH; have HZr : (zH : Array Value).size = ra.size := HZ.symm; have HIz : (Try.prog.info? 25).map (·.size) = some (zH : Array Value).size := sizH)) | (go_at_call 51; ((with_reducible refine C7.mono ?_); rintro e w' ⟨rfl, rfl⟩)) | (refine wpList_load_row rfl 25 (.tmp 10) (by with_reducible rfl) (w.heap.size + 1) (by rfl) 25 ra (0, 0) _ hX6 Try.underlying25 rfl HIr ?_) | (refine wpList_load_row rfl 25 (.tmp 11) (by with_reducible rfl) (w.heap.size + 2) (by rfl) 25 zH (0, 0) _ hN6 Try.underlying25 rfl HIz ?_) | (refine wpList_store_row rfl 25 (.tmp 8) (.tmp 33) (by with_reducible rfl) w.heap.size ra (by rfl) (by rfl) 25 zH hR6 HIr HZr HO ?_) | (refine wpList_store_row rfl 25 (.tmp 8) (.tmp 31) (by with_reducible rfl) w.heap.size zH (by rfl) (by rfl) 25 zH hR6 HIz rfl oneH ?_))
      refine bodyPost_ret (v := .tuple #[.agg zH, .int .i64 err]) ?_ rfl ?_
      · rw [results_cell_tmp rfl]
        simp [asAddr, Result.andThen, run_loadVar_row _ w.heap.size 25 25 zH (0, 0) _ (hR6.row zH) Try.underlying25 rfl HIz]
      exact ⟨rfl, below_setRow b6 (Nat.le_refl _) _⟩
  | true =>
    by_cases hk : rk ≤ m
    · rcases hm2 with ⟨rfl, hlt⟩ | ⟨rfl, hlt⟩
      · clear hm1
        go_enter Try.func28, Try.ntmps28
        go_wp2_with (first | (go_at_call 49; ((with_reducible refine (HC.out).mono ?_); rintro e w3 ⟨p, rfl, C4⟩)) | (go_at_call 50; ((with_reducible refine C4.mono ?_); rintro e w4 ⟨r, rfl, C5⟩)) | (go_at_call 25; ((with_reducible refine C5.mono ?_); rintro e w5 ⟨row, cc, rfl, C6⟩)) | (go_at_call 42; ((with_reducible refine C6.mono ?_); rintro e w6 ⟨_, _, _, hq, rfl, b6, hX6, hR6, hN6, HZ, HO, C7⟩; cases hq; (try rw [if_pos hk] at C7); (try rw [if_neg hk] at C7); have HIr : (Try.prog.info? 25).map (·.size) = some ra.size := HZ ▸ sizH; have HZr : (zH : Array Value).size = ra.size := HZ.symm; have HIz : (Try.prog.info? 25).map (·.size) = some (zH : Array Value).size := sizH)) | (go_at_call 51; ((with_reducible refine C7.mono ?_); rintro e w' ⟨rfl, rfl⟩)) | (refine wpList_load_row rfl 25 (.tmp 10) (by with_reducible rfl) (w.heap.size + 1) (by rfl) 25 ra (0, 0) _ hX6 Try.underlying25 rfl HIr ?_) | (refine wpList_load_row rfl 25 (.tmp 11) (by with_reducible rfl) (w.heap.size + 2) (by rfl) 25 zH (0, 0) _ hN6 Try.underlying25 rfl HIz ?_) | (refine wpList_store_row rfl 25 (.tmp 8) (.tmp 33) (by with_reducible rfl) w.heap.size ra (by rfl) (by rfl) 25 zH hR6 HIr HZr HO ?_) | (refine wpList_store_row rfl 25 (.tmp 8) (.tmp 31) (by with_reducible rfl) w.heap.size zH (by rfl) (by rfl) 25 zH hR6 HIz rfl oneH ?_))
        refine bodyPost_ret (v := .tuple #[.agg ra, .int .i64 0]) ?_ rfl ?_
        · rw [results_cell_tmp rfl]
          simp [asAddr, Result.andThen, run_loadVar_row _ w.heap.size 25 25 ra (0, 0) _ (hR6.row ra) Try.underlying25 rfl HIr]
        exact ⟨by rw [show (decide (rk ≤ _)) = true from decide_eq_true hk]; rfl, below_setRow b6 (Nat.le_refl _) _⟩
      · clear hm1
        go_enter Try.func28, Try.ntmps28
        go_wp2_with (first | (go_at_call 49; ((with_reducible refine (HC.out).mono ?_); rintro e w3 ⟨p, rfl, C4⟩)) | (go_at_call 50; ((with_reducible refine C4.mono ?_); rintro e w4 ⟨r, rfl, C5⟩)) | (go_at_call 25; ((with_reducible refine C5.mono ?_); rintro e w5 ⟨row, cc, rfl, C6⟩)) | (go_at_call 42; ((with_reducible refine C6.mono ?_); rintro e w6 ⟨_, _, _, hq, rfl, b6, hX6, hR6, hN6, HZ, HO, C7⟩; cases hq; (try rw [if_pos hk] at C7); (try rw [if_neg hk] at C7); have HIr : (Try.prog.info? 25).map (·.size) = some ra.size := HZ ▸ sizH; have HZr : (zH : Array Value).size = ra.size := HZ.symm; have HIz : (Try.prog.info? 25).map (·.size) = some (zH : Array Value).size := sizH)) | (go_at_call 51; ((with_reducible refine C7.mono ?_); rintro e w' ⟨rfl, rfl⟩)) | (refine wpList_load_row rfl 25 (.tmp 10) (by with_reducible rfl) (w.heap.size + 1) (by rfl) 25 ra (0, 0) _ hX6 Try.underlying25 rfl HIr ?_) | (refine wpList_load_row rfl 25 (.tmp 11) (by with_reducible rfl) (w.heap.size + 2) (by rfl) 25 zH (0, 0) _ hN6 Try.underlying25 rfl HIz ?_) | (refine wpList_store_row rfl 25 (.tmp 8) (.tmp 33) (by with_reducible rfl) w.heap.size ra (by rfl) (by rfl) 25 zH hR6 HIr HZr HO ?_) | (refine wpList_store_row rfl 25 (.tmp 8) (.tmp 31) (by with_reducible rfl) w.heap.size zH (by rfl) (by rfl) 25 zH hR6 HIz rfl oneH ?_))
        refine bodyPost_ret (v := .tuple #[.agg ra, .int .i64 0]) ?_ rfl ?_
        · rw [results_cell_tmp rfl]
          simp [asAddr, Result.andThen, run_loadVar_row _ w.heap.size 25 25 ra (0, 0) _ (hR6.row ra) Try.underlying25 rfl HIr]
        exact ⟨by rw [show (decide (rk ≤ _)) = true from decide_eq_true hk]; rfl, below_setRow b6 (Nat.le_refl _) _⟩
    · rcases hm2 with ⟨rfl, hlt⟩ | ⟨rfl, hlt⟩
      · clear hm1
        go_enter Try.func28, Try.ntmps28
        go_wp2_with (first | (go_at_call 49; ((with_reducible refine (HC.out).mono ?_); rintro e w3 ⟨p, rfl, C4⟩)) | (go_at_call 50; ((with_reducible refine C4.mono ?_); rintro e w4 ⟨r, rfl, C5⟩)) | (go_at_call 25; ((with_reducible refine C5.mono ?_); rintro e w5 ⟨row, cc, rfl, C6⟩)) | (go_at_call 42; ((with_reducible refine C6.mono ?_); rintro e w6 ⟨_, _, _, hq, rfl, b6, hX6, hR6, hN6, HZ, HO, C7⟩; cases hq; (try rw [if_pos hk] at C7); (try rw [if_neg hk] at C7); have HIr : (Try.prog.info? 25).map (·.size) = some ra.size := HZ ▸ sizH; have HZr : (zH : Array Value).size = ra.size := HZ.symm; have HIz : (Try.prog.info? 25).map (·.size) = some (zH : Array Value).size := sizH)) | (go_at_call 51; ((with_reducible refine C7.mono ?_); rintro e w' ⟨rfl, rfl⟩)) | (refine wpList_load_row rfl 25 (.tmp 10) (by with_reducible rfl) (w.heap.size + 1) (by rfl) 25 ra (0, 0) _ hX6 Try.underlying25 rfl HIr ?_) | (refine wpList_load_row rfl 25 (.tmp 11) (by with_reducible rfl) (w.heap.size + 2) (by rfl) 25 zH (0, 0) _ hN6 Try.underlying25 rfl HIz ?_) | (refine wpList_store_row rfl 25 (.tmp 8) (.tmp 33) (by with_reducible rfl) w.heap.size ra (by rfl) (by rfl) 25 zH hR6 HIr HZr HO ?_) | (refine wpList_store_row rfl 25 (.tmp 8) (.tmp 31) (by with_reducible rfl) w.heap.size zH (by rfl) (by rfl) 25 zH hR6 HIz rfl oneH ?_))
        refine bodyPost_ret (v := .tuple #[.agg zH, .int .i64 err]) ?_ rfl ?_
        · rw [results_cell_tmp rfl]
          simp [asAddr, Result.andThen, run_loadVar_row _ w.heap.size 25 25 zH (0, 0) _ (hR6.row zH) Try.underlying25 rfl HIz]
        exact ⟨by rw [show (decide (rk ≤ _)) = false from decide_eq_false hk]; rfl, below_setRow b6 (Nat.le_refl _) _⟩
      · clear hm1
        go_enter Try.func28, Try.ntmps28
        go_wp2_with (first | (go_at_call 49; ((with_reducible refine (HC.out).mono ?_); rintro e w3 ⟨p, rfl, C4⟩)) | (go_at_call 50; ((with_reducible refine C4.mono ?_); rintro e w4 ⟨r, rfl, C5⟩)) | (go_at_call 25; ((with_reducible refine C5.mono ?_); rintro e w5 ⟨row, cc, rfl, C6⟩)) | (go_at_call 42; ((with_reducible refine C6.mono ?_); rintro e w6 ⟨_, _, _, hq, rfl, b6, hX6, hR6, hN6, HZ, HO, C7⟩; cases hq; (try rw [if_pos hk] at C7); (try rw [if_neg hk] at C7); have HIr : (Try.prog.info? 25).map (·.size) = some ra.size := HZ ▸ sizH; have HZr : (zH : Array Value).size = ra.size := HZ.symm; have HIz : (Try.prog.info? 25).map (·.size) = some (zH : Array Value).size := sizH)) | (go_at_call 51; ((with_reducible refine C7.mono ?_); rintro e w' ⟨rfl, rfl⟩)) | (refine wpList_load_row rfl 25 (.tmp 10) (by with_reducible rfl) (w.heap.size + 1) (by rfl) 25 ra (0, 0) _ hX6 Try.underlying25 rfl HIr ?_) | (refine wpList_load_row rfl 25 (.tmp 11) (by with_reducible rfl) (w.heap.size + 2) (by rfl) 25 zH (0, 0) _ hN6 Try.underlying25 rfl HIz ?_) | (refine wpList_store_row rfl 25 (.tmp 8) (.tmp 33) (by with_reducible rfl) w.heap.size ra (by rfl) (by rfl) 25 zH hR6 HIr HZr HO ?_) | (refine wpList_store_row rfl 25 (.tmp 8) (.tmp 31) (by with_reducible rfl) w.heap.size zH (by rfl) (by rfl) 25 zH hR6 HIz rfl oneH ?_))
        refine bodyPost_ret (v := .tuple #[.agg zH, .int .i64 err]) ?_ rfl ?_
        · rw [results_cell_tmp rfl]
          simp [asAddr, Result.andThen, run_loadVar_row _ w.heap.size 25 25 zH (0, 0) _ (hR6.row zH) Try.underlying25 rfl HIz]
        exact ⟨by rw [show (decide (rk ≤ _)) = false from decide_eq_false hk]; rfl, below_setRow b6 (Nat.le_refl _) _⟩

set_option maxRecDepth 100000 in
set_option maxHeartbeats 2000000 in
theorem hHead_any (A : Option Addr) (c : Nat) (E : List Value) (w : World) (hE : Lists w w.heap.size A E) (h8 : Bytes8 E) (hc : E.length ≤ c) (hc2 : c ≤ 9223372036854775807) (hm : E.length ≤ 140737488355328) :
    Calls Try.prog 11 #[.slice A E.length c] w (GotR w mkH zH 50 (rdRun (E.take 54) dsH zH) (E.take 54).length) := by
  have C := readH_any A c E (w.alloc (.cells zH 25)) ((hE.alloc (Nat.le_refl _) _).more (by simp)) h8 hc hc2 hm 50
  have h0 : Blk (w.alloc (.cells zH 25)) w.heap.size 25 zH := Blk.at rfl
  have HS : (rdRun (E.take 54) dsH zH).2.2.size = 9 := runAll_size _ _ dsH 0 zH
  have HO : (rdRun (E.take 54) dsH zH).2.2.all (·.oneCell') = true := runAll_one _ _ dsH 0 zH oneH
  clear hE h8 hc hm
  generalize (E.take 54).length = m at *
  generalize rdRun (E.take 54) dsH zH = rr at *
  obtain ⟨rb, rk, ra⟩ := rr
  unfold GotR at C ⊢
  simp only [] at C HS HO ⊢
  generalize E.length = n at *
  generalize (rb && decide (rk ≤ m)) = ok at *
  cases ok with
  | false =>
    simp only [Bool.false_eq_true, if_false] at C ⊢
    unfold mkH at C ⊢
    unfold zH at C
    clear HO
    have HO := oneH
    have HI : (Try.prog.info? 25).map (·.size) = some (zH : Array Value).size := sizH
    go_enter Try.func11, Try.ntmps11
    go_wp2_with (first | (go_at_call 28; ((with_reducible refine C.mono ?_); rintro e w1 ⟨rfl, b1⟩; have hR1 := h0.below b1)) | (refine wpList_store_row rfl 25 (.tmp 2) (.tmp 6) (by with_reducible rfl) w.heap.size zH (by rfl) (by rfl) 25 zH hR1 HI rfl HO ?_))
    refine bodyPost_ret (v := .tuple #[.agg zH, .int .i64 50]) ?_ rfl ?_
    · rw [results_cell_tmp rfl]
      simp [asAddr, Result.andThen, run_loadVar_row _ w.heap.size 25 25 zH (0, 0) _ (hR1.row zH) Try.underlying25 rfl HI]
    · exact ⟨rfl, below_setRow (((Below.refl _ _).alloc (Nat.le_refl _) _).trans (b1.mono (by simp))) (Nat.le_refl _) _⟩
  | true =>
    simp only [if_true] at C ⊢
    unfold mkH at C ⊢
    unfold zH at C
    have HI : (Try.prog.info? 25).map (·.size) = some ra.size := HS ▸ sizH
    have HZ : (zH : Array Value).size = ra.size := HS.symm
    go_enter Try.func11, Try.ntmps11
    go_wp2_with (first | (go_at_call 28; ((with_reducible refine C.mono ?_); rintro e w1 ⟨rfl, b1⟩; have hR1 := h0.below b1)) | (refine wpList_store_row rfl 25 (.tmp 2) (.tmp 6) (by with_reducible rfl) w.heap.size ra (by rfl) (by rfl) 25 zH hR1 HI HZ HO ?_))
    refine bodyPost_ret (v := .tuple #[.agg ra, .int .i64 0]) ?_ rfl ?_
    · rw [results_cell_tmp rfl]
      simp [asAddr, Result.andThen, run_loadVar_row _ w.heap.size 25 25 ra (0, 0) _ (hR1.row ra) Try.underlying25 rfl HI]
    · exact ⟨rfl, below_setRow (((Below.refl _ _).alloc (Nat.le_refl _) _).trans (b1.mono (by simp))) (Nat.le_refl _) _⟩

end Go.Proofs.Ytbomgaacahaofaa

namespace Go.Proofs.Ytbomgaacahaofaa
open Go Go.RowKit

theorem sizG : (Try.prog.info? 40).map (·.size) = some 2 := by kernel_rfl
theorem oneG : (zG : Array Value).all (·.oneCell') = true := by kernel_rfl

set_option maxRecDepth 100000 in
set_option maxHeartbeats 16000000 in
theorem readG_any (A : Option Addr) (c : Nat) (E : List Value) (w : World) (hE : Lists w w.heap.size A E) (h8 : Bytes8 E) (hc : E.length ≤ c) (hc2 : c ≤ 9223372036854775807) (hm : E.length ≤ 140737488355328) (err : Int) :
    Calls Try.prog 36 #[.slice A E.length c, .int .i64 32, .int .i64 err, .func (.func 35) #[] #[]] w (GotR w mkG zG err (rdRun (E.take 32) dsG zG) (E.take 32).length) := by
  obtain ⟨n, hn⟩ : ∃ n, n = E.length := ⟨_, rfl⟩
  obtain ⟨m, hmm⟩ : ∃ m, m = (E.take 32).length := ⟨_, rfl⟩
  have hm1 : m = min n 32 := by rw [hmm, List.length_take, hn]; omega
  rw [← hn] at hc hm ⊢
  rw [← hmm]
  have b0 : Below w.heap.size w (((w.alloc (.cells zG 40)).alloc (.cells zG 40)).alloc (.cells zG 40)) := below_al (below_al (below_al (Below.refl _ _) _) _) _
  have hR0 : Blk (((w.alloc (.cells zG 40)).alloc (.cells zG 40)).alloc (.cells zG 40)) w.heap.size 40 zG := ((Blk.at rfl).al _).al _
  have hX0 : Blk (((w.alloc (.cells zG 40)).alloc (.cells zG 40)).alloc (.cells zG 40)) (w.heap.size + 1) 40 zG := (Blk.at (by simp)).al _
  have hN0 : Blk (((w.alloc (.cells zG 40)).alloc (.cells zG 40)).alloc (.cells zG 40)) (w.heap.size + 2) 40 zG := Blk.at (by simp)
  have hz0 : (((w.alloc (.cells zG 40)).alloc (.cells zG 40)).alloc (.cells zG 40)).heap.size = w.heap.size + 3 := by simp
  obtain ⟨wa, hwa⟩ : ∃ wa, wa = ((w.alloc (.cells zG 40)).alloc (.cells zG 40)).alloc (.cells zG 40) := ⟨_, rfl⟩
  rw [← hwa] at b0 hR0 hX0 hN0 hz0
  have hTake : Lists wa wa.heap.size A (E.take 32) := by
    have h1 := lists_part hE 0 32
    rw [List.drop_zero] at h1
    have e : A.map (·.add 0) = A := by cases A <;> simp [Addr.add]
    rw [e] at h1
    exact (h1.below b0).more b0.size
  have C0 : Calls Try.prog 49 #[.slice A m c] wa (MadeRd wa (E.take 32)) := new_any A m c (E.take 32) wa hTake hmm.symm (fun u hu => h8 u (List.mem_of_mem_take hu)) (by omega)
  have C := C0.mono (R' := fun e w3 => ∃ p, e = .returned (.pointer (some ⟨p, 0, none⟩)) ∧ Calls Try.prog 50 #[.pointer (some ⟨p, 0, none⟩)] w3 fun e w4 => ∃ r, e = .returned (.func (.func 63) #[] #[.pointer (some ⟨r, 0, none⟩)]) ∧ Calls Try.prog 35 #[.pointer (some ⟨w.heap.size + 1, 0, none⟩)] w4 fun e w5 =>
      ∃ row cc : Nat, e = .returned (.slice (some ⟨row, 0, none⟩) dsG.length cc) ∧ Calls Try.prog 42 #[.func (.func 63) #[] #[.pointer (some ⟨r, 0, none⟩)], .slice (some ⟨row, 0, none⟩) dsG.length cc] w5 fun e w6 =>
        ∃ rb rk ra, rdRun (E.take 32) dsG zG = (rb, rk, ra) ∧ e = .returned (.bool rb) ∧ Below w.heap.size w w6 ∧ Blk w6 (w.heap.size + 1) 40 ra ∧ Blk w6 w.heap.size 40 zG ∧ Blk w6 (w.heap.size + 2) 40 zG ∧ ra.size = 2 ∧ ra.all (·.oneCell') = true ∧
          Calls Try.prog 51 #[.pointer (some ⟨p, 0, none⟩)] w6 fun e w7 => e = .returned (.int .i64 (if rk ≤ m then 0 else 30)) ∧ w6 = w7) ?_
  rotate_left
  · rintro e w3 ⟨p, rfl, hrd, b3, hp3⟩
    refine ⟨p, rfl, (from_new p w3).mono ?_⟩
    rintro e w4 ⟨rfl, hw4⟩
    have b4 : Below w3.heap.size w3 w4 := by rw [hw4]; exact below_al (Below.refl _ _) _
    have hr4 : Blk w4 w3.heap.size 99 #[.pointer (some ⟨p, 0, none⟩)] := by rw [hw4]; exact Blk.at rfl
    refine ⟨w3.heap.size, rfl, (glyphsFields_any (w.heap.size + 1) w4).mono ?_⟩
    rintro e w5 ⟨vs, fp, own, row, cc, rfl, hvl, hrow, hF, hlow, hown, hsep, hro, b5⟩
    have hvl2 : vs.length = dsG.length := hvl
    rw [hvl2]
    refine ⟨row, cc, rfl, ?_⟩
    have z3 := b3.size
    have z4 := b4.size
    have z5 := b5.size
    have b35 : Below w3.heap.size w3 w5 := b4.trans (b5.mono z4)
    have b05 : Below w.heap.size w w5 := b0.trans ((b3.trans (b35.mono z3)).mono b0.size)
    have hX5 := ((hX0.below b3).below b4).below b5
    have hR5 := ((hR0.below b3).below b4).below b5
    have hN5 := ((hN0.below b3).below b4).below b5
    have Kc := from_carr2 w (fun b => wa.heap.size ≤ b ∧ b < w3.heap.size) w3.heap.size p (E.take 32) (by omega) 1000 (by omega)
    have hI : IFrom2 w (fun b => wa.heap.size ≤ b ∧ b < w3.heap.size) w3.heap.size p (E.take 32) 0 w5 :=
      ⟨⟨.inl ⟨Nat.zero_le _, (hrd.below b4).below b5⟩, hr4.below b5, (rd_blk ((hrd.below b4).below b5)), fun b hb => by omega⟩, b05⟩
    have hC := carryAll_any Kc [0] [1] (by decide) (w.heap.size + 1) 40 ⟨⟨by omega, by omega⟩, by omega⟩ (by decide) (by decide) vs dsG fp own row cc zG 0 w5 hvl2 (by rw [hvl2]; decide) hrow
      (by unfold dsG; simp [fdOk]) hF (fun j hj => by have := (hlow j _ hj).1; omega) (fun j b hb => ⟨⟨by have := (hlow j b (hown j b hb)).1; omega, by have := (hlow j b (hown j b hb)).1; rw [hw4, al_size] at this; omega⟩, by have := (hlow j b (hown j b hb)).1; omega⟩)
      hsep hro hI hX5 ⟨by intro o ho; simp at ho; first | (rcases ho with rfl <;> exact ⟨_, rfl⟩) | (subst ho; exact ⟨_, rfl⟩), by intro o ho; simp at ho; try (subst ho; exact ⟨_, rfl⟩)⟩ (by decide)
    rw [hvl2] at hC
    refine hC.mono ?_
    rintro e w6 ⟨rfl, ⟨⟨hrs, _⟩, b6⟩, hX6, hk6⟩
    have hsz : (rdRun (E.take 32) dsG zG).2.2.size = 2 := runAll_size _ _ dsG 0 zG
    have hone : (rdRun (E.take 32) dsG zG).2.2.all (·.oneCell') = true := runAll_one _ _ dsG 0 zG oneG
    have hdone := rs_done _ _ _ _ hrs
    rw [← hmm] at hdone
    have hnot : ∀ b, b < wa.heap.size → ¬ ∃ i, b ∈ own i := fun b hb ⟨i, hi⟩ => by have := (hlow i b (hown i b hi)).1; omega
    exact ⟨_, _, _, rfl, rfl, b6, hX6, hk6.2 _ _ _ (by decide) (by rintro (h | h); omega; exact hnot _ (by omega) h) hR5, hk6.2 _ _ _ (by decide) (by rintro (h | h); omega; exact hnot _ (by omega) h) hN5, hsz, hone, hdone⟩
  clear C0 b0 hR0 hX0 hN0 hz0 hE h8 hTake
  subst hwa
  generalize hrr : rdRun (E.take 32) dsG zG = rr at *
  clear hrr hmm hn
  obtain ⟨rb, rk, ra⟩ := rr
  have HC := Lib.hid C
  clear C
  unfold zG at HC
  have hm2 : (m = 32 ∧ 32 < n) ∨ (m = n ∧ n ≤ 32) := by omega
  have d30 : decide ((30 : Int) = 0) = false := by decide
  cases rb with
  | false =>
    rcases hm2 with ⟨rfl, hlt⟩ | ⟨rfl, hlt⟩
    · clear hm1
      go_enter Try.func36, Try.ntmps36
      go_wp2_with (first | (go_at_call 49; ((with_reducible refine (HC.out).mono ?_); rintro e w3 ⟨p, rfl, C4⟩)) | (go_at_call 50; ((with_reducible refine C4.mono ?_); rintro e w4 ⟨r, rfl, C5⟩)) | (go_at_call 35; ((with_reducible refine C5.mono ?_); rintro e w5 ⟨row, cc, rfl, C6⟩)) | (go_at_call 42; ((with_reducible refine C6.mono ?_); rintro e w6 ⟨_, _, _, hq, rfl, b6, hX6, hR6, hN6, HZ, HO, C7⟩; cases hq; (try rw [if_pos hk] at C7); (try rw [if_neg hk] at C7); have HIr : (Try.prog.info? 40).map (·.size) = some ra.size := HZ ▸ sizG; have HZr : (zG : Array Value).size = ra.size := HZ.symm; have HIz : (Try.prog.info? 40).map (·.size) = some (zG : Array Value).size := sizG)) | (go_at_call 51; ((with_reducible refine C7.mono ?_); rintro e w' ⟨rfl, rfl⟩)) | (refine wpList_load_row rfl 40 (.tmp 10) (by with_reducible rfl) (w.heap.size + 1) (by rfl) 40 ra (0, 0) _ hX6 Try.underlying40 rfl HIr ?_) | (refine wpList_load_row rfl 40 (.tmp 11) (by with_reducible rfl) (w.heap.size + 2) (by rfl) 40 zG (0, 0) _ hN6 Try.underlying40 rfl HIz ?_) | (refine wpList_store_row rfl 40 (.tmp 8) (.tmp 33) (by with_reducible rfl) w.heap.size ra (by rfl) (by rfl) 40 zG hR6 HIr HZr HO ?_) | (refine wpList_store_row rfl 40 (.tmp 8) (.tmp 31) (by with_reducible rfl) w.heap.size zG (by rfl) (by rfl) 40 zG hR6 HIz rfl oneG ?_))
      refine bodyPost_ret (v := .tuple #[.agg zG, .int .i64 err]) ?_ rfl ?_
      · rw [results_cell_tmp rfl]
        simp [asAddr, Result.andThen, run_loadVar_row _ w.heap.size 40 40 zG (0, 0) _ (hR6.row zG) Try.underlying40 rfl HIz]
      exact ⟨rfl, below_setRow b6 (Nat.le_refl _) _⟩
    · clear hm1
      go_enter Try.func36, Try.ntmps36
      go_wp2_with (first | (go_at_call 49; ((with_reducible refine (HC.out).mono ?_); rintro e w3 ⟨p, rfl, C4⟩)) | (go_at_call 50; ((with_reducible refine C4.mono ?_); rintro e w4 ⟨r, rfl, C5⟩)) | (go_at_call 35; ((with_reducible refine C5.mono ?_); rintro e w5 ⟨row, cc, rfl, C6⟩)) | (go_at_call 42; ((with_reducible refine C6.mono ?_); rintro e w6 ⟨_, _, _, hq, rfl, b6, hX6, hR6, hN6, HZ, HO, C7⟩; cases hq; (try rw [if_pos hk] at C7); (try rw [if_neg hk] at C7); have HIr : (Try.prog.info? 40).map (·.size) = some ra.size := HZ ▸ sizG; have HZr : (zG : Array Value).size = ra.size := HZ.symm; have HIz : (Try.prog.info? 40).map (·.size) = some (zG : Array Value).size := sizG)) | (go_at_call 51; ((with_reducible refine C7.mono ?_); rintro e w' ⟨rfl, rfl⟩)) | (refine wpList_load_row rfl 40 (.tmp 10) (by with_reducible rfl) (w.heap.size + 1) (by rfl) 40 ra (0, 0) _ hX6 Try.underlying40 rfl HIr ?_) | (refine wpList_load_row rfl 40 (.tmp 11) (by with_reducible rfl) (w.heap.size + 2) (by rfl) 40 zG (0, 0) _ hN6 Try.underlying40 rfl HIz ?_) | (refine wpList_store_row rfl 40 (.tmp 8) (.tmp 33) (by with_reducible rfl) w.heap.size ra (by rfl) (by rfl) 40 zG hR6 HIr HZr HO ?_) | (refine wpList_store_row rfl 40 (.tmp 8) (.tmp 31) (by with_reducible rfl) w.heap.size zG (by rfl) (by rfl) 40 zG hR6 HIz rfl oneG ?_))
      refine bodyPost_ret (v := .tuple #[.agg zG, .int .i64 err]) ?_ rfl ?_
      · rw [results_cell_tmp rfl]
        simp [asAddr, Result.andThen, run_loadVar_row _ w.heap.size 40 40 zG (0, 0) _ (hR6.row zG) Try.underlying40 rfl HIz]
      exact ⟨rfl, below_setRow b6 (Nat.le_refl _) _⟩
  | true =>
    by_cases hk : rk ≤ m
    · rcases hm2 with ⟨rfl, hlt⟩ | ⟨rfl, hlt⟩
      · clear hm1
        go_enter Try.func36, Try.ntmps36
        go_wp2_with (first | (go_at_call 49; ((with_reducible refine (HC.out).mono ?_); rintro e w3 ⟨p, rfl, C4⟩)) | (go_at_call 50; ((with_reducible refine C4.mono ?_); rintro e w4 ⟨r, rfl, C5⟩)) | (go_at_call 35; ((with_reducible refine C5.mono ?_); rintro e w5 ⟨row, cc, rfl, C6⟩)) | (go_at_call 42; ((with_reducible refine C6.mono ?_); rintro e w6 ⟨_, _, _, hq, rfl, b6, hX6, hR6, hN6, HZ, HO, C7⟩; cases hq; (try rw [if_pos hk] at C7); (try rw [if_neg hk] at C7); have HIr : (Try.prog.info? 40).map (·.size) = some ra.size := HZ ▸ sizG; have HZr : (zG : Array Value).size = ra.size := HZ.symm; have HIz : (Try.prog.info? 40).map (·.size) = some (zG : Array Value).size := sizG)) | (go_at_call 51; ((with_reducible refine C7.mono ?_); rintro e w' ⟨rfl, rfl⟩)) | (refine wpList_load_row rfl 40 (.tmp 10) (by with_reducible rfl) (w.heap.size + 1) (by rfl) 40 ra (0, 0) _ hX6 Try.underlying40 rfl HIr ?_) | (refine wpList_load_row rfl 40 (.tmp 11) (by with_reducible rfl) (w.heap.size + 2) (by rfl) 40 zG (0, 0) _ hN6 Try.underlying40 rfl HIz ?_) | (refine wpList_store_row rfl 40 (.tmp 8) (.tmp 33) (by with_reducible rfl) w.heap.size ra (by rfl) (by rfl) 40 zG hR6 HIr HZr HO ?_) | (refine wpList_store_row rfl 40 (.tmp 8) (.tmp 31) (by with_reducible rfl) w.heap.size zG (by rfl) (by rfl) 40 zG hR6 HIz rfl oneG ?_))
        refine bodyPost_ret (v := .tuple #[.agg ra, .int .i64 0]) ?_ rfl ?_
        · rw [results_cell_tmp rfl]
          simp [asAddr, Result.andThen, run_loadVar_row _ w.heap.size 40 40 ra (0, 0) _ (hR6.row ra) Try.underlying40 rfl HIr]
        exact ⟨by rw [show (decide (rk ≤ _)) = true from decide_eq_true hk]; rfl, below_setRow b6 (Nat.le_refl _) _⟩
      · clear hm1
        go_enter Try.func36, Try.ntmps36
        go_wp2_with (first | (go_at_call 49; ((with_reducible refine (HC.out).mono ?_); rintro e w3 ⟨p, rfl, C4⟩)) | (go_at_call 50; ((with_reducible refine C4.mono ?_); rintro e w4 ⟨r, rfl, C5⟩)) | (go_at_call 35; ((with_reducible refine C5.mono ?_); rintro e w5 ⟨row, cc, rfl, C6⟩)) | (go_at_call 42; ((with_reducible refine C6.mono ?_); rintro e w6 ⟨_, _, _, hq, rfl, b6, hX6, hR6, hN6, HZ, HO, C7⟩; cases hq; (try rw [if_pos hk] at C7); (try rw [if_neg hk] at C7); have HIr : (Try.prog.info? 40).map (·.size) = some ra.size := HZ ▸ sizG; have HZr : (zG : Array Value).size = ra.size := HZ.symm; have HIz : (Try.prog.info? 40).map (·.size) = some (zG : Array Value).size := sizG)) | (go_at_call 51; ((with_reducible refine C7.mono ?_); rintro e w' ⟨rfl, rfl⟩)) | (refine wpList_load_row rfl 40 (.tmp 10) (by with_reducible rfl) (w.heap.size + 1) (by rfl) 40 ra (0, 0) _ hX6 Try.underlying40 rfl HIr ?_) | (refine wpList_load_row rfl 40 (.tmp 11) (by with_reducible rfl) (w.heap.size + 2) (by rfl) 40 zG (0, 0) _ hN6 Try.underlying40 rfl HIz ?_) | (refine wpList_store_row rfl 40 (.tmp 8) (.tmp 33) (by with_reducible rfl) w.heap.size ra (by rfl) (by rfl) 40 zG hR6 HIr HZr HO ?_) | (refine wpList_store_row rfl 40 (.tmp 8) (.tmp 31) (by with_reducible rfl) w.heap.size zG (by rfl) (by rfl) 40 zG hR6 HIz rfl oneG ?_))
        refine bodyPost_ret (v := .tuple #[.agg ra, .int .i64 0]) ?_ rfl ?_
        · rw [results_cell_tmp rfl]
          simp [asAddr, Result.andThen, run_loadVar_row _ w.heap.size 40 40 ra (0, 0) _ (hR6.row ra) Try.underlying40 rfl HIr]
        exact ⟨by rw [show (decide (rk ≤ _)) = true from decide_eq_true hk]; rfl, below_setRow b6 (Nat.le_refl _) _⟩
    · rcases hm2 with ⟨rfl, hlt⟩ | ⟨rfl, hlt⟩
      · clear hm1
        go_enter Try.func36, Try.ntmps36
        go_wp2_with (first | (go_at_call 49; ((with_reducible refine (HC.out).mono ?_); rintro e w3 ⟨p, rfl, C4⟩)) | (go_at_call 50; ((with_reducible refine C4.mono ?_); rintro e w4 ⟨r, rfl, C5⟩)) | (go_at_call 35; ((with_reducible refine C5.mono ?_); rintro e w5 ⟨row, cc, rfl, C6⟩)) | (go_at_call 42; ((with_reducible refine C6.mono ?_); rintro e w6 ⟨_, _, _, hq, rfl, b6, hX6, hR6, hN6, HZ, HO, C7⟩; cases hq; (try rw [if_pos hk] at C7); (try rw [if_neg hk] at C7); have HIr : (Try.prog.info? 40).map (·.size) = some ra.size := HZ ▸ sizG; have HZr : (zG : Array Value).size = ra.size := HZ.symm; have HIz : (Try.prog.info? 40).map (·.size) = some (zG : Array Value).size := sizG)) | (go_at_call 51; ((with_reducible refine C7.mono ?_); rintro e w' ⟨rfl, rfl⟩)) | (refine wpList_load_row rfl 40 (.tmp 10) (by with_reducible rfl) (w.heap.size + 1) (by rfl) 40 ra (0, 0) _ hX6 Try.underlying40 rfl HIr ?_) | (refine wpList_load_row rfl 40 (.tmp 11) (by with_reducible rfl) (w.heap.size + 2) (by rfl) 40 zG (0, 0) _ hN6 Try.underlying40 rfl HIz ?_) | (refine wpList_store_row rfl 40 (.tmp 8) (.tmp 33) (by with_reducible rfl) w.heap.size ra (by rfl) (by rfl) 40 zG hR6 HIr HZr HO ?_) | (refine wpList_store_row rfl 40 (.tmp 8) (.tmp 31) (by with_reducible rfl) w.heap.size zG (by rfl) (by rfl) 40 zG hR6 HIz rfl oneG ?_))
        refine bodyPost_ret (v := .tuple #[.agg zG, .int .i64 err]) ?_ rfl ?_
        · rw [results_cell_tmp rfl]
          simp [asAddr, Result.andThen, run_loadVar_row _ w.heap.size 40 40 zG (0, 0) _ (hR6.row zG) Try.underlying40 rfl HIz]
        exact ⟨by rw [show (decide (rk ≤ _)) = false from decide_eq_false hk]; rfl, below_setRow b6 (Nat.le_refl _) _⟩
      · clear hm1
        go_enter Try.func36, Try.ntmps36
        go_wp2_with (first | (go_at_call 49; ((with_reducible refine (HC.out).mono ?_); rintro e w3 ⟨p, rfl, C4⟩)) | (go_at_call 50; ((with_reducible refine C4.mono ?_); rintro e w4 ⟨r, rfl, C5⟩)) | (go_at_call 35; ((with_reducible refine C5.mono ?_); rintro e w5 ⟨row, cc, rfl, C6⟩)) | (go_at_call 42; ((with_reducible refine C6.mono ?_); rintro e w6 ⟨_, _, _, hq, rfl, b6, hX6, hR6, hN6, HZ, HO, C7⟩; cases hq; (try rw [if_pos hk] at C7); (try rw [if_neg hk] at C7); have HIr : (Try.prog.info? 40).map (·.size) = some ra.size := HZ ▸ sizG; have HZr : (zG : Array Value).size = ra.size := HZ.symm; have HIz : (Try.prog.info? 40).map (·.size) = some (zG : Array Value).size := sizG)) | (go_at_call 51; ((with_reducible refine C7.mono ?_); rintro e w' ⟨rfl, rfl⟩)) | (refine wpList_load_row rfl 40 (.tmp 10) (by with_reducible rfl) (w.heap.size + 1) (by rfl) 40 ra (0, 0) _ hX6 Try.underlying40 rfl HIr ?_) | (refine wpList_load_row rfl 40 (.tmp 11) (by with_reducible rfl) (w.heap.size + 2) (by rfl) 40 zG (0, 0) _ hN6 Try.underlying40 rfl HIz ?_) | (refine wpList_store_row rfl 40 (.tmp 8) (.tmp 33) (by with_reducible rfl) w.heap.size ra (by rfl) (by rfl) 40 zG hR6 HIr HZr HO ?_) | (refine wpList_store_row rfl 40 (.tmp 8) (.tmp 31) (by with_reducible rfl) w.heap.size zG (by rfl) (by rfl) 40 zG hR6 HIz rfl oneG ?_))
        refine bodyPost_ret (v := .tuple #[.agg zG, .int .i64 err]) ?_ rfl ?_
        · rw [results_cell_tmp rfl]
          simp [asAddr, Result.andThen, run_loadVar_row _ w.heap.size 40 40 zG (0, 0) _ (hR6.row zG) Try.underlying40 rfl HIz]
        exact ⟨by rw [show (decide (rk ≤ _)) = false from decide_eq_false hk]; rfl, below_setRow b6 (Nat.le_refl _) _⟩

set_option maxRecDepth 100000 in
set_option maxHeartbeats 2000000 in
theorem hGlyphs_any (A : Option Addr) (c : Nat) (E : List Value) (w : World) (hE : Lists w w.heap.size A E) (h8 : Bytes8 E) (hc : E.length ≤ c) (hc2 : c ≤ 9223372036854775807) (hm : E.length ≤ 140737488355328) :
    Calls Try.prog 15 #[.slice A E.length c] w (GotR w mkG zG 51 (rdRun (E.take 32) dsG zG) (E.take 32).length) := by
  have C := readG_any A c E (w.alloc (.cells zG 40)) ((hE.alloc (Nat.le_refl _) _).more (by simp)) h8 hc hc2 hm 51
  have h0 : Blk (w.alloc (.cells zG 40)) w.heap.size 40 zG := Blk.at rfl
  have HS : (rdRun (E.take 32) dsG zG).2.2.size = 2 := runAll_size _ _ dsG 0 zG
  have HO : (rdRun (E.take 32) dsG zG).2.2.all (·.oneCell') = true := runAll_one _ _ dsG 0 zG oneG
  clear hE h8 hc hm
  generalize (E.take 32).length = m at *
  generalize rdRun (E.take 32) dsG zG = rr at *
  obtain ⟨rb, rk, ra⟩ := rr
  unfold GotR at C ⊢
  simp only [] at C HS HO ⊢
  generalize E.length = n at *
  generalize (rb && decide (rk ≤ m)) = ok at *
  cases ok with
  | false =>
    simp only [Bool.false_eq_true, if_false] at C ⊢
    unfold mkG at C ⊢
    unfold zG at C
    clear HO
    have HO := oneG
    have HI : (Try.prog.info? 40).map (·.size) = some (zG : Array Value).size := sizG
    go_enter Try.func15, Try.ntmps15
    go_wp2_with (first | (go_at_call 36; ((with_reducible refine C.mono ?_); rintro e w1 ⟨rfl, b1⟩; have hR1 := h0.below b1)) | (refine wpList_store_row rfl 40 (.tmp 2) (.tmp 6) (by with_reducible rfl) w.heap.size zG (by rfl) (by rfl) 40 zG hR1 HI rfl HO ?_))
    refine bodyPost_ret (v := .tuple #[.agg zG, .int .i64 51]) ?_ rfl ?_
    · rw [results_cell_tmp rfl]
      simp [asAddr, Result.andThen, run_loadVar_row _ w.heap.size 40 40 zG (0, 0) _ (hR1.row zG) Try.underlying40 rfl HI]
    · exact ⟨rfl, below_setRow (((Below.refl _ _).alloc (Nat.le_refl _) _).trans (b1.mono (by simp))) (Nat.le_refl _) _⟩
  | true =>
    simp only [if_true] at C ⊢
    unfold mkG at C ⊢
    unfold zG at C
    have HI : (Try.prog.info? 40).map (·.size) = some ra.size := HS ▸ sizG
    have HZ : (zG : Array Value).size = ra.size := HS.symm
    go_enter Try.func15, Try.ntmps15
    go_wp2_with (first | (go_at_call 36; ((with_reducible refine C.mono ?_); rintro e w1 ⟨rfl, b1⟩; have hR1 := h0.below b1)) | (refine wpList_store_row rfl 40 (.tmp 2) (.tmp 6) (by with_reducible rfl) w.heap.size ra (by rfl) (by rfl) 40 zG hR1 HI HZ HO ?_))
    refine bodyPost_ret (v := .tuple #[.agg ra, .int .i64 0]) ?_ rfl ?_
    · rw [results_cell_tmp rfl]
      simp [asAddr, Result.andThen, run_loadVar_row _ w.heap.size 40 40 ra (0, 0) _ (hR1.row ra) Try.underlying40 rfl HI]
    · exact ⟨rfl, below_setRow (((Below.refl _ _).alloc (Nat.le_refl _) _).trans (b1.mono (by simp))) (Nat.le_refl _) _⟩

end Go.Proofs.Ytbomgaacahaofaa

namespace Go.Proofs.Ytbomgaacahaofaa
open Go Go.RowKit

/-- A table was put, or refused. -/
def GaveP (w : World) (r : Bool × List Value × Array Value) (e : Ending) (w' : World) : Prop :=
  (r.1 = true → Gave w r.2.1 e w') ∧ (r.1 = false → e = .returned (.tuple #[.slice none 0 0, .int .i64 1]) ∧ Below w.heap.size w w')

end Go.Proofs.Ytbomgaacahaofaa

namespace Go.Proofs.Ytbomgaacahaofaa
open Go Go.RowKit

set_option maxRecDepth 100000 in
set_option maxHeartbeats 16000000 in
theorem putL_any (a0 a1 a2 a3 : Int) (w : World) :
    Calls Try.prog 38 #[.agg #[.int .i64 a0, .int .i64 a1, .int .i64 a2, .int .i64 a3], .int .i64 36, .func (.func 39) #[] #[]] w (GaveP w (wrRun dsL #[.int .i64 a0, .int .i64 a1, .int .i64 a2, .int .i64 a3])) := by
  have hmark : True := trivial
  have b0 : Below w.heap.size w (w.alloc (.cells #[.int .i64 a0, .int .i64 a1, .int .i64 a2, .int .i64 a3] 50)) := below_al (Below.refl _ _) _
  have hX0 : Blk (w.alloc (.cells #[.int .i64 a0, .int .i64 a1, .int .i64 a2, .int .i64 a3] 50)) w.heap.size 50 #[.int .i64 a0, .int .i64 a1, .int .i64 a2, .int .i64 a3] := Blk.at rfl
  have hz0 : (w.alloc (.cells #[.int .i64 a0, .int .i64 a1, .int .i64 a2, .int .i64 a3] 50)).heap.size = w.heap.size + 1 := by simp
  obtain ⟨wa, hwa⟩ : ∃ wa, wa = w.alloc (.cells #[.int .i64 a0, .int .i64 a1, .int .i64 a2, .int .i64 a3] 50) := ⟨_, rfl⟩
  rw [← hwa] at b0 hX0 hz0
  have C0 : Calls Try.prog 41 #[.int .i64 36] wa (MadeWS w wa 36) := wsTo w wa 36 b0
  have C := C0.mono (R' := fun e w3 => ∃ p, e = .returned (.pointer (some ⟨p, 0, none⟩)) ∧ Calls Try.prog 43 #[.pointer (some ⟨p, 0, none⟩)] w3 fun e w4 => ∃ r, e = .returned (.func (.func 53) #[] #[.pointer (some ⟨r, 0, none⟩)]) ∧ Calls Try.prog 39 #[.pointer (some ⟨w.heap.size, 0, none⟩)] w4 fun e w5 =>
      ∃ row cc : Nat, e = .returned (.slice (some ⟨row, 0, none⟩) dsL.length cc) ∧ Calls Try.prog 42 #[.func (.func 53) #[] #[.pointer (some ⟨r, 0, none⟩)], .slice (some ⟨row, 0, none⟩) dsL.length cc] w5 fun e w6 =>
        ∃ rb rl ra, wrRun dsL #[.int .i64 a0, .int .i64 a1, .int .i64 a2, .int .i64 a3] = (rb, rl, ra) ∧ e = .returned (.bool rb) ∧ Below w.heap.size w w6 ∧
          Calls Try.prog 44 #[.pointer (some ⟨p, 0, none⟩)] w6 (Gave w rl)) ?_
  rotate_left
  · rintro e w3 ⟨p, rfl, hws, b3⟩
    refine ⟨p, rfl, (into_new p w3).mono ?_⟩
    rintro e w4 ⟨rfl, hw4⟩
    have b4 : Below w3.heap.size w3 w4 := by rw [hw4]; exact below_al (Below.refl _ _) _
    have hr4 : Blk w4 w3.heap.size 81 #[.pointer (some ⟨p, 0, none⟩)] := by rw [hw4]; exact Blk.at rfl
    refine ⟨w3.heap.size, rfl, (linesFields_any w.heap.size w4).mono ?_⟩
    rintro e w5 ⟨vs, fp, own, row, cc, rfl, hvl, hrow, hF, hlow, hown, hsep, hro, b5⟩
    have hvl2 : vs.length = dsL.length := hvl
    rw [hvl2]
    refine ⟨row, cc, rfl, ?_⟩
    have z3 := b3.size
    have z4 := b4.size
    have z5 := b5.size
    have hX5 := ((hX0.below b3).below b4).below b5
    have Kc := into_carr w w3.heap.size p 36 (by omega)
    have hI : IInto w w3.heap.size p 36 [] w5 := ⟨(hws.below b4).below b5, hr4.below b5⟩
    have hC := carryAll_any Kc [0, 1, 2, 3] [] (by decide) w.heap.size 50 ⟨by omega, by omega⟩ (by decide) (by decide) vs dsL fp own row cc #[.int .i64 a0, .int .i64 a1, .int .i64 a2, .int .i64 a3] [] w5 hvl2 (by rw [hvl2]; decide) hrow
      (by unfold dsL; simp [fdOk]) hF (fun j hj => by have := (hlow j _ hj).1; omega) (fun j b hb => ⟨by have := (hlow j b (hown j b hb)).1; omega, by have := (hlow j b (hown j b hb)).1; rw [hw4, al_size] at this; omega⟩)
      hsep hro hI hX5 ⟨by intro o ho; simp at ho; first | (rcases ho with rfl | rfl | rfl | rfl <;> exact ⟨_, rfl⟩) | (subst ho; exact ⟨_, rfl⟩), by intro o ho; simp at ho; try (subst ho; exact ⟨_, rfl⟩)⟩ (by decide)
    rw [hvl2] at hC
    refine hC.mono ?_
    rintro e w6 ⟨rfl, ⟨hws6, _⟩, hX6, hk6⟩
    exact ⟨_, _, _, rfl, rfl, hws6.old, wsDone w w6 p 36 _ hws6 (by omega)⟩
  clear C0 b0 hX0 hz0
  subst hwa
  generalize hrr : wrRun dsL #[.int .i64 a0, .int .i64 a1, .int .i64 a2, .int .i64 a3] = rr at *
  clear hrr
  obtain ⟨rb, rl, ra⟩ := rr
  have HC := Lib.hid C
  clear C
  unfold GaveP
  cases rb with
  | false =>
    clear hmark
    go_enter Try.func38, Try.ntmps38
    go_wp2_with (first | (go_at_call 41; ((with_reducible refine (HC.out).mono ?_); rintro e w3 ⟨p, rfl, C4⟩)) | (go_at_call 43; ((with_reducible refine C4.mono ?_); rintro e w4 ⟨r, rfl, C5⟩)) | (go_at_call 39; ((with_reducible refine C5.mono ?_); rintro e w5 ⟨row, cc, rfl, C6⟩)) | (go_at_call 42; ((with_reducible refine C6.mono ?_); rintro e w6 ⟨_, _, _, hq, rfl, b6, C7⟩; cases hq)))
    go_ret2
    exact ⟨fun h => (nomatch h), fun _ => ⟨rfl, b6⟩⟩
  | true =>
    clear hmark
    go_enter Try.func38, Try.ntmps38
    go_wp2_with (first | (go_at_call 41; ((with_reducible refine (HC.out).mono ?_); rintro e w3 ⟨p, rfl, C4⟩)) | (go_at_call 43; ((with_reducible refine C4.mono ?_); rintro e w4 ⟨r, rfl, C5⟩)) | (go_at_call 39; ((with_reducible refine C5.mono ?_); rintro e w5 ⟨row, cc, rfl, C6⟩)) | (go_at_call 42; ((with_reducible refine C6.mono ?_); rintro e w6 ⟨_, _, _, hq, rfl, b6, C7⟩; cases hq)) | (go_at_call 44; ((with_reducible refine C7.mono ?_); rintro e w7 ⟨A7, c7, rfl, ho7, b7⟩)))
    go_ret2
    exact ⟨fun _ => ⟨_, _, rfl, ho7, b7⟩, fun h => (nomatch h)⟩
set_option maxRecDepth 100000 in
set_option maxHeartbeats 4000000 in
theorem hPutLines_any (a0 a1 a2 a3 : Int) (w : World) :
    Calls Try.prog 19 #[.agg #[.int .i64 a0, .int .i64 a1, .int .i64 a2, .int .i64 a3]] w (GaveP w (wrRun dsL #[.int .i64 a0, .int .i64 a1, .int .i64 a2, .int .i64 a3])) := by
  have C := putL_any a0 a1 a2 a3 (w.alloc (.cells #[.int .i64 a0, .int .i64 a1, .int .i64 a2, .int .i64 a3] 50))
  have h0 : Blk (w.alloc (.cells #[.int .i64 a0, .int .i64 a1, .int .i64 a2, .int .i64 a3] 50)) w.heap.size 50 #[.int .i64 a0, .int .i64 a1, .int .i64 a2, .int .i64 a3] := Blk.at rfl
  have b0 : Below w.heap.size w (w.alloc (.cells #[.int .i64 a0, .int .i64 a1, .int .i64 a2, .int .i64 a3] 50)) := below_al (Below.refl _ _) _
  have HB := Lib.hid b0
  have f0 : (w.alloc (.cells #[.int .i64 a0, .int .i64 a1, .int .i64 a2, .int .i64 a3] 50)).cell? ⟨w.heap.size, 0, none⟩ = some (.int .i64 a0) := h0.cell 0; have f1 : (w.alloc (.cells #[.int .i64 a0, .int .i64 a1, .int .i64 a2, .int .i64 a3] 50)).cell? ⟨w.heap.size, 1, none⟩ = some (.int .i64 a1) := h0.cell 1; have f2 : (w.alloc (.cells #[.int .i64 a0, .int .i64 a1, .int .i64 a2, .int .i64 a3] 50)).cell? ⟨w.heap.size, 2, none⟩ = some (.int .i64 a2) := h0.cell 2; have f3 : (w.alloc (.cells #[.int .i64 a0, .int .i64 a1, .int .i64 a2, .int .i64 a3] 50)).cell? ⟨w.heap.size, 3, none⟩ = some (.int .i64 a3) := h0.cell 3
  generalize wrRun dsL #[.int .i64 a0, .int .i64 a1, .int .i64 a2, .int .i64 a3] = rr at *
  obtain ⟨rb, rl, ra⟩ := rr
  unfold GaveP at C ⊢
  cases rb with
  | false =>
    go_enter Try.func19, Try.ntmps19
    go_wp2_with (first | (go_at_call 38; ((with_reducible refine C.mono ?_); rintro e w1 ⟨_, h2⟩; obtain ⟨rfl, b1⟩ := h2 rfl)))
    go_ret2
    exact ⟨fun h => (nomatch h), fun _ => ⟨rfl, HB.out.trans (b1.mono HB.out.size)⟩⟩
  | true =>
    go_enter Try.func19, Try.ntmps19
    go_wp2_with (first | (go_at_call 38; ((with_reducible refine C.mono ?_); rintro e w1 ⟨h2, _⟩; obtain ⟨A7, c7, rfl, ho7, b1⟩ := h2 rfl)))
    go_ret2
    exact ⟨fun _ => ⟨_, _, rfl, own_base ho7 HB.out.size, HB.out.trans (b1.mono HB.out.size)⟩, fun h => (nomatch h)⟩

end Go.Proofs.Ytbomgaacahaofaa

namespace Go.Proofs.Ytbomgaacahaofaa
open Go Go.RowKit

set_option maxRecDepth 100000 in
set_option maxHeartbeats 16000000 in
theorem putH_any (a0 a1 a2 a3 a4 a5 a6 a7 : Int) (b8 : Bool) (w : World) :
    Calls Try.prog 24 #[.agg #[.int .i64 a0, .int .i64 a1, .int .i64 a2, .int .i64 a3, .int .i64 a4, .int .i64 a5, .int .i64 a6, .int .i64 a7, .bool b8], .int .i64 54, .func (.func 25) #[] #[]] w (GaveP w (wrRun dsH #[.int .i64 a0, .int .i64 a1, .int .i64 a2, .int .i64 a3, .int .i64 a4, .int .i64 a5, .int .i64 a6, .int .i64 a7, .bool b8])) := by
  have hmark : True := trivial
  have b0 : Below w.heap.size w (w.alloc (.cells #[.int .i64 a0, .int .i64 a1, .int .i64 a2, .int .i64 a3, .int .i64 a4, .int .i64 a5, .int .i64 a6, .int .i64 a7, .bool b8] 25)) := below_al (Below.refl _ _) _
  have hX0 : Blk (w.alloc (.cells #[.int .i64 a0, .int .i64 a1, .int .i64 a2, .int .i64 a3, .int .i64 a4, .int .i64 a5, .int .i64 a6, .int .i64 a7, .bool b8] 25)) w.heap.size 25 #[.int .i64 a0, .int .i64 a1, .int .i64 a2, .int .i64 a3, .int .i64 a4, .int .i64 a5, .int .i64 a6, .int .i64 a7, .bool b8] := Blk.at rfl
  have hz0 : (w.alloc (.cells #[.int .i64 a0, .int .i64 a1, .int .i64 a2, .int .i64 a3, .int .i64 a4, .int .i64 a5, .int .i64 a6, .int .i64 a7, .bool b8] 25)).heap.size = w.heap.size + 1 := by simp
  obtain ⟨wa, hwa⟩ : ∃ wa, wa = w.alloc (.cells #[.int .i64 a0, .int .i64 a1, .int .i64 a2, .int .i64 a3, .int .i64 a4, .int .i64 a5, .int .i64 a6, .int .i64 a7, .bool b8] 25) := ⟨_, rfl⟩
  rw [← hwa] at b0 hX0 hz0
  have C0 : Calls Try.prog 41 #[.int .i64 54] wa (MadeWS w wa 54) := wsTo w wa 54 b0
  have C := C0.mono (R' := fun e w3 => ∃ p, e = .returned (.pointer (some ⟨p, 0, none⟩)) ∧ Calls Try.prog 43 #[.pointer (some ⟨p, 0, none⟩)] w3 fun e w4 => ∃ r, e = .returned (.func (.func 53) #[] #[.pointer (some ⟨r, 0, none⟩)]) ∧ Calls Try.prog 25 #[.pointer (some ⟨w.heap.size, 0, none⟩)] w4 fun e w5 =>
      ∃ row cc : Nat, e = .returned (.slice (some ⟨row, 0, none⟩) dsH.length cc) ∧ Calls Try.prog 42 #[.func (.func 53) #[] #[.pointer (some ⟨r, 0, none⟩)], .slice (some ⟨row, 0, none⟩) dsH.length cc] w5 fun e w6 =>
        ∃ rb rl ra, wrRun dsH #[.int .i64 a0, .int .i64 a1, .int .i64 a2, .int .i64 a3, .int .i64 a4, .int .i64 a5, .int .i64 a6, .int .i64 a7, .bool b8] = (rb, rl, ra) ∧ e = .returned (.bool rb) ∧ Below w.heap.size w w6 ∧
          Calls Try.prog 44 #[.pointer (some ⟨p, 0, none⟩)] w6 (Gave w rl)) ?_
  rotate_left
  · rintro e w3 ⟨p, rfl, hws, b3⟩
    refine ⟨p, rfl, (into_new p w3).mono ?_⟩
    rintro e w4 ⟨rfl, hw4⟩
    have b4 : Below w3.heap.size w3 w4 := by rw [hw4]; exact below_al (Below.refl _ _) _
    have hr4 : Blk w4 w3.heap.size 81 #[.pointer (some ⟨p, 0, none⟩)] := by rw [hw4]; exact Blk.at rfl
    refine ⟨w3.heap.size, rfl, (headFields_any w.heap.size w4).mono ?_⟩
    rintro e w5 ⟨vs, fp, own, row, cc, rfl, hvl, hrow, hF, hlow, hown, hsep, hro, b5⟩
    have hvl2 : vs.length = dsH.length := hvl
    rw [hvl2]
    refine ⟨row, cc, rfl, ?_⟩
    have z3 := b3.size
    have z4 := b4.size
    have z5 := b5.size
    have hX5 := ((hX0.below b3).below b4).below b5
    have Kc := into_carr w w3.heap.size p 54 (by omega)
    have hI : IInto w w3.heap.size p 54 [] w5 := ⟨(hws.below b4).below b5, hr4.below b5⟩
    have hC := carryAll_any Kc [0, 1, 2, 3, 4, 5, 6, 7] [8] (by decide) w.heap.size 25 ⟨by omega, by omega⟩ (by decide) (by decide) vs dsH fp own row cc #[.int .i64 a0, .int .i64 a1, .int .i64 a2, .int .i64 a3, .int .i64 a4, .int .i64 a5, .int .i64 a6, .int .i64 a7, .bool b8] [] w5 hvl2 (by rw [hvl2]; decide) hrow
      (by unfold dsH; simp [fdOk]) hF (fun j hj => by have := (hlow j _ hj).1; omega) (fun j b hb => ⟨by have := (hlow j b (hown j b hb)).1; omega, by have := (hlow j b (hown j b hb)).1; rw [hw4, al_size] at this; omega⟩)
      hsep hro hI hX5 ⟨by intro o ho; simp at ho; first | (rcases ho with rfl | rfl | rfl | rfl | rfl | rfl | rfl | rfl <;> exact ⟨_, rfl⟩) | (subst ho; exact ⟨_, rfl⟩), by intro o ho; simp at ho; try (subst ho; exact ⟨_, rfl⟩)⟩ (by decide)
    rw [hvl2] at hC
    refine hC.mono ?_
    rintro e w6 ⟨rfl, ⟨hws6, _⟩, hX6, hk6⟩
    exact ⟨_, _, _, rfl, rfl, hws6.old, wsDone w w6 p 54 _ hws6 (by omega)⟩
  clear C0 b0 hX0 hz0
  subst hwa
  generalize hrr : wrRun dsH #[.int .i64 a0, .int .i64 a1, .int .i64 a2, .int .i64 a3, .int .i64 a4, .int .i64 a5, .int .i64 a6, .int .i64 a7, .bool b8] = rr at *
  clear hrr
  obtain ⟨rb, rl, ra⟩ := rr
  have HC := Lib.hid C
  clear C
  unfold GaveP
  cases rb with
  | false =>
    clear hmark
    go_enter Try.func24, Try.ntmps24
    go_wp2_with (first | (go_at_call 41; ((with_reducible refine (HC.out).mono ?_); rintro e w3 ⟨p, rfl, C4⟩)) | (go_at_call 43; ((with_reducible refine C4.mono ?_); rintro e w4 ⟨r, rfl, C5⟩)) | (go_at_call 25; ((with_reducible refine C5.mono ?_); rintro e w5 ⟨row, cc, rfl, C6⟩)) | (go_at_call 42; ((with_reducible refine C6.mono ?_); rintro e w6 ⟨_, _, _, hq, rfl, b6, C7⟩; cases hq)))
    go_ret2
    exact ⟨fun h => (nomatch h), fun _ => ⟨rfl, b6⟩⟩
  | true =>
    clear hmark
    go_enter Try.func24, Try.ntmps24
    go_wp2_with (first | (go_at_call 41; ((with_reducible refine (HC.out).mono ?_); rintro e w3 ⟨p, rfl, C4⟩)) | (go_at_call 43; ((with_reducible refine C4.mono ?_); rintro e w4 ⟨r, rfl, C5⟩)) | (go_at_call 25; ((with_reducible refine C5.mono ?_); rintro e w5 ⟨row, cc, rfl, C6⟩)) | (go_at_call 42; ((with_reducible refine C6.mono ?_); rintro e w6 ⟨_, _, _, hq, rfl, b6, C7⟩; cases hq)) | (go_at_call 44; ((with_reducible refine C7.mono ?_); rintro e w7 ⟨A7, c7, rfl, ho7, b7⟩)))
    go_ret2
    exact ⟨fun _ => ⟨_, _, rfl, ho7, b7⟩, fun h => (nomatch h)⟩
set_option maxRecDepth 100000 in
set_option maxHeartbeats 4000000 in
theorem hPutHead_any (a0 a1 a2 a3 a4 a5 a6 a7 : Int) (b8 : Bool) (w : World) :
    Calls Try.prog 8 #[.agg #[.int .i64 a0, .int .i64 a1, .int .i64 a2, .int .i64 a3, .int .i64 a4, .int .i64 a5, .int .i64 a6, .int .i64 a7, .bool b8]] w (GaveP w (wrRun dsH #[.int .i64 a0, .int .i64 a1, .int .i64 a2, .int .i64 a3, .int .i64 a4, .int .i64 a5, .int .i64 a6, .int .i64 a7, .bool b8])) := by
  have C := putH_any a0 a1 a2 a3 a4 a5 a6 a7 b8 (w.alloc (.cells #[.int .i64 a0, .int .i64 a1, .int .i64 a2, .int .i64 a3, .int .i64 a4, .int .i64 a5, .int .i64 a6, .int .i64 a7, .bool b8] 25))
  have h0 : Blk (w.alloc (.cells #[.int .i64 a0, .int .i64 a1, .int .i64 a2, .int .i64 a3, .int .i64 a4, .int .i64 a5, .int .i64 a6, .int .i64 a7, .bool b8] 25)) w.heap.size 25 #[.int .i64 a0, .int .i64 a1, .int .i64 a2, .int .i64 a3, .int .i64 a4, .int .i64 a5, .int .i64 a6, .int .i64 a7, .bool b8] := Blk.at rfl
  have b0 : Below w.heap.size w (w.alloc (.cells #[.int .i64 a0, .int .i64 a1, .int .i64 a2, .int .i64 a3, .int .i64 a4, .int .i64 a5, .int .i64 a6, .int .i64 a7, .bool b8] 25)) := below_al (Below.refl _ _) _
  have HB := Lib.hid b0
  have f0 : (w.alloc (.cells #[.int .i64 a0, .int .i64 a1, .int .i64 a2, .int .i64 a3, .int .i64 a4, .int .i64 a5, .int .i64 a6, .int .i64 a7, .bool b8] 25)).cell? ⟨w.heap.size, 0, none⟩ = some (.int .i64 a0) := h0.cell 0; have f1 : (w.alloc (.cells #[.int .i64 a0, .int .i64 a1, .int .i64 a2, .int .i64 a3, .int .i64 a4, .int .i64 a5, .int .i64 a6, .int .i64 a7, .bool b8] 25)).cell? ⟨w.heap.size, 1, none⟩ = some (.int .i64 a1) := h0.cell 1; have f2 : (w.alloc (.cells #[.int .i64 a0, .int .i64 a1, .int .i64 a2, .int .i64 a3, .int .i64 a4, .int .i64 a5, .int .i64 a6, .int .i64 a7, .bool b8] 25)).cell? ⟨w.heap.size, 2, none⟩ = some (.int .i64 a2) := h0.cell 2; have f3 : (w.alloc (.cells #[.int .i64 a0, .int .i64 a1, .int .i64 a2, .int .i64 a3, .int .i64 a4, .int .i64 a5, .int .i64 a6, .int .i64 a7, .bool b8] 25)).cell? ⟨w.heap.size, 3, none⟩ = some (.int .i64 a3) := h0.cell 3; have f4 : (w.alloc (.cells #[.int .i64 a0, .int .i64 a1, .int .i64 a2, .int .i64 a3, .int .i64 a4, .int .i64 a5, .int .i64 a6, .int .i64 a7, .bool b8] 25)).cell? ⟨w.heap.size, 4, none⟩ = some (.int .i64 a4) := h0.cell 4; have f5 : (w.alloc (.cells #[.int .i64 a0, .int .i64 a1, .int .i64 a2, .int .i64 a3, .int .i64 a4, .int .i64 a5, .int .i64 a6, .int .i64 a7, .bool b8] 25)).cell? ⟨w.heap.size, 5, none⟩ = some (.int .i64 a5) := h0.cell 5; have f6 : (w.alloc (.cells #[.int .i64 a0, .int .i64 a1, .int .i64 a2, .int .i64 a3, .int .i64 a4, .int .i64 a5, .int .i64 a6, .int .i64 a7, .bool b8] 25)).cell? ⟨w.heap.size, 6, none⟩ = some (.int .i64 a6) := h0.cell 6; have f7 : (w.alloc (.cells #[.int .i64 a0, .int .i64 a1, .int .i64 a2, .int .i64 a3, .int .i64 a4, .int .i64 a5, .int .i64 a6, .int .i64 a7, .bool b8] 25)).cell? ⟨w.heap.size, 7, none⟩ = some (.int .i64 a7) := h0.cell 7; have f8 : (w.alloc (.cells #[.int .i64 a0, .int .i64 a1, .int .i64 a2, .int .i64 a3, .int .i64 a4, .int .i64 a5, .int .i64 a6, .int .i64 a7, .bool b8] 25)).cell? ⟨w.heap.size, 8, none⟩ = some (.bool b8) := h0.cell 8
  generalize wrRun dsH #[.int .i64 a0, .int .i64 a1, .int .i64 a2, .int .i64 a3, .int .i64 a4, .int .i64 a5, .int .i64 a6, .int .i64 a7, .bool b8] = rr at *
  obtain ⟨rb, rl, ra⟩ := rr
  unfold GaveP at C ⊢
  cases rb with
  | false =>
    go_enter Try.func8, Try.ntmps8
    go_wp2_with (first | (go_at_call 24; ((with_reducible refine C.mono ?_); rintro e w1 ⟨_, h2⟩; obtain ⟨rfl, b1⟩ := h2 rfl)))
    go_ret2
    exact ⟨fun h => (nomatch h), fun _ => ⟨rfl, HB.out.trans (b1.mono HB.out.size)⟩⟩
  | true =>
    go_enter Try.func8, Try.ntmps8
    go_wp2_with (first | (go_at_call 24; ((with_reducible refine C.mono ?_); rintro e w1 ⟨h2, _⟩; obtain ⟨A7, c7, rfl, ho7, b1⟩ := h2 rfl)))
    go_ret2
    exact ⟨fun _ => ⟨_, _, rfl, own_base ho7 HB.out.size, HB.out.trans (b1.mono HB.out.size)⟩, fun h => (nomatch h)⟩

end Go.Proofs.Ytbomgaacahaofaa
