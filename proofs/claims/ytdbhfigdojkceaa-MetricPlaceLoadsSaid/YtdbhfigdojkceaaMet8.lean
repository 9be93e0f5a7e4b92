/- A glyph's metric. -/
import Derived.Test.YtdbhfigdojkceaaMet7
import Derived.BigQuiet
namespace Go.Proofs.Ytdbhfigdojkceaa
open Go Go.RowKit

theorem mlen_nil (w : World) : Calls Try.prog 23 #[.pointer none] w fun e w' => e = .returned (.int .i64 0) ∧ w = w' := by
  go_enter Try.func23, Try.ntmps23
  go_wp2
  go_ret
  exact ⟨rfl, rfl⟩
theorem mlen_any (t : Nat) (us zs : List Int) (w : World) (h : MetAt w t us zs) : Calls Try.prog 23 #[.pointer (some ⟨t, 0, none⟩)] w fun e w' => e = .returned (.int .i64 (zs.length : Nat)) ∧ w = w' := by
  obtain ⟨A1, c1, A2, c2, hb, _, _⟩ := h
  have F := hb.kb; simp only [KB, CellsAt, Nat.zero_add, and_true] at F
  clear hb
  go_enter Try.func23, Try.ntmps23
  go_wp2
  go_ret
  exact ⟨rfl, rfl⟩

/-- A metric, and error n. -/
def GaveMet (w : World) (q : Int × Int) (n : Int) (e : Ending) (w' : World) : Prop := e = .returned (.tuple #[.agg #[.int .i64 q.1, .int .i64 q.2], .int .i64 n]) ∧ Below w.heap.size w w'
theorem mat_nil (g : Int) (w : World) : Calls Try.prog 21 #[.pointer none, .int .i64 g] w (GaveMet w (0, 0) 6) := by
  go_enter Try.func21, Try.ntmps21
  go_wp2
  exact bodyPost_ret (v := .tuple #[.agg #[.int .i64 0, .int .i64 0], .int .i64 6]) (by simp [results, Try.results21, go_sem]) rfl ⟨rfl, by first | exact (Below.refl _ _).alloc (Nat.le_refl _) _ | exact (((Below.refl _ _).alloc (Nat.le_refl _) _).setCell (by simp) _).setCell (by simp) _⟩
theorem mat_none (t : Nat) (us zs : List Int) (g : Int) (w : World) (h : MetAt w t us zs) (hz : zs.length ≤ 65535) (hr : inB 0 ((zs.length : Int) - 1) g = false) : Calls Try.prog 21 #[.pointer (some ⟨t, 0, none⟩), .int .i64 g] w (GaveMet w (0, 0) 62) := by
  have C := fun W (hb : Below w.heap.size w W) => mlen_any t us zs W (h.below hb)
  have D := fun W T k hk => within_new 0 ((zs.length : Int) - 1) g false hr W T k hk
  clear h hr
  generalize zs.length = n at *
  go_enter Try.func21, Try.ntmps21
  go_wp2_with (first | (go_at_call 23; ((with_reducible refine (C _ ((Below.refl _ _).alloc (Nat.le_refl _) _)).mono ?_); rintro e w' ⟨rfl, rfl⟩)) | (go_at_call 40; ((with_reducible refine (D _ _ _ (by simp)).mono ?_); rintro e w1 ⟨rfl, b1⟩; have g0 := (b1.cell (p := ⟨w.heap.size, 0, none⟩) (by simp)); have g1 := (b1.cell (p := ⟨w.heap.size, 1, none⟩) (by simp)); have f0 := (b1.frozen (p := ⟨w.heap.size, 0, none⟩) (by simp)); have f1 := (b1.frozen (p := ⟨w.heap.size, 1, none⟩) (by simp)))))
  have BW : Below w.heap.size w w1 := ((Below.refl _ _).alloc (Nat.le_refl _) _).trans (b1.mono (by simp))
  exact bodyPost_ret (v := .tuple #[.agg #[.int .i64 0, .int .i64 0], .int .i64 62]) (by simp [results, Try.results21, go_sem, g0, g1]) rfl ⟨rfl, (BW.setCell (by simp) _).setCell (by simp) _⟩

set_option maxRecDepth 100000 in
theorem mat_ok (t : Nat) (us zs : List Int) (k : Nat) (w : World) (h : MetAt w t us zs) (hz : zs.length ≤ 65535) (hk : k < zs.length) (hu : 1 ≤ us.length) (hu2 : us.length ≤ zs.length) : Calls Try.prog 21 #[.pointer (some ⟨t, 0, none⟩), .int .i64 (k : Nat)] w (GaveMet w (us.getD (min k (us.length - 1)) 0, zs.getD k 0) 0) := by
  have C := fun W (hb : Below w.heap.size w W) => mlen_any t us zs W (h.below hb)
  have D := fun W T j hj => within_new 0 ((zs.length : Int) - 1) (k : Int) true (inB_yes (by omega) (by omega)) W T j hj
  obtain ⟨A1, c1, A2, c2, hb, l1, l2⟩ := h
  obtain ⟨b1, o1, rfl, n1, f1⟩ := l1.plain (by intro e; have := intCells_len us; rw [e] at this; simp at this; omega)
  obtain ⟨b2, o2, rfl, n2, f2⟩ := l2.plain (by intro e; have := intCells_len zs; rw [e] at this; simp at this; omega)
  have x1 := f1 (min k (us.length - 1)) _ (intCells_get us _ (by omega))
  have x2 := f2 k _ (intCells_get zs k hk)
  have F := hb.kb; simp only [KB, CellsAt, Nat.zero_add, and_true] at F
  obtain ⟨n3, _, x3, x4⟩ := F
  clear f1 f2 l1 l2 hb
  generalize us.getD (min k (us.length - 1)) 0 = u at *
  generalize zs.getD k 0 = z at *
  generalize zs.length = n at *
  obtain ⟨m, hm⟩ : ∃ m, us.length = m + 1 := ⟨us.length - 1, by omega⟩
  rw [hm] at x1 x3 hu2
  rw [Nat.add_sub_cancel] at x1
  clear hm hu
  have HK : ∀ W, Below w.heap.size w W → W.cell? ⟨t, 0, none⟩ = some (.slice (some ⟨b1, o1, none⟩) (m + 1) c1) ∧ W.cell? ⟨t, 1, none⟩ = some (.slice (some ⟨b2, o2, none⟩) n c2) ∧ W.cell? ⟨b1, o1 + min k m, none⟩ = some (.int .i64 u) ∧ W.cell? ⟨b2, o2 + k, none⟩ = some (.int .i64 z) := fun W hb =>
    ⟨(hb.cell (p := ⟨t, 0, none⟩) n3).trans x3, (hb.cell (p := ⟨t, 1, none⟩) n3).trans x4, (hb.cell (p := ⟨b1, o1 + min k m, none⟩) n1).trans x1, (hb.cell (p := ⟨b2, o2 + k, none⟩) n2).trans x2⟩
  clear x1 x2 x3 x4
  have d1 : (0 : Int) ≤ (k : Int) := by omega
  have d2 : (k : Int) < (n : Int) := by omega
  rcases Nat.lt_or_ge m k with hkm | hkm
  · rw [show min k m = m by omega] at HK
    have d3 : (0 : Int) ≤ (m : Int) := by omega
    have d4 : (m : Int) < (m : Int) + 1 := by omega
    go_enter Try.func21, Try.ntmps21
    go_wp2_with (first | (go_at_call 23; ((with_reducible refine (C _ ((Below.refl _ _).alloc (Nat.le_refl _) _)).mono ?_); rintro e w' ⟨rfl, rfl⟩)) | (go_at_call 40; ((with_reducible refine (D _ _ _ (by simp)).mono ?_); rintro e w1 ⟨rfl, b1⟩; have g0 := (b1.cell (p := ⟨w.heap.size, 0, none⟩) (by simp)); have g1 := (b1.cell (p := ⟨w.heap.size, 1, none⟩) (by simp)); have f0 := (b1.frozen (p := ⟨w.heap.size, 0, none⟩) (by simp)); have f1 := (b1.frozen (p := ⟨w.heap.size, 1, none⟩) (by simp)); have BW : Below w.heap.size w w1 := ((Below.refl _ _).alloc (Nat.le_refl _) _).trans (b1.mono (by simp)); obtain ⟨y1, y2, y3, y4⟩ := HK _ BW)))
    refine wp_region_chain_last (fun W => Below w.heap.size w W) [(0, false), (1, false), (2, false), (3, false), (4, false), (5, false), (6, false), (7, false), (8, false), (9, false), (10, false), (11, false), (12, false), (13, false), (14, false), (15, true)] _ _ (by rfl) (by rfl) (by kernel_rfl) (by kernel_rfl) ?_ ?_
    exact BW.drew
    repeat (refine ChainL.val (o := ?_) (v := ?_) ?_ ?_ ?_ ?_ ?_; rotate_left 2; (focus (simp only [List.getElem?_toArray, List.getElem?_cons_succ, List.getElem?_cons_zero]; with_reducible rfl)); (focus (intro _ _ h; cases h)); (focus rfl); (focus (intro w' hI; obtain ⟨y1, y2, y3, y4⟩ := HK _ hI; go_simp <;> with_reducible rfl)); simp only [Act.put, List.setIfInBounds_toArray, List.set_cons_zero, List.set_cons_succ])
    refine ChainL.store (o := ?_) (w1 := ?_) ?_ ?_ ?_ ?_ ?_
    rotate_left 2
    (focus (simp only [List.getElem?_toArray, List.getElem?_cons_succ, List.getElem?_cons_zero]; with_reducible rfl))
    (focus rfl)
    (focus (go_simp <;> with_reducible rfl))
    exact (BW.drew.setCell (by simp) _).setCell (by simp) _
    simp only [Act.put]
    refine ChainL.nil ?_
    go_wp2
    exact bodyPost_ret (v := .tuple #[.agg #[.int .i64 u, .int .i64 z], .int .i64 0]) (by simp [results, Try.results21, go_sem, g0, g1]) rfl ⟨rfl, (BW.drew.setCell (by simp) _).setCell (by simp) _⟩
  · rw [show min k m = k by omega] at HK
    have d4 : (k : Int) < (m : Int) + 1 := by omega
    go_enter Try.func21, Try.ntmps21
    go_wp2_with (first | (go_at_call 23; ((with_reducible refine (C _ ((Below.refl _ _).alloc (Nat.le_refl _) _)).mono ?_); rintro e w' ⟨rfl, rfl⟩)) | (go_at_call 40; ((with_reducible refine (D _ _ _ (by simp)).mono ?_); rintro e w1 ⟨rfl, b1⟩; have g0 := (b1.cell (p := ⟨w.heap.size, 0, none⟩) (by simp)); have g1 := (b1.cell (p := ⟨w.heap.size, 1, none⟩) (by simp)); have f0 := (b1.frozen (p := ⟨w.heap.size, 0, none⟩) (by simp)); have f1 := (b1.frozen (p := ⟨w.heap.size, 1, none⟩) (by simp)); have BW : Below w.heap.size w w1 := ((Below.refl _ _).alloc (Nat.le_refl _) _).trans (b1.mono (by simp)); obtain ⟨y1, y2, y3, y4⟩ := HK _ BW)))
    refine wp_region_chain_last (fun W => Below w.heap.size w W) [(0, false), (1, false), (2, false), (3, false), (4, false), (5, false), (6, false), (7, false), (8, false), (9, false), (10, false), (11, false), (12, false), (13, false), (14, false), (15, true)] _ _ (by rfl) (by rfl) (by kernel_rfl) (by kernel_rfl) ?_ ?_
    exact BW.drew
    repeat (refine ChainL.val (o := ?_) (v := ?_) ?_ ?_ ?_ ?_ ?_; rotate_left 2; (focus (simp only [List.getElem?_toArray, List.getElem?_cons_succ, List.getElem?_cons_zero]; with_reducible rfl)); (focus (intro _ _ h; cases h)); (focus rfl); (focus (intro w' hI; obtain ⟨y1, y2, y3, y4⟩ := HK _ hI; go_simp <;> with_reducible rfl)); simp only [Act.put, List.setIfInBounds_toArray, List.set_cons_zero, List.set_cons_succ])
    refine ChainL.store (o := ?_) (w1 := ?_) ?_ ?_ ?_ ?_ ?_
    rotate_left 2
    (focus (simp only [List.getElem?_toArray, List.getElem?_cons_succ, List.getElem?_cons_zero]; with_reducible rfl))
    (focus rfl)
    (focus (go_simp <;> with_reducible rfl))
    exact (BW.drew.setCell (by simp) _).setCell (by simp) _
    simp only [Act.put]
    refine ChainL.nil ?_
    go_wp2
    exact bodyPost_ret (v := .tuple #[.agg #[.int .i64 u, .int .i64 z], .int .i64 0]) (by simp [results, Try.results21, go_sem, g0, g1]) rfl ⟨rfl, (BW.drew.setCell (by simp) _).setCell (by simp) _⟩

end Go.Proofs.Ytdbhfigdojkceaa
