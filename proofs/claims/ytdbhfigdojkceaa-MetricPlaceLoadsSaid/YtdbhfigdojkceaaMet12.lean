/- A glyph's place; places that are as they should be. -/
import Derived.Test.YtdbhfigdojkceaaMet11
namespace Go.Proofs.Ytdbhfigdojkceaa
open Go Go.RowKit

theorem plen_nil (w : World) : Calls Try.prog 24 #[.pointer none] w fun e w' => e = .returned (.int .i64 0) ∧ w = w' := by
  go_enter Try.func24, Try.ntmps24
  go_wp2
  go_ret
  exact ⟨rfl, rfl⟩
theorem plen_any (t : Nat) (zs : List Int) (w : World) (h : PlAt w t zs) (hz : zs.length ≤ 65536) (h1 : 1 ≤ zs.length) : Calls Try.prog 24 #[.pointer (some ⟨t, 0, none⟩)] w fun e w' => e = .returned (.int .i64 ((zs.length : Int) - 1)) ∧ w = w' := by
  obtain ⟨A1, c1, hb, _⟩ := h
  have F := hb.kb; simp only [KB, CellsAt, and_true] at F
  clear hb
  generalize zs.length = n at *
  have d1 : decide ((n : Int) - 1 < 0) = false := by simp; omega
  go_enter Try.func24, Try.ntmps24
  go_wp2
  all_goals go_ret
  all_goals exact ⟨ret_int (by omega), rfl⟩

/-- Two offsets, and error n. -/
def GavePl (w : World) (u v n : Int) (e : Ending) (w' : World) : Prop := e = .returned (.tuple #[.int .i64 u, .int .i64 v, .int .i64 n]) ∧ Below w.heap.size w w'
theorem pat_nil (g : Int) (w : World) : Calls Try.prog 22 #[.pointer none, .int .i64 g] w (GavePl w 0 0 6) := by
  go_enter Try.func22, Try.ntmps22
  go_wp2
  exact bodyPost_ret (v := .tuple #[.int .i64 0, .int .i64 0, .int .i64 6]) (by simp [results, Try.results22, go_sem]) rfl ⟨rfl, Below.refl _ _⟩
theorem pat_none (t : Nat) (zs : List Int) (g : Int) (w : World) (h : PlAt w t zs) (hz : zs.length ≤ 65536) (h1 : 1 ≤ zs.length) (hr : inB 0 ((zs.length : Int) - 2) g = false) : Calls Try.prog 22 #[.pointer (some ⟨t, 0, none⟩), .int .i64 g] w (GavePl w 0 0 62) := by
  have C := fun W (hb : Below w.heap.size w W) => plen_any t zs W (h.below hb) hz h1
  have D := fun W T k hk => within_new 0 ((zs.length : Int) - 2) g false hr W T k hk
  clear h hr
  generalize zs.length = n at *
  have s1 : (n : Int) - 1 - 1 = (n : Int) - 2 := by omega
  rw [← s1] at D
  clear s1
  go_enter Try.func22, Try.ntmps22
  go_wp2_with (first | (go_at_call 24; ((with_reducible refine (C _ (Below.refl _ _)).mono ?_); rintro e w' ⟨rfl, rfl⟩)) | (go_at_call 40; ((with_reducible refine (D _ _ _ (by simp)).mono ?_); rintro e w1 ⟨rfl, b1⟩)))
  exact bodyPost_ret (v := .tuple #[.int .i64 0, .int .i64 0, .int .i64 62]) (by simp [results, Try.results22, go_sem]) rfl ⟨rfl, b1⟩

set_option maxRecDepth 100000 in
theorem pat_ok (t : Nat) (zs : List Int) (k : Nat) (w : World) (h : PlAt w t zs) (hz : zs.length ≤ 65536) (hk : k + 1 < zs.length) : Calls Try.prog 22 #[.pointer (some ⟨t, 0, none⟩), .int .i64 (k : Nat)] w (GavePl w (zs.getD k 0) (zs.getD (k + 1) 0) 0) := by
  have C := fun W (hb : Below w.heap.size w W) => plen_any t zs W (h.below hb) hz (by omega)
  have D := fun W T j hj => within_new 0 ((zs.length : Int) - 1 - 1) (k : Int) true (inB_yes (by omega) (by omega)) W T j hj
  obtain ⟨A1, c1, hb, l1⟩ := h
  obtain ⟨b1, o1, rfl, n1, f1⟩ := l1.plain (by intro e; have := intCells_len zs; rw [e] at this; simp at this; omega)
  have x1 := f1 k _ (intCells_get zs k (by omega))
  have x2 := f1 (k + 1) _ (intCells_get zs (k + 1) hk)
  have F := hb.kb; simp only [KB, CellsAt, and_true] at F
  obtain ⟨n3, _, x3⟩ := F
  clear f1 l1 hb
  generalize zs.getD k 0 = u at *
  generalize zs.getD (k + 1) 0 = z at *
  generalize zs.length = n at *
  have HK : ∀ W, Below w.heap.size w W → W.cell? ⟨t, 0, none⟩ = some (.slice (some ⟨b1, o1, none⟩) n c1) ∧ W.cell? ⟨b1, o1 + k, none⟩ = some (.int .i64 u) ∧ W.cell? ⟨b1, o1 + (k + 1), none⟩ = some (.int .i64 z) := fun W hb =>
    ⟨(hb.cell (p := ⟨t, 0, none⟩) n3).trans x3, (hb.cell (p := ⟨b1, o1 + k, none⟩) n1).trans x1, (hb.cell (p := ⟨b1, o1 + (k + 1), none⟩) n1).trans x2⟩
  clear x1 x2 x3
  have d1 : (0 : Int) ≤ (k : Int) := by omega
  have d2 : (k : Int) < (n : Int) := by omega
  have d3 : (0 : Int) ≤ (k : Int) + 1 := by omega
  have d4 : (k : Int) + 1 < (n : Int) := by omega
  have s1 : IntKind.i64.wrap ((k : Int) + 1) = (k : Int) + 1 := IntWalk.i64_in _ (by omega)
  have s2 : ((k : Int) + 1).toNat = k + 1 := by omega
  go_enter Try.func22, Try.ntmps22
  go_wp2_with (first | (go_at_call 24; ((with_reducible refine (C _ (Below.refl _ _)).mono ?_); rintro e w' ⟨rfl, rfl⟩)) | (go_at_call 40; ((with_reducible refine (D _ _ _ (by simp)).mono ?_); rintro e w1 ⟨rfl, b1⟩)))
  have hI : Below w.heap.size w w1.drew := b1.drew
  refine wp_region_chain (fun W => Below w.heap.size w W) [(0, false), (1, false), (2, false), (3, false), (4, false), (5, false), (6, false), (7, false), (8, false), (9, false), (10, false), (11, false), (12, false), (13, false), (14, false), (15, false), (16, false), (17, false)] (by kernel_rfl) (by kernel_rfl) hI ?_
  repeat (first
    | (refine ChainL.skip (o := ?_) ?_ ?_ ?_; rotate_left; (focus (first | (simp only [List.getElem?_toArray, List.getElem?_cons_succ, List.getElem?_cons_zero]; with_reducible rfl) | (simp only [List.getElem?_toArray, List.getElem?_cons_zero]; with_reducible rfl))); (focus rfl); simp only [Act.put, List.setIfInBounds_toArray, List.set_cons_zero, List.set_cons_succ])
    | (refine ChainL.val (o := ?_) (v := ?_) ?_ ?_ ?_ ?_ ?_; rotate_left 2; (focus (first | (simp only [List.getElem?_toArray, List.getElem?_cons_succ, List.getElem?_cons_zero]; with_reducible rfl) | (simp only [List.getElem?_toArray, List.getElem?_cons_zero]; with_reducible rfl))); (focus (intro _ _ h; cases h)); (focus rfl); (focus (intro w' hJ; obtain ⟨y1, y2, y3⟩ := HK _ hJ; go_simp <;> with_reducible rfl)); simp only [Act.put, List.setIfInBounds_toArray, List.set_cons_zero, List.set_cons_succ]))
  refine ChainL.nil ?_
  go_wp2
  exact bodyPost_ret (v := .tuple #[.int .i64 u, .int .i64 z, .int .i64 0]) (by simp [results, Try.results22, go_sem]) rfl ⟨rfl, hI⟩

set_option maxRecDepth 100000 in
set_option maxHeartbeats 1000000 in
theorem stands_any (t : Nat) (L : List Int) (hn : L.length ≤ 65536) (h1 : 2 ≤ L.length) (g : Int) (B : Nat) (A : Option Addr) (c : Nat) (w : World) (h : PlAt w t L) (hB : B ≤ w.heap.size) (hL : Lists w B A (intCells L)) :
    Calls Try.prog 19 #[.pointer (some ⟨t, 0, none⟩), .slice A L.length c, .int .i64 g] w fun e w' => e = .returned (.bool true) ∧ Below w.heap.size w w' := by
  have C0 := fun W (hb : Below w.heap.size w W) => plen_any t L W (h.below hb) hn (by omega)
  have C1 := fun W (hb : Below w.heap.size w W) k hk => pat_ok t L k W (h.below hb) hn hk
  have C2 := fun W (hb : Below w.heap.size w W) hr => pat_none t L g W (h.below hb) hn (by omega) hr
  clear h
  obtain ⟨b, o, rfl, hbl, hcl⟩ := hL.plain (by intro e; have := intCells_len L; rw [e] at this; simp at this; omega)
  have HF : ∀ W, Below w.heap.size w W → ∀ k, k < L.length → W.cell? ⟨b, o + k, none⟩ = some (.int .i64 (L.getD k 0)) := fun W hb k hk =>
    (hb.cell (p := ⟨b, o + k, none⟩) (Nat.lt_of_lt_of_le hbl hB)).trans (hcl _ _ (intCells_get L k hk))
  clear hcl hL
  generalize L.getD = f at *
  obtain ⟨n, hnn⟩ : ∃ n, L.length = n + 1 := ⟨L.length - 1, by omega⟩
  rw [hnn] at C0 C1 C2 HF hn h1 ⊢
  have s0 : ((n + 1 : Nat) : Int) - 1 = (n : Int) := by omega
  have s00 : ((n + 1 : Nat) : Int) - 2 = (n : Int) - 1 := by omega
  rw [s0] at C0
  rw [s00] at C2
  clear hnn s0 s00
  go_enter Try.func19, Try.ntmps19
  go_wp2_with (first | (go_at_call 24; ((with_reducible refine (C0 _ (Below.refl _ _)).mono ?_); rintro e w' ⟨rfl, rfl⟩)))
  go_loopw [7] (fun i wr => ∃ k : Nat, k ≤ n ∧ i = .int .i64 k ∧ Below w.heap.size w wr) (fun i _ => n - (intOf i).toNat)
  case atStart => exact ⟨0, Nat.zero_le _, rfl, Below.refl _ _⟩
  case round =>
    obtain ⟨k, hk, rfl, hb⟩ := hrel
    by_cases hlt : k < n
    · have d1 : decide ((k : Int) < (n : Int)) = true := by simp; omega
      have d5 : (k : Int) < (n : Int) + 1 := by omega
      have d6 : (k : Int) + 1 < (n : Int) + 1 := by omega
      go_wp2_with (first | (go_at_call 22; ((with_reducible refine (C1 _ hb k (by omega)).mono ?_); rintro e w1 ⟨rfl, b1⟩; have y1 := HF _ (hb.trans (b1.mono hb.size)) k (by omega); have y2 := HF _ (hb.trans (b1.mono hb.size)) (k + 1) (by omega))))
      go_roundw
      case rel => exact ⟨k + 1, by omega, by go_num, hb.trans (b1.mono hb.size)⟩
      case measure => simp [intOf]; omega
    · have d1 : decide ((k : Int) < (n : Int)) = false := by simp; omega
      cases hr : inB 0 ((n : Int) - 1) g
      · have hg := inB_false hr
        have d2 : decide (0 ≤ g) = true ∧ decide (g < (n : Int)) = false ∨ decide (0 ≤ g) = false := by
          by_cases h : 0 ≤ g
          · left; simp; omega
          · right; simp; omega
        rcases d2 with ⟨d2, d3⟩ | d2
        all_goals
          go_wp2_with (first | (go_at_call 22; ((with_reducible refine (C2 _ hb hr).mono ?_); rintro e w1 ⟨rfl, b1⟩)))
          go_ret
          exact ⟨rfl, hb.trans (b1.mono hb.size)⟩
      · obtain ⟨g1, g2⟩ := inB_true hr
        obtain ⟨k', rfl⟩ : ∃ k' : Nat, g = (k' : Int) := ⟨g.toNat, by omega⟩
        have d2 : decide (0 ≤ (k' : Int)) = true := by simp
        have d3 : decide ((k' : Int) < (n : Int)) = true := by simp; omega
        go_wp2_with (first | (go_at_call 22; ((with_reducible refine (C1 _ hb k' (by omega)).mono ?_); rintro e w1 ⟨rfl, b1⟩)))
        go_ret
        exact ⟨rfl, hb.trans (b1.mono hb.size)⟩

end Go.Proofs.Ytdbhfigdojkceaa
