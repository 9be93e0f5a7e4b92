/- Metrics that are as they should be. -/
import Derived.Test.YtdbhfigdojkceaaMet8
namespace Go.Proofs.Ytdbhfigdojkceaa
open Go Go.RowKit

/-- The metrics at t are those of the list. -/
def Are (us zs : List Int) (L : List (Int × Int)) : Prop := zs.length = L.length ∧ 1 ≤ us.length ∧ us.length ≤ zs.length ∧ ∀ k q, L[k]? = some q → (us.getD (min k (us.length - 1)) 0, zs.getD k 0) = q

theorem at_are (t : Nat) (us zs : List Int) (L : List (Int × Int)) (hA : Are us zs L) (hn : L.length ≤ 65535) (k : Nat) (x y : Int) (hk : L[k]? = some (x, y)) (w : World) (h : MetAt w t us zs) :
    Calls Try.prog 21 #[.pointer (some ⟨t, 0, none⟩), .int .i64 (k : Nat)] w (GaveMet w (x, y) 0) := by
  obtain ⟨h1, h2, h3, h4⟩ := hA
  have hlt : k < L.length := (List.getElem?_eq_some_iff.1 hk).1
  have := mat_ok t us zs k w h (by omega) (by omega) h2 h3
  rw [h4 k _ hk] at this
  exact this

set_option maxRecDepth 100000 in
set_option maxHeartbeats 1000000 in
theorem holds_any (t : Nat) (us zs : List Int) (L : List (Int × Int)) (hA : Are us zs L) (hn : L.length ≤ 65535) (g : Int) (B : Nat) (A : Option Addr) (c : Nat) (w : World) (h : MetAt w t us zs) (hB : B ≤ w.heap.size) (hL : Lists w B A (metCells L)) :
    Calls Try.prog 13 #[.pointer (some ⟨t, 0, none⟩), .slice A L.length c, .int .i64 g] w fun e w' => e = .returned (.bool true) ∧ Below w.heap.size w w' := by
  have hz := hA.1
  have C0 := fun W (hb : Below w.heap.size w W) => mlen_any t us zs W (h.below hb)
  have C1 := fun W (hb : Below w.heap.size w W) k x y hk => at_are t us zs L hA hn k x y hk W (h.below hb)
  have C2 := fun W (hb : Below w.heap.size w W) hr => mat_none t us zs g W (h.below hb) (by omega) hr
  have hpos : 1 ≤ L.length := by have := hA.2.1; have := hA.2.2.1; omega
  rw [hz] at C0 C2
  clear h hA hz
  obtain ⟨x0, hx0⟩ : ∃ x, L[0]? = some x := ⟨L[0]'(by omega), List.getElem?_eq_getElem _⟩
  obtain ⟨b, o, rfl, hbl, hcl⟩ := hL.plain (by intro e; have := metCells_len L; rw [e] at this; simp at this; omega)
  have HF : ∀ W, Below w.heap.size w W → ∀ k x y, L[k]? = some (x, y) → W.cell? ⟨b, o + k * 2, none⟩ = some (.int .i64 x) ∧ W.cell? ⟨b, o + k * 2 + 1, none⟩ = some (.int .i64 y) := fun W hb k x y hk => by
    obtain ⟨h1, h2⟩ := metCells_at L k x y hk
    refine ⟨(hb.cell (p := ⟨b, o + k * 2, none⟩) (Nat.lt_of_lt_of_le hbl hB)).trans (hcl _ _ h1), ?_⟩
    have := (hb.cell (p := ⟨b, o + (k * 2 + 1), none⟩) (Nat.lt_of_lt_of_le hbl hB)).trans (hcl _ _ h2)
    rwa [← Nat.add_assoc] at this
  clear hcl hL hx0
  obtain ⟨n, hnn⟩ : ∃ n, n = L.length := ⟨_, rfl⟩
  rw [← hnn] at C0 C2 hn hpos ⊢
  have HN := Lib.hid hnn
  clear hnn
  go_enter Try.func13, Try.ntmps13
  go_wp2_with (first | (go_at_call 23; ((with_reducible refine (C0 _ (Below.refl _ _)).mono ?_); rintro e w' ⟨rfl, rfl⟩)))
  go_loopw [7] (fun i wr => ∃ k : Nat, k ≤ n ∧ i = .int .i64 k ∧ Below w.heap.size w wr) (fun i _ => n - (intOf i).toNat)
  case atStart => exact ⟨0, Nat.zero_le _, rfl, Below.refl _ _⟩
  case round =>
    obtain ⟨k, hk, rfl, hb⟩ := hrel
    by_cases hlt : k < n
    · have d1 : decide ((k : Int) < (n : Int)) = true := by simp; omega
      obtain ⟨⟨x, y⟩, hx⟩ : ∃ x, L[k]? = some x := ⟨L[k]'(by rw [← HN.out]; exact hlt), List.getElem?_eq_getElem _⟩
      have HX := Lib.hid hx
      clear hx
      go_wp2_with (first | (go_at_call 21; ((with_reducible refine (C1 _ hb k x y HX.out).mono ?_); rintro e w1 ⟨rfl, b1⟩)))
      have BW := hb.trans (b1.mono hb.size)
      have BX := BW.alloc BW.size (.cells #[.int .i64 x, .int .i64 y] 51)
      have hI : Below (w1.alloc (.cells #[.int .i64 x, .int .i64 y] 51)).heap.size (w1.alloc (.cells #[.int .i64 x, .int .i64 y] 51)) (w1.alloc (.cells #[.int .i64 x, .int .i64 y] 51)).drew := (Below.refl _ _).drew
      refine wp_region_chain (fun W => Below (w1.alloc (.cells #[.int .i64 x, .int .i64 y] 51)).heap.size (w1.alloc (.cells #[.int .i64 x, .int .i64 y] 51)) W) [(0, false), (1, false), (2, false), (3, false), (4, false), (5, false), (6, false), (7, false), (8, false), (9, false)] (by kernel_rfl) (by kernel_rfl) hI ?_
      repeat (first
        | (refine ChainL.skip (o := ?_) ?_ ?_ ?_; rotate_left; (focus (first | (simp only [List.getElem?_toArray, List.getElem?_cons_succ, List.getElem?_cons_zero]; with_reducible rfl) | (simp only [List.getElem?_toArray, List.getElem?_cons_zero]; with_reducible rfl))); (focus rfl); simp only [Act.put, List.setIfInBounds_toArray, List.set_cons_zero, List.set_cons_succ])
        | (refine ChainL.val (o := ?_) (v := ?_) ?_ ?_ ?_ ?_ ?_; rotate_left 2; (focus (first | (simp only [List.getElem?_toArray, List.getElem?_cons_succ, List.getElem?_cons_zero]; with_reducible rfl) | (simp only [List.getElem?_toArray, List.getElem?_cons_zero]; with_reducible rfl))); (focus (intro _ _ h; cases h)); (focus rfl); (focus (intro w' hJ; obtain ⟨y1, y2⟩ := HF _ (BX.trans (hJ.mono BX.size)) k x y HX.out; have z0 := hJ.cell (p := ⟨w1.heap.size, 0, none⟩) (by simp); have z1 := hJ.cell (p := ⟨w1.heap.size, 1, none⟩) (by simp); go_simp <;> with_reducible rfl)); simp only [Act.put, List.setIfInBounds_toArray, List.set_cons_zero, List.set_cons_succ]))
      refine ChainL.nil ?_
      go_wp2
      go_roundw
      case rel => exact ⟨k + 1, by omega, by go_num, BX.trans (hI.mono BX.size)⟩
      case measure => simp [intOf]; omega
    · have d1 : decide ((k : Int) < (n : Int)) = false := by simp; omega
      cases hr : inB 0 ((n : Int) - 1) g
      · have hg := inB_false hr
        have d2 : decide (0 ≤ g) = true ∧ decide (g < (n : Int)) = false ∨ decide (0 ≤ g) = false := by
          by_cases h : 0 ≤ g
          · left; simp; omega
          · right; simp; omega
        rcases d2 with ⟨d2, d3⟩ | d2
        all_goals
          go_wp2_with (first | (go_at_call 21; ((with_reducible refine (C2 _ hb hr).mono ?_); rintro e w1 ⟨rfl, b1⟩)))
          go_ret
          exact ⟨rfl, (hb.trans (b1.mono hb.size)).alloc (Nat.le_trans hb.size b1.size) _⟩
      · obtain ⟨g1, g2⟩ := inB_true hr
        obtain ⟨k', rfl⟩ : ∃ k' : Nat, g = (k' : Int) := ⟨g.toNat, by omega⟩
        have d2 : decide (0 ≤ (k' : Int)) = true := by simp
        have d3 : decide ((k' : Int) < (n : Int)) = true := by simp; omega
        obtain ⟨⟨x, y⟩, hx⟩ : ∃ x, L[k']? = some x := ⟨L[k']'(by rw [← HN.out]; omega), List.getElem?_eq_getElem _⟩
        have HX := Lib.hid hx
        clear hx
        go_wp2_with (first | (go_at_call 21; ((with_reducible refine (C1 _ hb k' x y HX.out).mono ?_); rintro e w1 ⟨rfl, b1⟩)))
        have BW := hb.trans (b1.mono hb.size)
        have BX := BW.alloc BW.size (.cells #[.int .i64 x, .int .i64 y] 51)
        have hI : Below (w1.alloc (.cells #[.int .i64 x, .int .i64 y] 51)).heap.size (w1.alloc (.cells #[.int .i64 x, .int .i64 y] 51)) (w1.alloc (.cells #[.int .i64 x, .int .i64 y] 51)).drew := (Below.refl _ _).drew
        refine wp_region_chain (fun W => Below (w1.alloc (.cells #[.int .i64 x, .int .i64 y] 51)).heap.size (w1.alloc (.cells #[.int .i64 x, .int .i64 y] 51)) W) [(0, false), (1, false), (2, false), (3, false), (4, false), (5, false), (6, false), (7, false), (8, false), (9, false), (10, false)] (by kernel_rfl) (by kernel_rfl) hI ?_
        repeat (first
          | (refine ChainL.skip (o := ?_) ?_ ?_ ?_; rotate_left; (focus (first | (simp only [List.getElem?_toArray, List.getElem?_cons_succ, List.getElem?_cons_zero]; with_reducible rfl) | (simp only [List.getElem?_toArray, List.getElem?_cons_zero]; with_reducible rfl))); (focus rfl); simp only [Act.put, List.setIfInBounds_toArray, List.set_cons_zero, List.set_cons_succ])
          | (refine ChainL.val (o := ?_) (v := ?_) ?_ ?_ ?_ ?_ ?_; rotate_left 2; (focus (first | (simp only [List.getElem?_toArray, List.getElem?_cons_succ, List.getElem?_cons_zero]; with_reducible rfl) | (simp only [List.getElem?_toArray, List.getElem?_cons_zero]; with_reducible rfl))); (focus (intro _ _ h; cases h)); (focus rfl); (focus (intro w' hJ; obtain ⟨y1, y2⟩ := HF _ (BX.trans (hJ.mono BX.size)) k' x y HX.out; have z0 := hJ.cell (p := ⟨w1.heap.size, 0, none⟩) (by simp); have z1 := hJ.cell (p := ⟨w1.heap.size, 1, none⟩) (by simp); go_simp <;> with_reducible rfl)); simp only [Act.put, List.setIfInBounds_toArray, List.set_cons_zero, List.set_cons_succ]))
        refine ChainL.nil ?_
        go_wp2
        go_ret
        exact ⟨rfl, BX.trans (hI.mono BX.size)⟩

end Go.Proofs.Ytdbhfigdojkceaa
