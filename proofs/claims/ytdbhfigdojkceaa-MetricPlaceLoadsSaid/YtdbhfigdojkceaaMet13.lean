/- What was put is loaded; layer 6's program does what every program must. -/
import Derived.Test.YtdbhfigdojkceaaMet9
import Derived.Test.YtdbhfigdojkceaaMet10
import Derived.Test.YtdbhfigdojkceaaMet12
namespace Go.Proofs.Ytdbhfigdojkceaa
open Go Go.RowKit

theorem map_getD {f : Nat → Int} {n k : Nat} (h : k < n) : ((List.range n).map f).getD k 0 = f k := by
  rw [List.getD_eq_getElem?_getD, List.getElem?_map, List.getElem?_range h]; rfl
theorem are_of (bs : List Value) (m n : Nat) (L : List (Int × Int)) (hn : n = L.length) (hm : 1 ≤ m) (hmn : m ≤ n) (h : ∀ k q, L[k]? = some q → metAt bs m k = q) : Are (advsTo bs m m) (bearsTo bs m n) L := by
  refine ⟨by rw [bearsTo_len, hn], by rw [advsTo_len]; exact hm, by rw [advsTo_len, bearsTo_len]; exact hmn, fun k q hk => ?_⟩
  have hlt : k < L.length := (List.getElem?_eq_some_iff.1 hk).1
  rw [advsTo_len]
  unfold advsTo bearsTo
  rw [map_getD (by omega), map_getD (by omega)]
  exact h k q hk
theorem are_back (L : List (Int × Int)) (m : Nat) (X : List Value) (hm : 1 ≤ m) (hml : m ≤ L.length) (hp : mayPut L m = true) : Are (advsTo ((putM L m ++ X).take (posM m L.length)) m m) (bearsTo ((putM L m ++ X).take (posM m L.length)) m L.length) L := by
  rw [← putM_len, List.take_left]
  refine are_of _ m L.length L rfl hm hml fun k q hk => ?_
  have := met_back L m k [] q hm hml hp hk
  rwa [List.append_nil] at this
theorem offs_back (long : Bool) (L : List Int) (X : List Value) (h : ∀ y ∈ L, 0 ≤ y ∧ y ≤ 1048576 ∧ okOff long y = true) : offsTo long ((putP long L ++ X).take (L.length * szP long)) L.length = L := by
  rw [← putP_len, List.take_left]
  apply List.ext_getElem?
  intro k
  unfold offsTo
  rw [List.getElem?_map]
  rcases Nat.lt_or_ge k L.length with hk | hk
  · rw [List.getElem?_range hk, List.getElem?_eq_getElem hk]
    have := off_back long L k [] L[k] h (List.getElem?_eq_getElem hk)
    rw [List.append_nil] at this
    simp [this]
  · rw [List.getElem?_eq_none (by simpa using hk), List.getElem?_eq_none hk]; rfl

/-- Bytes were answered: n of them. -/
def GaveN (w : World) (n : Nat) (L : List Value) (e : Ending) (w' : World) : Prop := ∃ A c, e = .returned (.tuple #[.slice A n c, .int .i64 0]) ∧ Lists w' w'.heap.size A L ∧ n ≤ c ∧ Below w.heap.size w w'
theorem Gave.n {w w' : World} {L : List Value} {e : Ending} {n : Nat} (h : Gave w L e w') (hn : L.length = n) : GaveN w n L e w' := by
  obtain ⟨A, c, h1, h2, h3⟩ := h
  obtain ⟨A2, c2, hv, hl, hc⟩ := own_lists h2
  injection hv with e1 _ e3
  subst e1 e3
  rw [hn] at h1 hc
  exact ⟨A, c, h1, hl, hc, h3⟩

def l6 : List (Int × Int) := [(500, 10), (500, -20)]
theorem l6_put (W : World) (A : Option Addr) (hL : Lists W W.heap.size A (metCells l6)) : Calls Try.prog 9 #[.slice A 2 2, .int .i64 1] W (GaveN W 6 (putM l6 1)) := by
  have h : Calls Try.prog 9 #[.slice A 2 2, .int .i64 1] W (Gave W (putM l6 1)) := mput_ok 0 W.heap.size A 2 l6 W (Nat.le_refl _) hL (Nat.le_refl _) (by decide) (by decide) (by decide)
  exact h.mono fun e w' k => k.n rfl
theorem l6_load (W : World) (A : Option Addr) (c : Nat) (hE : Lists W W.heap.size A (putM l6 1)) (hc : 6 ≤ c) : Calls Try.prog 11 #[.slice A 6 c, .int .i64 2, .int .i64 1] W fun e w' => ∃ t, e = .returned (.tuple #[.pointer (some ⟨t, 0, none⟩), .int .i64 0]) ∧ MetAt w' t [500] [10, -20] ∧ Below W.heap.size W w' := by
  have h : Calls Try.prog 11 #[.slice A 6 c, .int .i64 2, .int .i64 1] W (MadeMet W ((putM l6 1).take 6) 1 2) := mload_ok A c (putM l6 1) 2 1 W hE (putM_bytes _ _) hc (by decide) (by decide)
  exact h.mono fun e w' ⟨t, h1, h2, h3⟩ => ⟨t, h1, h2, h3⟩
theorem l6_pput (W : World) (A : Option Addr) (hL : Lists W W.heap.size A (intCells [0, 10, 10])) : Calls Try.prog 15 #[.slice A 3 3, .bool false] W (GaveN W 6 (putP false [0, 10, 10])) := by
  have h : Calls Try.prog 15 #[.slice A 3 3, .bool false] W (Gave W (putP false [0, 10, 10])) := pput_false W.heap.size A 3 [0, 10, 10] W (Nat.le_refl _) hL (by decide) (by decide) (by decide)
  exact h.mono fun e w' k => k.n rfl
theorem l6_pload (W : World) (A : Option Addr) (c : Nat) (hE : Lists W W.heap.size A (putP false [0, 10, 10])) (hc : 6 ≤ c) : Calls Try.prog 17 #[.slice A 6 c, .int .i64 2, .bool false, .int .i64 10] W (MadePl W [0, 10, 10]) := by
  have h : Calls Try.prog 17 #[.slice A 6 c, .int .i64 2, .bool false, .int .i64 10] W (PlPost W 10 (offsTo false ((putP false [0, 10, 10]).take 6) 3)) := pload_false A c (putP false [0, 10, 10]) 2 10 W hE (putP_bytes _ _) hc (by decide) (by decide) (by decide)
  exact h.mono fun e w' k => k.1 (by decide)
theorem l6_at (t : Nat) (W : World) (h : MetAt W t [500] [10, -20]) : Calls Try.prog 21 #[.pointer (some ⟨t, 0, none⟩), .int .i64 1] W (GaveMet W (500, -20) 0) := mat_ok t [500] [10, -20] 1 W h (by decide) (by decide) (by decide) (by decide)
theorem l6_pat0 (p : Nat) (W : World) (h : PlAt W p [0, 10, 10]) : Calls Try.prog 22 #[.pointer (some ⟨p, 0, none⟩), .int .i64 0] W (GavePl W 0 10 0) := pat_ok p [0, 10, 10] 0 W h (by decide) (by decide)
theorem l6_pat2 (p : Nat) (W : World) (h : PlAt W p [0, 10, 10]) : Calls Try.prog 22 #[.pointer (some ⟨p, 0, none⟩), .int .i64 2] W (GavePl W 0 0 62) := pat_none p [0, 10, 10] 2 W h (by decide) (by decide) (by decide)
theorem l6_mlen (t : Nat) (W : World) (h : MetAt W t [500] [10, -20]) : Calls Try.prog 23 #[.pointer (some ⟨t, 0, none⟩)] W fun e w' => e = .returned (.int .i64 2) ∧ W = w' := mlen_any t _ _ W h
theorem l6_plen (p : Nat) (W : World) (h : PlAt W p [0, 10, 10]) : Calls Try.prog 24 #[.pointer (some ⟨p, 0, none⟩)] W fun e w' => e = .returned (.int .i64 2) ∧ W = w' := plen_any p _ W h (by decide) (by decide)

set_option maxRecDepth 100000 in
set_option maxHeartbeats 2000000 in
theorem lives6 (w : World) : Calls Try.prog 8 #[] w fun e w' => e = .returned (.bool true) ∧ Below w.heap.size w w' := by
  go_enter Try.func8, Try.ntmps8
  go_wp2_with (first | (go_at_call 9; ((refine (l6_put _ (some ⟨w.heap.size, 0, none⟩) (lists_new w #[.int .i64 500, .int .i64 10, .int .i64 500, .int .i64 (-20)] _ (metCells l6) (fun j u hu => by simpa [metCells, l6] using hu))).mono ?_); rintro e w1 ⟨A1, c1, rfl, l1, hc1, b1⟩; have B1 : Below w.heap.size w w1 := ((Below.refl _ _).alloc (Nat.le_refl _) _).trans (b1.mono (by simp)))) | (go_at_call 11; ((with_reducible refine (l6_load w1 A1 c1 l1 hc1).mono ?_); rintro e w2 ⟨t, rfl, ht, b2⟩; have B2 := B1.trans (b2.mono B1.size))) | (go_at_call 15; ((refine (l6_pput _ (some ⟨w2.heap.size, 0, none⟩) (lists_new w2 #[.int .i64 0, .int .i64 10, .int .i64 10] _ (intCells [0, 10, 10]) (fun j u hu => by simpa [intCells] using hu))).mono ?_); rintro e w3 ⟨A3, c3, rfl, l3, hc3, b3⟩; have b3' : Below w2.heap.size w2 w3 := ((Below.refl _ _).alloc (Nat.le_refl _) _).trans (b3.mono (by simp)); have ht3 := ht.below b3'; have B3 := B2.trans (b3'.mono B2.size))) | (go_at_call 17; ((with_reducible refine (l6_pload w3 A3 c3 l3 hc3).mono ?_); rintro e w4 ⟨p, rfl, hp, b4⟩; have ht4 := ht3.below b4; have B4 := B3.trans (b4.mono B3.size))) | (go_at_call 21; ((with_reducible refine (l6_at t w4 ht4).mono ?_); rintro e w5 ⟨rfl, b5⟩; have b5' := b5.alloc b5.size (.cells #[.int .i64 500, .int .i64 (-20)] 51))))
  have hp5 := hp.below b5'
  have ht5 := ht4.below b5'
  have B5 := B4.trans (b5'.mono B4.size)
  go_wp2_with (first | (go_at_call 22; ((with_reducible refine (l6_pat0 p _ hp5).mono ?_); rintro e w6 ⟨rfl, b6⟩; have hp6 := hp5.below b6)) | (go_at_call 22; ((with_reducible refine (l6_pat2 p _ hp6).mono ?_); rintro e w7 ⟨rfl, b7⟩; have b67 := b6.trans (b7.mono b6.size); have hp7 := hp6.below b7; have ht7 := ht5.below b67; have g0 := (b67.cell (p := ⟨w5.heap.size, 0, none⟩) (by simp)).trans (World.cell?_alloc_new _ _ _ _); have g1 := (b67.cell (p := ⟨w5.heap.size, 1, none⟩) (by simp)).trans (World.cell?_alloc_new _ _ _ _); have B7 := B5.trans (b67.mono B5.size))) | (go_at_call 23; ((with_reducible refine (l6_mlen t _ ht7).mono ?_); rintro e w' ⟨rfl, rfl⟩)) | (go_at_call 24; ((with_reducible refine (l6_plen p _ hp7).mono ?_); rintro e w' ⟨rfl, rfl⟩)))
  go_ret
  exact ⟨rfl, B7⟩

end Go.Proofs.Ytdbhfigdojkceaa
