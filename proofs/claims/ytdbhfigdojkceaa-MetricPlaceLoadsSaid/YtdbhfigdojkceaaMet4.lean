/- The table of metrics, put. -/
import Derived.Test.YtdbhfigdojkceaaMet3
namespace Go.Proofs.Ytdbhfigdojkceaa
open Go Go.RowKit

/-- No table, and the error e. -/
def Refused (w : World) (n : Int) (e : Ending) (w' : World) : Prop := e = .returned (.tuple #[.slice none 0 0, .int .i64 n]) ∧ Below w.heap.size w w'

theorem mput_counts (m : Int) (A : Option Addr) (n c : Nat) (w : World) (hr : cmB n m = false) :
    Calls Try.prog 9 #[.slice A n c, .int .i64 m] w (Refused w 1) := by
  have C := fun w => counts_any n m false hr w
  clear hr
  go_enter Try.func9, Try.ntmps9
  go_wp2_with (first | (go_at_call 25; ((with_reducible refine (C _).mono ?_); rintro e w1 ⟨rfl, b⟩)))
  go_ret2
  exact ⟨rfl, b⟩

theorem metCells_drop : ∀ (L : List (Int × Int)) (j : Nat), (metCells L).drop (j * 2) = metCells (L.drop j)
  | [], j => by simp [metCells]
  | (a, b) :: r, 0 => by simp
  | (a, b) :: r, j + 1 => by
    rw [show (j + 1) * 2 = j * 2 + 1 + 1 by omega]
    simp only [metCells, List.drop_succ_cons]
    exact metCells_drop r j
theorem mets_drop {w : World} {B b o : Nat} {L : List (Int × Int)} (h : Lists w B (some ⟨b, o, none⟩) (metCells L)) (j : Nat) : Lists w B (some ⟨b, o + j * 2, none⟩) (metCells (L.drop j)) := by
  have hp := lists_part h (j * 2) ((metCells L).length)
  rw [List.take_of_length_le (by rw [List.length_drop]; omega), metCells_drop] at hp
  simpa [addr_plain] using hp
theorem hasMet_len {g : FuncId} {lb : Array Value} {r : Bool} {A : Option Addr} {c n m : Nat} {w : World} (h : Calls Try.prog 27 #[.slice A n c, .func (.func g) #[] lb] w fun e w' => e = .returned (.bool r) ∧ Below w.heap.size w w') (hm : m = n) :
    Calls Try.prog 27 #[.slice A m c, .func (.func g) #[] lb] w fun e w' => e = .returned (.bool r) ∧ Below w.heap.size w w' := hm ▸ h

set_option maxRecDepth 100000 in
theorem mput_large (k : Nat) (B : Nat) (A : Option Addr) (c : Nat) (L : List (Int × Int)) (w : World) (hB : B ≤ w.heap.size) (hL : Lists w B A (metCells L)) (hc : cmB L.length ((k : Int) + 1) = true) (hm : L.all okMet = false) :
    Calls Try.prog 9 #[.slice A L.length c, .int .i64 ((k : Int) + 1)] w (Refused w 1) := by
  have C := fun w => counts_any L.length ((k : Int) + 1) true hc w
  have hc' := cmB_true hc
  obtain ⟨⟨x, y⟩, hx⟩ : ∃ x, L[k]? = some x := ⟨L[k]'(by omega), List.getElem?_eq_getElem _⟩
  obtain ⟨hx', hy'⟩ := metCells_at L k x y hx
  obtain ⟨b, o, hA, hbl, hcl⟩ := hL.plain (by intro e; rw [e] at hx'; simp at hx')
  subst hA
  have g0 := hcl (k * 2) _ hx'
  have D := fun W (hb : Below w.heap.size w W) => hasMet_any 28 #[] (fun q => !okMet q) true B _ c L (by rw [← List.not_all_eq_any_not, hm]; rfl) W (Nat.le_trans hB hb.size) (hL.below (hb.mono hB)) (by omega) (enters_of Try.func28 (by kernel_rfl) rfl) (fun W a b _ => tooLarge_any a b W)
  have hk : k < L.length := by omega
  clear hm hc hL hcl hx hx' hy'
  generalize L.length = n at *
  have d1 : (0 : Int) ≤ (k : Int) := by omega
  have d2 : (k : Int) < (n : Int) := by omega
  go_enter Try.func9, Try.ntmps9
  go_wp2_with (first | (go_at_call 25; ((with_reducible refine (C _).mono ?_); rintro e w1 ⟨rfl, b1⟩; have g1 := (b1.cell (p := ⟨b, o + k * 2, none⟩) (Nat.lt_of_lt_of_le hbl hB)).trans g0)) | (go_at_call 27; ((with_reducible refine (D _ (b1.alloc b1.size _)).mono ?_); rintro e w2 ⟨rfl, b2⟩)))
  go_ret2
  exact ⟨rfl, (b1.alloc b1.size _).trans (b2.mono (by have := b1.size; simp <;> omega))⟩

/-- l[m:], whose metrics are held against the shared advance. -/
theorem mput_rest (x : Int) (k : Nat) (B : Nat) (b o : Nat) (L : List (Int × Int)) (r : Bool) (hr : ((L.drop (k + 1)).any fun q => !(q.1 == x)) = r) (p : Nat) (W : World) (hp : W.cell? ⟨p, 0, none⟩ = some (.int .i64 x)) (hlt : p < W.heap.size) (hB : B ≤ W.heap.size) (hL : Lists W B (some ⟨b, o, none⟩) (metCells L)) (hn : L.length ≤ 65535)
    (A' : Option Addr) (m c' : Nat) (hm : m = L.length - (k + 1)) (hA : A' = some ⟨b, o + (k + 1) * 2, none⟩ ∨ L.length ≤ k + 1) :
    Calls Try.prog 27 #[.slice A' m c', .func (.func 26) #[] #[.pointer (some ⟨p, 0, none⟩)]] W fun e w' => e = .returned (.bool r) ∧ Below W.heap.size W w' := by
  have hl : Lists W B A' (metCells (L.drop (k + 1))) := by
    rcases hA with rfl | h
    · exact mets_drop hL (k + 1)
    · rw [List.drop_eq_nil_of_le h]; exact Lists.empty _ _ _
  refine hasMet_len (hasMet_any 26 #[.pointer (some ⟨p, 0, none⟩)] (fun q => !(q.1 == x)) r B A' c' (L.drop (k + 1)) hr W hB hl (by simp; omega) (enters_of Try.func26 (by kernel_rfl) rfl) (fun W1 a b' hb => ?_)) (by rw [List.length_drop]; exact hm)
  exact another_any a b' x _ rfl p W1 ((hb.cell (p := ⟨p, 0, none⟩) hlt).trans hp) (Nat.lt_of_lt_of_le hlt hb.size)

set_option maxRecDepth 100000 in
theorem mput_other (k : Nat) (B : Nat) (A : Option Addr) (c : Nat) (L : List (Int × Int)) (w : World) (hB : B ≤ w.heap.size) (hL : Lists w B A (metCells L)) (hcap : L.length ≤ c) (hc : cmB L.length ((k : Int) + 1) = true) (hm : L.all okMet = true) (ha : ((L.drop (k + 1)).all fun q => q.1 == lastAdv L (k + 1)) = false) :
    Calls Try.prog 9 #[.slice A L.length c, .int .i64 ((k : Int) + 1)] w (Refused w 1) := by
  have C := fun w => counts_any L.length ((k : Int) + 1) true hc w
  have hc' := cmB_true hc
  obtain ⟨⟨x, y⟩, hx⟩ : ∃ x, L[k]? = some x := ⟨L[k]'(by omega), List.getElem?_eq_getElem _⟩
  obtain ⟨hx', hy'⟩ := metCells_at L k x y hx
  obtain ⟨b, o, hA, hbl, hcl⟩ := hL.plain (by intro e; rw [e] at hx'; simp at hx')
  subst hA
  have g0 := hcl (k * 2) _ hx'
  have hk : k < L.length := by omega
  have D := fun W (hb : Below w.heap.size w W) => hasMet_any 28 #[] (fun q => !okMet q) false B _ c L (by rw [← List.not_all_eq_any_not, hm]; rfl) W (Nat.le_trans hB hb.size) (hL.below (hb.mono hB)) (by omega) (enters_of Try.func28 (by kernel_rfl) rfl) (fun W a b _ => tooLarge_any a b W)
  have hsh : lastAdv L (k + 1) = x := by unfold lastAdv; rw [List.getD_eq_getElem?_getD, Nat.add_sub_cancel, hx]; rfl
  rw [hsh] at ha
  have D2 := fun W (hb : Below w.heap.size w W) p (hp : W.cell? ⟨p, 0, none⟩ = some (.int .i64 x)) (hlt : p < W.heap.size) => mput_rest x k B b o L true (by rw [← List.not_all_eq_any_not, ha]; rfl) p W hp hlt (Nat.le_trans hB hb.size) (hL.below (hb.mono hB)) (by omega)
  clear hm hc hcl hx hx' hy' ha hsh
  obtain ⟨n, hnn⟩ : ∃ n, n = L.length := ⟨_, rfl⟩
  rw [← hnn] at hcap hk hc' C D D2 ⊢
  have d1 : (0 : Int) ≤ (k : Int) := by omega
  have d2 : (k : Int) < (n : Int) := by omega
  have d3 : (0 : Int) ≤ (k : Int) + 1 := by omega
  have d4 : (k : Int) + 1 ≤ (n : Int) := by omega
  have d5 : (n : Int) ≤ (c : Int) := by omega
  clear hnn
  by_cases hck : c = k + 1
  · subst hck
    go_enter Try.func9, Try.ntmps9
    go_wp2_with (first | (go_at_call 25; ((with_reducible refine (C _).mono ?_); rintro e w1 ⟨rfl, b1⟩; have g1 := (b1.cell (p := ⟨b, o + k * 2, none⟩) (Nat.lt_of_lt_of_le hbl hB)).trans g0)) | (go_at_call 27; ((with_reducible refine (D _ (b1.alloc b1.size _)).mono ?_); rintro e w2 ⟨rfl, b2⟩; have BW : Below w.heap.size w w2 := (b1.alloc b1.size _).trans (b2.mono (by have := b1.size; simp <;> omega)))) | (go_at_call 27; ((refine (D2 _ BW w1.heap.size ((b2.cell (p := ⟨w1.heap.size, 0, none⟩) (by simp)).trans (by simp)) (by have := b2.size; simp at this; omega) _ _ _ (by omega) (by first | exact .inr (by omega) | exact .inl rfl)).mono ?_); rintro e w3 ⟨rfl, b3⟩)))
    go_ret2
    exact ⟨rfl, BW.trans (b3.mono BW.size)⟩
  · go_enter Try.func9, Try.ntmps9
    go_wp2_with (first | (go_at_call 25; ((with_reducible refine (C _).mono ?_); rintro e w1 ⟨rfl, b1⟩; have g1 := (b1.cell (p := ⟨b, o + k * 2, none⟩) (Nat.lt_of_lt_of_le hbl hB)).trans g0)) | (go_at_call 27; ((with_reducible refine (D _ (b1.alloc b1.size _)).mono ?_); rintro e w2 ⟨rfl, b2⟩; have BW : Below w.heap.size w w2 := (b1.alloc b1.size _).trans (b2.mono (by have := b1.size; simp <;> omega)))) | (go_at_call 27; ((refine (D2 _ BW w1.heap.size ((b2.cell (p := ⟨w1.heap.size, 0, none⟩) (by simp)).trans (by simp)) (by have := b2.size; simp at this; omega) _ _ _ (by omega) (by first | exact .inr (by omega) | exact .inl rfl)).mono ?_); rintro e w3 ⟨rfl, b3⟩)))
    go_ret2
    exact ⟨rfl, BW.trans (b3.mono BW.size)⟩

end Go.Proofs.Ytdbhfigdojkceaa
