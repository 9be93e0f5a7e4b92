/- Numbers within bounds; whether a list of ints, or of metrics, has one of a kind. -/
import Derived.Test.YtdbhfigdojkceaaMetM
import Derived.Test.YtdbhfigdojkceaaOpenNums
import Derived.Test.YtdbhfigdojkceaaChain
import Derived.Test.YtdbhfigdojkceaaConv
import Derived.Lib.Hide
import Derived.Shelf.Abstract
namespace Go.Proofs.Ytdbhfigdojkceaa
open Go Go.RowKit

/-- Is x from a to b? -/
def inB (a b x : Int) : Bool := decide (a ≤ x) && decide (x ≤ b)
theorem inB_yes {a b x : Int} (h1 : a ≤ x) (h2 : x ≤ b) : inB a b x = true := by simp [inB, h1, h2]
theorem inB_true {a b x : Int} (h : inB a b x = true) : a ≤ x ∧ x ≤ b := by simpa [inB] using h
theorem inB_false {a b x : Int} (h : inB a b x = false) : x < a ∨ b < x := by
  by_cases h1 : a ≤ x <;> by_cases h2 : x ≤ b
  · rw [inB_yes h1 h2] at h; cases h
  all_goals omega

theorem beyond_any (a b x : Int) (p q : Nat) (w : World) (hp : w.cell? ⟨p, 0, none⟩ = some (.int .i64 a)) (hq : w.cell? ⟨q, 0, none⟩ = some (.int .i64 b)) :
    Calls Try.prog 53 #[.int .i64 x, .pointer (some ⟨p, 0, none⟩), .pointer (some ⟨q, 0, none⟩)] w fun e w' => e = .returned (.bool (!inB a b x)) ∧ w = w' := by
  by_cases h1 : x < a
  · have e : (!inB a b x) = true := by
      cases h : inB a b x
      · rfl
      · have := inB_true h; omega
    have E := Lib.hid e
    clear e
    go_enter Try.func53, Try.ntmps53
    go_wp2
    go_ret
    exact ⟨congrArg (fun r => Ending.returned (.bool r)) E.out.symm, rfl⟩
  · by_cases h2 : b < x
    · have e : (!inB a b x) = true := by
        cases h : inB a b x
        · rfl
        · have := inB_true h; omega
      have E := Lib.hid e
      clear e
      go_enter Try.func53, Try.ntmps53
      go_wp2
      go_ret
      exact ⟨congrArg (fun r => Ending.returned (.bool r)) E.out.symm, rfl⟩
    · have e : (!inB a b x) = false := by rw [inB_yes (by omega) (by omega)]; rfl
      have E := Lib.hid e
      clear e
      go_enter Try.func53, Try.ntmps53
      go_wp2
      go_ret
      exact ⟨congrArg (fun r => Ending.returned (.bool r)) E.out.symm, rfl⟩

/-- What IndexFunc answers of a list in which a predicate holds of one, or of none. -/
def Found {α : Type} (w : World) (L : List α) (p : α → Bool) (e : Ending) (w' : World) : Prop := ∃ r : Int, e = .returned (.int .i64 r) ∧ decide (0 ≤ r) = L.any p ∧ Below w.heap.size w w'
theorem any_snoc {α : Type} {L : List α} {p : α → Bool} {k : Nat} {x : α} (hx : L[k]? = some x) (h : (L.take k).any p = false) (ht : p x = false) : (L.take (k + 1)).any p = false := by
  rw [List.take_add_one, hx]
  simp only [Option.toList_some, List.any_append, h, List.any_cons, ht, List.any_nil, Bool.or_self]
theorem any_yes {α : Type} {L : List α} {p : α → Bool} {k : Nat} {x : α} (hx : L[k]? = some x) (ht : p x = true) : L.any p = true := by
  rw [List.any_eq_true]
  exact ⟨x, List.mem_of_getElem? hx, ht⟩

set_option maxRecDepth 100000 in
theorem findInt_any (g : FuncId) (lb : Array Value) (p : Int → Bool) (B : Nat) (A : Option Addr) (c : Nat) (L : List Int) (w : World) (hB : B ≤ w.heap.size) (hL : Lists w B A (intCells L)) (hn : L.length ≤ 1099511627776)
    (eg : ∀ args w, (callFunc g args).run Try.prog w = .ok (.enter g args) w)
    (hp : ∀ (W : World) (x : Int), x ∈ L → Below w.heap.size w W → Calls Try.prog g (#[.int .i64 x] ++ lb) W fun e w' => e = .returned (.bool (p x)) ∧ Below W.heap.size W w') :
    Calls Try.prog 54 #[.slice A L.length c, .func (.func g) #[] lb] w fun e w' => Found w L p e w' := by
  have HL := Lib.hid hL
  have HP := Lib.hid hp
  clear hL hp
  obtain ⟨n, hnn⟩ : ∃ n, n = L.length := ⟨_, rfl⟩
  rw [← hnn] at hn ⊢
  have HN := Lib.hid hnn
  clear hnn
  go_enter Try.func54, Try.ntmps54
  go_wp2
  go_loopw [8] (fun i wr => ∃ k : Nat, k ≤ n ∧ i = .int .i64 k ∧ Hid ((L.take k).any p = false) ∧ Below w.heap.size w wr) (fun i _ => n - (intOf i).toNat)
  case atStart => exact ⟨0, Nat.zero_le _, rfl, Lib.hid rfl, Below.refl _ _⟩
  case round =>
    obtain ⟨k, hk, rfl, HK, hb⟩ := hrel
    by_cases hlt : k < n
    · have d1 : decide ((k : Int) < (n : Int)) = true := by simp; omega
      obtain ⟨x, hx⟩ : ∃ x, L[k]? = some x := ⟨L[k]'(by rw [← HN.out]; exact hlt), List.getElem?_eq_getElem _⟩
      have hx' : (intCells L)[k]? = some (.int .i64 x) := by unfold intCells; rw [List.getElem?_map, hx]; rfl
      obtain ⟨b, o, hA, hbl, hcl⟩ := HL.out.plain (by intro e; rw [e] at hx'; simp at hx')
      subst hA
      have g0 := (hb.cell (p := ⟨b, o + k, none⟩) (Nat.lt_of_lt_of_le hbl hB)).trans (hcl k _ hx')
      have C := HP.out wr x (List.mem_of_getElem? hx) hb
      have HX := Lib.hid hx
      clear hcl hx hx'
      cases ht : p x
      · rw [ht] at C
        have HT := Lib.hid (any_snoc HX.out HK.out ht)
        clear ht
        go_wp2_with (go_at_fn g; ((with_reducible refine (C).mono ?_); rintro e w1 ⟨rfl, b1⟩))
        go_roundw
        case rel => exact ⟨k + 1, by omega, by go_num, HT, hb.trans (b1.mono hb.size)⟩
        case measure => simp [intOf]; omega
      · rw [ht] at C
        have HT := Lib.hid (any_yes (L := L) (p := p) HX.out ht)
        clear ht
        go_wp2_with (go_at_fn g; ((with_reducible refine (C).mono ?_); rintro e w1 ⟨rfl, b1⟩))
        go_ret
        exact ⟨(k : Int), rfl, by rw [HT.out]; simp, hb.trans (b1.mono hb.size)⟩
    · have d1 : decide ((k : Int) < (n : Int)) = false := by simp; omega
      have HT := Lib.hid (show L.any p = false by have := HK.out; rwa [List.take_of_length_le (by have := HN.out; omega)] at this)
      go_wp2
      go_ret
      exact ⟨-1, rfl, by rw [HT.out]; rfl, hb⟩

theorem hasInt_any (g : FuncId) (lb : Array Value) (p : Int → Bool) (B : Nat) (A : Option Addr) (c : Nat) (L : List Int) (w : World) (hB : B ≤ w.heap.size) (hL : Lists w B A (intCells L)) (hn : L.length ≤ 1099511627776)
    (eg : ∀ args w, (callFunc g args).run Try.prog w = .ok (.enter g args) w)
    (hp : ∀ (W : World) (x : Int), x ∈ L → Below w.heap.size w W → Calls Try.prog g (#[.int .i64 x] ++ lb) W fun e w' => e = .returned (.bool (p x)) ∧ Below W.heap.size W w') :
    Calls Try.prog 43 #[.slice A L.length c, .func (.func g) #[] lb] w fun e w' => e = .returned (.bool (L.any p)) ∧ Below w.heap.size w w' := by
  have C := findInt_any g lb p B A c L w hB hL hn eg hp
  clear hL hp eg
  go_enter Try.func43, Try.ntmps43
  go_wp2_with (first | (go_at_call 54; ((with_reducible refine (C).mono ?_); rintro e w1 ⟨r, rfl, hr, b⟩)))
  go_ret
  refine ⟨?_, b⟩
  rw [← hr]
  rfl

set_option maxRecDepth 100000 in
/-- within, of one number. -/
theorem within1_any (a b x : Int) (B : Nat) (A : Option Addr) (c : Nat) (w : World) (hB : B ≤ w.heap.size) (hL : Lists w B A [.int .i64 x]) :
    Calls Try.prog 40 #[.int .i64 a, .int .i64 b, .slice A 1 c] w fun e w' => e = .returned (.bool (inB a b x)) ∧ Below w.heap.size w w' := by
  have e1 : ([x].any fun x => !inB a b x) = !inB a b x := by simp
  have ee : Enters Try.prog 53 := enters_of Try.func53 (by kernel_rfl) rfl
  have C : ∀ (W : World), Below w.heap.size w W → ∀ lb : Array Value, (∀ (W1 : World) (y : Int), Below W.heap.size W W1 → Calls Try.prog 53 (#[.int .i64 y] ++ lb) W1 fun e w' => e = .returned (.bool (!inB a b y)) ∧ Below W1.heap.size W1 w') →
      Calls Try.prog 43 #[.slice A 1 c, .func (.func 53) #[] lb] W fun e w' => e = .returned (.bool (!inB a b x)) ∧ Below W.heap.size W w' := by
    intro W b1 lb hp
    have h1 : Lists W B A (intCells [x]) := hL.below (b1.mono hB)
    have h2 := hasInt_any 53 lb (fun x => !inB a b x) B A c [x] W (Nat.le_trans hB b1.size) h1 (by simp) ee (fun W1 y _ hb => hp W1 y hb)
    rw [e1] at h2
    exact h2
  clear hL ee
  cases hr : inB a b x
  all_goals
    rw [hr] at C
    clear hr
    go_enter Try.func40, Try.ntmps40
    go_wp2_with (first | (go_at_call 43; ((refine (C _ (((Below.refl _ _).alloc (Nat.le_refl _) _).alloc (by simp) _) #[.pointer (some ⟨w.heap.size, 0, none⟩), .pointer (some ⟨w.heap.size + 1, 0, none⟩)] (fun W1 y b1 => (beyond_any a b y w.heap.size (w.heap.size + 1) W1 ((b1.cell (p := ⟨w.heap.size, 0, none⟩) (by simp <;> omega)).trans (by simp)) ((b1.cell (p := ⟨w.heap.size + 1, 0, none⟩) (by simp)).trans (by simp))).mono (fun e w2 ⟨h1, h2⟩ => ⟨h1, h2 ▸ Below.refl _ _⟩))).mono ?_); rintro e w1 ⟨rfl, b⟩)))
    go_ret
    exact ⟨rfl, (((Below.refl _ _).alloc (Nat.le_refl _) _).alloc (by simp) _).trans (b.mono (by simp <;> omega))⟩

end Go.Proofs.Ytdbhfigdojkceaa
