/- A reader of bytes. -/
import Derived.Test.YtdbhfigdojkceaaRd3
import Derived.Test.YtdbhfigdojkceaaWr4
import Derived.WalkSpells
namespace Go.Proofs.Ytdbhfigdojkceaa
open Go Go.RowKit
variable {q : Nat → Prop}

/-- A copy in new memory. -/
def GaveClone (w : World) (E : List Value) (e : Ending) (w' : World) : Prop := ∃ A c, e = .returned (.slice A E.length c) ∧ Lists w' w'.heap.size A E ∧ E.length ≤ c ∧ c ≤ 9223372036854775807 ∧ Below w.heap.size w w' ∧ (∀ a, A = some a → w.heap.size ≤ a.block)

set_option maxRecDepth 100000 in
theorem clone_any (A : Option Addr) (n c : Nat) (E : List Value) (w : World) (hE : Lists w w.heap.size A E) (hn : E.length = n) (h8 : Bytes8 E) (hm : n ≤ 140737488355328) :
    Calls Try.prog 50 #[.slice A n c] w fun e w' => GaveClone w E e w' := by
  have q1 := fun w => Lib.run_eql_slice_nil (P := Try.prog) w 23 5 A n c 0 0 Try.underlying23
  cases A with
  | none =>
    obtain rfl : E = [] := hE.nil rfl
    obtain rfl : n = 0 := hn.symm
    have hq : GaveClone w [] (.returned (.slice none 0 0)) w := ⟨none, 0, rfl, Lists.empty _ _ _, Nat.le_refl _, by omega, Below.refl _ _, fun a h => (nomatch h)⟩
    go_enter Try.func50, Try.ntmps50
    go_wp2
    all_goals go_ret
    all_goals exact hq
  | some a =>
    obtain ⟨i0, hi, hz0, hz1, hz2⟩ := info_parts u8Info
    have HN := Lib.hid hn
    clear hn
    go_enter Try.func50, Try.ntmps50
    go_wp2_with (first | (at_builtin; refine wpList_append_src _ rfl (.tmp 5) (.tmp 6) 23 rfl w.heap.size 5 i0 (.int .u8 0) 1 1 Try.underlying23 hi hz0 hz1 hz2 rfl (by decide) (.slice (some ⟨w.heap.size, 0, none⟩) 0 0) 0 [] rfl ⟨rfl, .inr ⟨w.heap.size, 0, #[], rfl, Nat.le_refl _, heap_alloc_new w _, Nat.le_refl _, Nat.zero_le _, rfl, rfl⟩⟩ w.heap.size (some a) n c E rfl (hE.alloc (Nat.le_refl _) _) (by rw [HN.out, Nat.mul_one]) h8.one (by simp only [maxLen]; omega) (by omega) (by simp) ?_; intro v1 w1 hown hg hat; rw [Nat.zero_add, List.nil_append] at hown))
    go_ret
    have hb : Below w.heap.size w w1 := ((Below.refl _ _).alloc (Nat.le_refl _) _).grown hg (by simp) (fun j hj => by cases hj; exact Nat.le_refl _)
    obtain ⟨A2, c2, hv, hl, hc2⟩ := own_lists hown
    have hcm : c2 ≤ maxLen := by
      rcases hown.2 with ⟨h, _⟩ | ⟨g, cap, cur, h, _, _, _, h7, _⟩
      · rw [hv] at h; injection h with _ _ h; omega
      · rw [hv] at h; injection h with _ _ h; omega
    have hlow : ∀ a, A2 = some a → w.heap.size ≤ a.block := by
      rcases hown.2 with ⟨h, _⟩ | ⟨g, cap, cur, h, h1, _⟩
      · rw [hv] at h; injection h with h; intro a ha; rw [h] at ha; cases ha
      · rw [hv] at h; injection h with h; intro a ha; rw [h] at ha; cases ha; exact h1
    unfold maxLen at hcm
    exact ⟨A2, c2, by rw [HN.out]; exact congrArg _ hv, hl, by rw [HN.out]; exact hc2, by omega, hb, hlow⟩

/-- A new reader was answered. -/
def MadeRd (w : World) (E : List Value) (e : Ending) (w' : World) : Prop := ∃ p, e = .returned (.pointer (some ⟨p, 0, none⟩)) ∧ Rd (fun b => w.heap.size ≤ b ∧ b < w'.heap.size) w' p E 0 false ∧ Below w.heap.size w w' ∧ w.heap.size ≤ p

theorem new_any (A : Option Addr) (n c : Nat) (E : List Value) (w : World) (hE : Lists w w.heap.size A E) (hn : E.length = n) (h8 : Bytes8 E) (hm : n ≤ 140737488355328) :
    Calls Try.prog 34 #[.slice A n c] w fun e w' => MadeRd w E e w' := by
  have C := clone_any A n c E w hE hn h8 hm
  clear hE hn
  go_enter Try.func34, Try.ntmps34
  go_wp2_with (first | (go_at_call 50; ((refine C.mono ?_); rintro e w1 ⟨A1, c1, rfl, hl, hc, hc2, hb, hlow⟩)))
  go_ret
  refine ⟨w1.heap.size, rfl, ⟨A1, c1, Blk.new w1 _ _, (hl.alloc (Nat.le_refl _) _).more (by simp), h8, Nat.zero_le _, hc, hc2, fun a ha hx => ?_⟩, hb.alloc hb.size _, hb.size⟩
  have := hl.lt a ha hx
  exact ⟨by omega, hlow a ha, by simp <;> omega⟩

theorem rU16_ok (p : Nat) (bs : List Value) (i x0 x1 : Nat) (w : World) (h : Rd q w p bs i false) (hL : bs.length ≤ 4611686018427387904) (him : i + 2 ≤ bs.length) (h0 : bs[i]? = some (.int .u8 (x0 : Nat))) (h1 : bs[i + 1]? = some (.int .u8 (x1 : Nat))) (l0 : x0 < 256) (l1 : x1 < 256) :
    Calls Try.prog 35 #[.pointer (some ⟨p, 0, none⟩)] w fun e w' => e = .returned (.int .i64 (x0 * 256 + x1 : Nat)) ∧ Rd q w' p bs (i + 2) false ∧ Only w w' [p] := by
  have C := number2_ok p bs i x0 x1 w h hL him h0 h1 l0 l1
  clear h h0 h1
  go_enter Try.func35, Try.ntmps35
  go_wp2_with (first | (go_at_call 51; ((refine C.mono ?_); rintro e w2 ⟨rfl, hr, o2⟩)))
  go_ret
  exact ⟨rfl, hr, o2⟩
theorem rU16_short (p : Nat) (bs : List Value) (i : Nat) (w : World) (h : Rd q w p bs i false) (hL : bs.length ≤ 4611686018427387904) (him : bs.length - i < 2) :
    Calls Try.prog 35 #[.pointer (some ⟨p, 0, none⟩)] w fun e w' => e = .returned (.int .i64 0) ∧ Rd q w' p bs i true ∧ Only w w' [p] := by
  have C := number_short p bs i 2 w h hL (.inr (by omega))
  clear h
  go_enter Try.func35, Try.ntmps35
  go_wp2_with (first | (go_at_call 51; ((refine C.mono ?_); rintro e w2 ⟨rfl, hr, o2⟩)))
  go_ret
  exact ⟨rfl, hr, o2⟩

end Go.Proofs.Ytdbhfigdojkceaa
