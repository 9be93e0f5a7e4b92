/- A reader's next bytes. -/
import Derived.Test.YtdbhfigdojkceaaRd1
namespace Go.Proofs.Ytdbhfigdojkceaa
open Go Go.RowKit
variable {q : Nat → Prop}

/-- A reader at block p: its bytes, where it stands, whether it is bad. -/
def Rd (q : Nat → Prop) (w : World) (p : Nat) (bs : List Value) (i : Nat) (bad : Bool) : Prop :=
  ∃ (A : Option Addr) (c : Nat), Blk w p 91 #[.slice A bs.length c, .int .i64 (i : Nat), .bool bad] ∧ Lists w w.heap.size A bs ∧ Bytes8 bs ∧ i ≤ bs.length ∧ bs.length ≤ c ∧ c ≤ 9223372036854775807 ∧ ∀ a, A = some a → bs ≠ [] → a.block ≠ p ∧ q a.block

theorem Rd.lt {w : World} {p i : Nat} {bs : List Value} {bad : Bool} (h : Rd q w p bs i bad) : p < w.heap.size := by
  obtain ⟨_, _, hb, _⟩ := h
  exact hb.lt
theorem Rd.below {w w1 : World} {p i : Nat} {bs : List Value} {bad : Bool} (h : Rd q w p bs i bad) (k : Below w.heap.size w w1) : Rd q w1 p bs i bad := by
  obtain ⟨A, c, hb, hl, h1⟩ := h
  exact ⟨A, c, hb.below k, (hl.below k).more k.size, h1⟩
/-- The reader moved on, or went bad: nothing else has turned. -/
theorem Rd.move {w w1 : World} {p : Nat} {bs : List Value} {A : Option Addr} {c j : Nat} {bad1 : Bool} (hl : Lists w w.heap.size A bs) (h8 : Bytes8 bs) (hc : bs.length ≤ c) (hc2 : c ≤ 9223372036854775807) (hne : ∀ a, A = some a → bs ≠ [] → a.block ≠ p ∧ q a.block)
    (hb : Blk w1 p 91 #[.slice A bs.length c, .int .i64 (j : Nat), .bool bad1]) (o : Only w w1 [p]) (hj : j ≤ bs.length) : Rd q w1 p bs j bad1 :=
  ⟨A, c, hb, (lists_only hl (Nat.le_refl _) o (fun a ha hx e => by simp at e; exact (hne a ha hx).1 e)).more o.size, h8, hj, hc, hc2, hne⟩

/-- A reader stays where other blocks are changed. -/
theorem Rd.only {w w1 : World} {p i : Nat} {bs : List Value} {bad : Bool} {fp : List Nat} (h : Rd q w p bs i bad) (k : Only w w1 fp) (hp : p ∉ fp) (hq : ∀ b ∈ fp, ¬ q b) : Rd q w1 p bs i bad := by
  obtain ⟨A, c, hb, hl, h8, hi, hc, hc2, hne⟩ := h
  exact ⟨A, c, hb.only k hp, (lists_only hl (Nat.le_refl _) k (fun a ha hx e => hq _ e (hne a ha hx).2)).more k.size, h8, hi, hc, hc2, hne⟩
theorem Rd.weaken {w : World} {p i : Nat} {bs : List Value} {bad : Bool} {q1 : Nat → Prop} (h : Rd q w p bs i bad) (hq : ∀ b, q b → q1 b) : Rd q1 w p bs i bad := by
  obtain ⟨A, c, hb, hl, h8, hi, hc, hc2, hne⟩ := h
  exact ⟨A, c, hb, hl, h8, hi, hc, hc2, fun a ha hx => ⟨(hne a ha hx).1, hq _ (hne a ha hx).2⟩⟩
/-- What next answers: the next bytes. -/
def GaveNext (q : Nat → Prop) (w : World) (p : Nat) (bs : List Value) (i m : Nat) (e : Ending) (w' : World) : Prop :=
  ∃ A, e = .returned (.slice A m m) ∧ Lists w' w'.heap.size A ((bs.drop i).take m) ∧ Rd q w' p bs (i + m) false ∧ Only w w' [p]

set_option maxRecDepth 100000 in
theorem next_ok (p : Nat) (bs : List Value) (i m : Nat) (w : World) (h : Rd q w p bs i false) (hL : bs.length ≤ 4611686018427387904) (him : i + m ≤ bs.length) :
    Calls Try.prog 60 #[.pointer (some ⟨p, 0, none⟩), .int .i64 (m : Nat)] w fun e w' => GaveNext q w p bs i m e w' := by
  obtain ⟨A, c, hb, hl, h8, hi, hc, hc2, hne⟩ := id h
  have C1 := isBad_low p bs.length c i A false w hb
  have C2 := left_low p bs.length c i A w hb hL hi
  have HL1 := Lib.hid hl
  have H8 := Lib.hid h8
  have HNE := Lib.hid hne
  have m0 : ¬ (m : Int) < 0 := by omega
  have m1 : decide (((bs.length - i : Nat) : Int) < (m : Int)) = false := by simp; omega
  have s1 : IntKind.i64.wrap ((i : Int) + (m : Int)) = (i : Int) + (m : Int) := IntWalk.i64_in _ (by omega)
  have s2 : wrap64 ((i : Int) + (m : Int)) = (i : Int) + (m : Int) := by unfold wrap64; omega
  have F := hb.kb; simp only [KB, CellsAt, Nat.zero_add, Nat.reduceAdd, and_true] at F
  have hlen : ((bs.drop i).take m).length = m := by simp only [List.length_take, List.length_drop]; omega
  have HLEN := Lib.hid hlen
  have hI : (0 : Int) ≤ (i : Int) := by omega
  have hS : ∀ w1, Below w.heap.size w w1 → Only w (w1.setCell ⟨p, 1, none⟩ (.int .i64 ((i : Int) + (m : Int)))) [p] := fun w1 b1 => (Only.of_below b1 [p]).set (.inl (by simp)) _
  have HLS := fun w1 (b1 : Below w.heap.size w w1) => (lists_only hl (Nat.le_refl _) (hS w1 b1) (fun a ha hx e => by simp at e; exact (hne a ha hx).1 e)).more (hS w1 b1).size
  clear h hl h8 hne hlen
  go_enter Try.func60, Try.ntmps60
  go_wp2_with (first | (go_at_call 62; ((with_reducible refine (C1).mono ?_); rintro e w' ⟨rfl, rfl⟩)) | (go_at_call 63; ((with_reducible refine (C2).mono ?_); rintro e w1 ⟨rfl, b1⟩; have hb1 := hb.below b1; have F1 := hb1.kb; simp only [KB, CellsAt, Nat.zero_add, Nat.reduceAdd, and_true] at F1)) | (go_at_call 64; ((refine (part_any A bs.length c i m bs _ rfl (HLS _ b1) hc hc2 him).mono ?_); rintro e w2 ⟨A2, rfl, l2, rfl⟩; rw [HLEN.out])))
  go_ret
  refine ⟨A2, rfl, l2, Rd.move HL1.out H8.out hc hc2 HNE.out ?_ (hS _ b1) him, hS _ b1⟩
  have hb2 := hb1.set 1 (.int .i64 ((i : Int) + (m : Int)))
  rw [show ((i + m : Nat) : Int) = (i : Int) + (m : Int) by omega]
  exact hb2

set_option maxRecDepth 100000 in
theorem next_short (p : Nat) (bs : List Value) (i : Nat) (m : Int) (w : World) (h : Rd q w p bs i false) (hL : bs.length ≤ 4611686018427387904) (him : m < 0 ∨ ((bs.length - i : Nat) : Int) < m) :
    Calls Try.prog 60 #[.pointer (some ⟨p, 0, none⟩), .int .i64 m] w fun e w' => e = .returned (.slice none 0 0) ∧ Rd q w' p bs i true ∧ Only w w' [p] := by
  obtain ⟨A, c, hb, hl, h8, hi, hc, hc2, hne⟩ := id h
  have C1 := isBad_low p bs.length c i A false w hb
  have C2 := left_low p bs.length c i A w hb hL hi
  have HL1 := Lib.hid hl
  have H8 := Lib.hid h8
  have HNE := Lib.hid hne
  have F := hb.kb; simp only [KB, CellsAt, Nat.zero_add, Nat.reduceAdd, and_true] at F
  clear h hl h8 hne
  by_cases m0 : m < 0
  · go_enter Try.func60, Try.ntmps60
    go_wp2_with (first | (go_at_call 62; ((with_reducible refine (C1).mono ?_); rintro e w' ⟨rfl, rfl⟩)))
    go_ret
    have o : Only w (w.setCell ⟨p, 2, none⟩ (.bool true)) [p] := (Only.refl w [p]).set (.inl (by simp)) _
    exact ⟨rfl, Rd.move HL1.out H8.out hc hc2 HNE.out (hb.set 2 (.bool true)) o hi, o⟩
  · have hm : ((bs.length - i : Nat) : Int) < m := him.resolve_left m0
    have m1 : decide (((bs.length - i : Nat) : Int) < m) = true := by simpa using hm
    clear him
    go_enter Try.func60, Try.ntmps60
    go_wp2_with (first | (go_at_call 62; ((with_reducible refine (C1).mono ?_); rintro e w' ⟨rfl, rfl⟩)) | (go_at_call 63; ((with_reducible refine (C2).mono ?_); rintro e w1 ⟨rfl, b1⟩; have hb1 := hb.below b1; have F1 := hb1.kb; simp only [KB, CellsAt, Nat.zero_add, Nat.reduceAdd, and_true] at F1)))
    go_ret
    have o : Only w (w1.setCell ⟨p, 2, none⟩ (.bool true)) [p] := (Only.of_below b1 [p]).set (.inl (by simp)) _
    exact ⟨rfl, Rd.move HL1.out H8.out hc hc2 HNE.out (hb1.set 2 (.bool true)) o hi, o⟩

theorem next_bad (p : Nat) (bs : List Value) (i : Nat) (m : Int) (w : World) (h : Rd q w p bs i true) :
    Calls Try.prog 60 #[.pointer (some ⟨p, 0, none⟩), .int .i64 m] w fun e w' => e = .returned (.slice none 0 0) ∧ w = w' := by
  obtain ⟨A, c, hb, _⟩ := h
  have C1 := isBad_low p bs.length c i A true w hb
  clear hb
  go_enter Try.func60, Try.ntmps60
  go_wp2_with (first | (go_at_call 62; ((with_reducible refine (C1).mono ?_); rintro e w' ⟨rfl, rfl⟩)))
  go_ret
  exact ⟨rfl, rfl⟩

end Go.Proofs.Ytdbhfigdojkceaa
