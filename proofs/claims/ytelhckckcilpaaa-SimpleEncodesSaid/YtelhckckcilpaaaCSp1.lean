/- Part 2 of the proof: Rd2, Rd3, Wr1, Wr2, Wr3, Wr4, Rd4. -/
import Derived.LoopTactic
import Derived.Lib.Hide
import Derived.Outline
import Derived.Deep.RegionLaw
import Derived.WalkSpells
import Derived.Test.YtelhckckcilpaaaCSp0

namespace Go.Proofs.Ytelhckckcilpaaa
open Go Go.RowKit
variable {q : Nat → Prop}

/-- A reader at block p: its bytes, where it stands, whether it is bad. -/
def Rd (q : Nat → Prop) (w : World) (p : Nat) (bs : List Value) (i : Nat) (bad : Bool) : Prop :=
  ∃ (A : Option Addr) (c : Nat), Blk w p 90 #[.slice A bs.length c, .int .i64 (i : Nat), .bool bad] ∧ Lists w w.heap.size A bs ∧ Bytes8 bs ∧ i ≤ bs.length ∧ bs.length ≤ c ∧ c ≤ 9223372036854775807 ∧ ∀ a, A = some a → bs ≠ [] → a.block ≠ p ∧ q a.block

theorem Rd.lt {w : World} {p i : Nat} {bs : List Value} {bad : Bool} (h : Rd q w p bs i bad) : p < w.heap.size := by
  obtain ⟨_, _, hb, _⟩ := h
  exact hb.lt
theorem Rd.below {w w1 : World} {p i : Nat} {bs : List Value} {bad : Bool} (h : Rd q w p bs i bad) (k : Below w.heap.size w w1) : Rd q w1 p bs i bad := by
  obtain ⟨A, c, hb, hl, h1⟩ := h
  exact ⟨A, c, hb.below k, (hl.below k).more k.size, h1⟩
/-- The reader moved on, or went bad: nothing else has turned. -/
theorem Rd.move {w w1 : World} {p : Nat} {bs : List Value} {A : Option Addr} {c j : Nat} {bad1 : Bool} (hl : Lists w w.heap.size A bs) (h8 : Bytes8 bs) (hc : bs.length ≤ c) (hc2 : c ≤ 9223372036854775807) (hne : ∀ a, A = some a → bs ≠ [] → a.block ≠ p ∧ q a.block)
    (hb : Blk w1 p 90 #[.slice A bs.length c, .int .i64 (j : Nat), .bool bad1]) (o : Only w w1 [p]) (hj : j ≤ bs.length) : Rd q w1 p bs j bad1 :=
  ⟨A, c, hb, (lists_only hl (Nat.le_refl _) o (fun a ha hx e => by simp at e; exact (hne a ha hx).1 e)).more o.size, h8, hj, hc, hc2, hne⟩

/-- A reader stays where other blocks are changed. -/
theorem Rd.only {w w1 : World} {p i : Nat} {bs : List Value} {bad : Bool} {fp : List Nat} (h : Rd q w p bs i bad) (k : Only w w1 fp) (hp : p ∉ fp) (hq : ∀ b ∈ fp, ¬ q b) : Rd q w1 p bs i bad := by
  obtain ⟨A, c, hb, hl, h8, hi, hc, hc2, hne⟩ := h
  exact ⟨A, c, hb.only k hp, (lists_only hl (Nat.le_refl _) k (fun a ha hx e => hq _ e (hne a ha hx).2)).more k.size, h8, hi, hc, hc2, hne⟩
theorem Rd.weaken {w : World} {p i : Nat} {bs : List Value} {bad : Bool} {q1 : Nat → Prop} (h : Rd q w p bs i bad) (hq : ∀ b, q b → q1 b) : Rd q1 w p bs i bad := by
  obtain ⟨A, c, hb, hl, h8, hi, hc, hc2, hne⟩ := h
  exact ⟨A, c, hb, hl, h8, hi, hc, hc2, fun a ha hx => ⟨(hne a ha hx).1, hq _ (hne a ha hx).2⟩⟩
/-- What next answers: the next bytes. -/
def GaveNext (q : Nat → Prop) (w : World) (p : Nat) (bs : List Value) (i m : Nat) (e : Ending) (w' : World) : Prop :=
  ∃ A, e = .returned (.slice A m m) ∧ Lists w' w'.heap.size A ((bs.drop i).take m) ∧ Rd q w' p bs (i + m) false ∧ Only w w' [p]

set_option maxRecDepth 100000 in
theorem next_ok (p : Nat) (bs : List Value) (i m : Nat) (w : World) (h : Rd q w p bs i false) (hL : bs.length ≤ 4611686018427387904) (him : i + m ≤ bs.length) :
    Calls Try.prog 56 #[.pointer (some ⟨p, 0, none⟩), .int .i64 (m : Nat)] w fun e w' => GaveNext q w p bs i m e w' := by
  obtain ⟨A, c, hb, hl, h8, hi, hc, hc2, hne⟩ := id h
  have C1 := isBad_low p bs.length c i A false w hb
  have C2 := left_low p bs.length c i A w hb hL hi
  have HL1 := Lib.hid hl
  have H8 := Lib.hid h8
  have HNE := Lib.hid hne
  have m0 : ¬ (m : Int) < 0 := by omega
  have m1 : decide (((bs.length - i : Nat) : Int) < (m : Int)) = false := by simp; omega
  have s1 : IntKind.i64.wrap ((i : Int) + (m : Int)) = (i : Int) + (m : Int) := IntWalk.i64_in _ (by omega)
  have s2 : wrap64 ((i : Int) + (m : Int)) = (i : Int) + (m : Int) := by unfold wrap64; omega
  have F := hb.kb; simp only [KB, CellsAt, Nat.zero_add, Nat.reduceAdd, and_true] at F
  have hlen : ((bs.drop i).take m).length = m := by simp only [List.length_take, List.length_drop]; omega
  have HLEN := Lib.hid hlen
  have hI : (0 : Int) ≤ (i : Int) := by omega
  have hS : ∀ w1, Below w.heap.size w w1 → Only w (w1.setCell ⟨p, 1, none⟩ (.int .i64 ((i : Int) + (m : Int)))) [p] := fun w1 b1 => (Only.of_below b1 [p]).set (.inl (by simp)) _
  have HLS := fun w1 (b1 : Below w.heap.size w w1) => (lists_only hl (Nat.le_refl _) (hS w1 b1) (fun a ha hx e => by simp at e; exact (hne a ha hx).1 e)).more (hS w1 b1).size
  clear h hl h8 hne hlen
  go_enter Try.func56, Try.ntmps56
  go_wp2_with (first | (go_at_call 63; ((with_reducible refine (C1).mono ?_); rintro e w' ⟨rfl, rfl⟩)) | (go_at_call 83; ((with_reducible refine (C2).mono ?_); rintro e w1 ⟨rfl, b1⟩; have hb1 := hb.below b1; have F1 := hb1.kb; simp only [KB, CellsAt, Nat.zero_add, Nat.reduceAdd, and_true] at F1)) | (go_at_call 84; ((refine (part_any A bs.length c i m bs _ rfl (HLS _ b1) hc hc2 him).mono ?_); rintro e w2 ⟨A2, rfl, l2, rfl⟩; rw [HLEN.out])))
  go_ret
  refine ⟨A2, rfl, l2, Rd.move HL1.out H8.out hc hc2 HNE.out ?_ (hS _ b1) him, hS _ b1⟩
  have hb2 := hb1.set 1 (.int .i64 ((i : Int) + (m : Int)))
  rw [show ((i + m : Nat) : Int) = (i : Int) + (m : Int) by omega]
  exact hb2

set_option maxRecDepth 100000 in
theorem next_short (p : Nat) (bs : List Value) (i : Nat) (m : Int) (w : World) (h : Rd q w p bs i false) (hL : bs.length ≤ 4611686018427387904) (him : m < 0 ∨ ((bs.length - i : Nat) : Int) < m) :
    Calls Try.prog 56 #[.pointer (some ⟨p, 0, none⟩), .int .i64 m] w fun e w' => e = .returned (.slice none 0 0) ∧ Rd q w' p bs i true ∧ Only w w' [p] := by
  obtain ⟨A, c, hb, hl, h8, hi, hc, hc2, hne⟩ := id h
  have C1 := isBad_low p bs.length c i A false w hb
  have C2 := left_low p bs.length c i A w hb hL hi
  have HL1 := Lib.hid hl
  have H8 := Lib.hid h8
  have HNE := Lib.hid hne
  have F := hb.kb; simp only [KB, CellsAt, Nat.zero_add, Nat.reduceAdd, and_true] at F
  clear h hl h8 hne
  by_cases m0 : m < 0
  · go_enter Try.func56, Try.ntmps56
    go_wp2_with (first | (go_at_call 63; ((with_reducible refine (C1).mono ?_); rintro e w' ⟨rfl, rfl⟩)))
    go_ret
    have o : Only w (w.setCell ⟨p, 2, none⟩ (.bool true)) [p] := (Only.refl w [p]).set (.inl (by simp)) _
    exact ⟨rfl, Rd.move HL1.out H8.out hc hc2 HNE.out (hb.set 2 (.bool true)) o hi, o⟩
  · have hm : ((bs.length - i : Nat) : Int) < m := him.resolve_left m0
    have m1 : decide (((bs.length - i : Nat) : Int) < m) = true := by simpa using hm
    clear him
    go_enter Try.func56, Try.ntmps56
    go_wp2_with (first | (go_at_call 63; ((with_reducible refine (C1).mono ?_); rintro e w' ⟨rfl, rfl⟩)) | (go_at_call 83; ((with_reducible refine (C2).mono ?_); rintro e w1 ⟨rfl, b1⟩; have hb1 := hb.below b1; have F1 := hb1.kb; simp only [KB, CellsAt, Nat.zero_add, Nat.reduceAdd, and_true] at F1)))
    go_ret
    have o : Only w (w1.setCell ⟨p, 2, none⟩ (.bool true)) [p] := (Only.of_below b1 [p]).set (.inl (by simp)) _
    exact ⟨rfl, Rd.move HL1.out H8.out hc hc2 HNE.out (hb1.set 2 (.bool true)) o hi, o⟩

theorem next_bad (p : Nat) (bs : List Value) (i : Nat) (m : Int) (w : World) (h : Rd q w p bs i true) :
    Calls Try.prog 56 #[.pointer (some ⟨p, 0, none⟩), .int .i64 m] w fun e w' => e = .returned (.slice none 0 0) ∧ w = w' := by
  obtain ⟨A, c, hb, _⟩ := h
  have C1 := isBad_low p bs.length c i A true w hb
  clear hb
  go_enter Try.func56, Try.ntmps56
  go_wp2_with (first | (go_at_call 63; ((with_reducible refine (C1).mono ?_); rintro e w' ⟨rfl, rfl⟩)))
  go_ret
  exact ⟨rfl, rfl⟩

end Go.Proofs.Ytelhckckcilpaaa

namespace Go.Proofs.Ytelhckckcilpaaa
open Go Go.RowKit
variable {q : Nat → Prop}

theorem or_nat (a b : Nat) (ha : a < 4611686018427387904) (hb : b < 4611686018427387904) : bits .or .i64 (a : Int) (b : Int) = ((a ||| b : Nat) : Int) := by
  have hx : a ||| b < 2 ^ 62 := Nat.or_lt_two_pow (by omega) (by omega)
  have h1 : (BitVec.ofInt 64 (a : Int)).toNat = a := by
    rw [BitVec.ofInt_natCast, BitVec.toNat_ofNat]; exact Nat.mod_eq_of_lt (by omega)
  have h2 : (BitVec.ofInt 64 (b : Int)).toNat = b := by
    rw [BitVec.ofInt_natCast, BitVec.toNat_ofNat]; exact Nat.mod_eq_of_lt (by omega)
  show IntKind.i64.wrap ((BitVec.ofInt 64 (a : Int) ||| BitVec.ofInt 64 (b : Int)).toNat : Int) = _
  rw [BitVec.toNat_or, h1, h2]
  exact IntWalk.i64_in _ (by omega)
theorem or_first (x : Nat) (hx : x < 256) : bits .or .i64 0 (x : Int) = (x : Int) := by
  have := or_nat 0 x (by omega) (by omega)
  rwa [Nat.zero_or] at this
theorem or_next (a x : Nat) (ha : a < 1099511627776) (hx : x < 256) : bits .or .i64 (wrap64 ((a : Int) * 256)) (x : Int) = ((a * 256 + x : Nat) : Int) := by
  have e1 : wrap64 ((a : Int) * 256) = ((a * 256 : Nat) : Int) := by unfold wrap64; omega
  rw [e1, or_nat (a * 256) x (by omega) (by omega), show a * 256 = 2 ^ 8 * a by omega, ← Nat.two_pow_add_eq_or_of_lt (by omega)]

set_option maxRecDepth 100000 in
theorem number1_ok (p : Nat) (bs : List Value) (i x0 : Nat) (w : World) (h : Rd q w p bs i false) (hL : bs.length ≤ 4611686018427387904) (him : i + 1 ≤ bs.length) (h0 : bs[i]? = some (.int .u8 (x0 : Nat))) (l0 : x0 < 256) :
    Calls Try.prog 57 #[.pointer (some ⟨p, 0, none⟩), .int .i64 1] w fun e w' => e = .returned (.int .i64 (x0 : Nat)) ∧ Rd q w' p bs (i + 1) false ∧ Only w w' [p] := by
  have C := next_ok p bs i 1 w h hL him
  have e : (bs.drop i).take 1 = [.int .u8 (x0 : Nat)] := by
    apply List.ext_getElem?
    intro j
    rw [List.getElem?_take, List.getElem?_drop]
    match j with
    | 0 => simpa using h0
    | j + 1 => simp <;> omega
  clear h h0
  have E := Lib.hid e
  clear e
  go_enter Try.func57, Try.ntmps57
  go_wp2_with (first | (go_at_call 56; ((refine C.mono ?_); rintro e w2 ⟨A2, rfl, ll, hr, o2⟩; rw [E.out] at ll; obtain ⟨b, o, rfl, hb, hc⟩ := ll.plain (by simp); have c0 := hc 0 _ rfl; rw [Nat.add_zero] at c0; clear hc)))
  refine wp_loop_rounds 2 ?_
  rw [rounds_succ]
  go_wp2
  rw [rounds_succ]
  go_wp2
  go_ret
  exact ⟨ret_int (by rw [or_first x0 l0]), hr, o2⟩

set_option maxRecDepth 100000 in
theorem number2_ok (p : Nat) (bs : List Value) (i x0 x1 : Nat) (w : World) (h : Rd q w p bs i false) (hL : bs.length ≤ 4611686018427387904) (him : i + 2 ≤ bs.length) (h0 : bs[i]? = some (.int .u8 (x0 : Nat))) (h1 : bs[i + 1]? = some (.int .u8 (x1 : Nat))) (l0 : x0 < 256) (l1 : x1 < 256) :
    Calls Try.prog 57 #[.pointer (some ⟨p, 0, none⟩), .int .i64 2] w fun e w' => e = .returned (.int .i64 ((x0 * 256 + x1) : Nat)) ∧ Rd q w' p bs (i + 2) false ∧ Only w w' [p] := by
  have C := next_ok p bs i 2 w h hL him
  have e : (bs.drop i).take 2 = [.int .u8 (x0 : Nat), .int .u8 (x1 : Nat)] := by
    apply List.ext_getElem?
    intro j
    rw [List.getElem?_take, List.getElem?_drop]
    match j with
    | 0 => simpa using h0
    | 1 => simpa using h1
    | j + 2 => simp <;> omega
  clear h h0 h1
  have E := Lib.hid e
  clear e
  go_enter Try.func57, Try.ntmps57
  go_wp2_with (first | (go_at_call 56; ((refine C.mono ?_); rintro e w2 ⟨A2, rfl, ll, hr, o2⟩; rw [E.out] at ll; obtain ⟨b, o, rfl, hb, hc⟩ := ll.plain (by simp); have c0 := hc 0 _ rfl; have c1 := hc 1 _ rfl; rw [Nat.add_zero] at c0; clear hc)))
  refine wp_loop_rounds 3 ?_
  rw [rounds_succ]
  go_wp2
  rw [rounds_succ]
  go_wp2
  rw [rounds_succ]
  go_wp2
  go_ret
  exact ⟨ret_int (by rw [or_first x0 l0, or_next x0 x1 (by omega) l1]), hr, o2⟩

set_option maxRecDepth 100000 in
theorem number4_ok (p : Nat) (bs : List Value) (i x0 x1 x2 x3 : Nat) (w : World) (h : Rd q w p bs i false) (hL : bs.length ≤ 4611686018427387904) (him : i + 4 ≤ bs.length) (h0 : bs[i]? = some (.int .u8 (x0 : Nat))) (h1 : bs[i + 1]? = some (.int .u8 (x1 : Nat))) (h2 : bs[i + 2]? = some (.int .u8 (x2 : Nat))) (h3 : bs[i + 3]? = some (.int .u8 (x3 : Nat))) (l0 : x0 < 256) (l1 : x1 < 256) (l2 : x2 < 256) (l3 : x3 < 256) :
    Calls Try.prog 57 #[.pointer (some ⟨p, 0, none⟩), .int .i64 4] w fun e w' => e = .returned (.int .i64 ((((x0 * 256 + x1) * 256 + x2) * 256 + x3) : Nat)) ∧ Rd q w' p bs (i + 4) false ∧ Only w w' [p] := by
  have C := next_ok p bs i 4 w h hL him
  have e : (bs.drop i).take 4 = [.int .u8 (x0 : Nat), .int .u8 (x1 : Nat), .int .u8 (x2 : Nat), .int .u8 (x3 : Nat)] := by
    apply List.ext_getElem?
    intro j
    rw [List.getElem?_take, List.getElem?_drop]
    match j with
    | 0 => simpa using h0
    | 1 => simpa using h1
    | 2 => simpa using h2
    | 3 => simpa using h3
    | j + 4 => simp <;> omega
  clear h h0 h1 h2 h3
  have E := Lib.hid e
  clear e
  go_enter Try.func57, Try.ntmps57
  go_wp2_with (first | (go_at_call 56; ((refine C.mono ?_); rintro e w2 ⟨A2, rfl, ll, hr, o2⟩; rw [E.out] at ll; obtain ⟨b, o, rfl, hb, hc⟩ := ll.plain (by simp); have c0 := hc 0 _ rfl; have c1 := hc 1 _ rfl; have c2 := hc 2 _ rfl; have c3 := hc 3 _ rfl; rw [Nat.add_zero] at c0; clear hc)))
  refine wp_loop_rounds 5 ?_
  rw [rounds_succ]
  go_wp2
  rw [rounds_succ]
  go_wp2
  rw [rounds_succ]
  go_wp2
  rw [rounds_succ]
  go_wp2
  rw [rounds_succ]
  go_wp2
  go_ret
  exact ⟨ret_int (by rw [or_first x0 l0, or_next x0 x1 (by omega) l1, or_next (x0 * 256 + x1) x2 (by omega) l2, or_next ((x0 * 256 + x1) * 256 + x2) x3 (by omega) l3]), hr, o2⟩


theorem number_bad (p : Nat) (bs : List Value) (i : Nat) (m : Int) (w : World) (h : Rd q w p bs i true) :
    Calls Try.prog 57 #[.pointer (some ⟨p, 0, none⟩), .int .i64 m] w fun e w' => e = .returned (.int .i64 0) ∧ w = w' := by
  have C := next_bad p bs i m w h
  go_enter Try.func57, Try.ntmps57
  go_wp2_with (first | (go_at_call 56; ((refine C.mono ?_); rintro e w2 ⟨rfl, rfl⟩)))
  refine wp_loop_rounds 1 ?_
  rw [rounds_succ]
  go_wp2
  go_ret
  exact ⟨rfl, rfl⟩
theorem number_short (p : Nat) (bs : List Value) (i : Nat) (m : Int) (w : World) (h : Rd q w p bs i false) (hL : bs.length ≤ 4611686018427387904) (him : m < 0 ∨ ((bs.length - i : Nat) : Int) < m) :
    Calls Try.prog 57 #[.pointer (some ⟨p, 0, none⟩), .int .i64 m] w fun e w' => e = .returned (.int .i64 0) ∧ Rd q w' p bs i true ∧ Only w w' [p] := by
  have C := next_short p bs i m w h hL him
  clear h him
  go_enter Try.func57, Try.ntmps57
  go_wp2_with (first | (go_at_call 56; ((refine C.mono ?_); rintro e w2 ⟨rfl, hr, o2⟩)))
  refine wp_loop_rounds 1 ?_
  rw [rounds_succ]
  go_wp2
  go_ret
  exact ⟨rfl, hr, o2⟩

end Go.Proofs.Ytelhckckcilpaaa

namespace Go.Proofs.Ytelhckckcilpaaa
open Go Go.RowKit

theorem wlen_low (p R : Nat) (F : Bool) (A : Option Addr) (n c z : Nat) (gv : Value) (w : World) (hb : Blk w p 103 #[.int .i64 (R : Nat), .bool F, .slice A n c, gv, .int .i64 (z : Nat)]) (hn : n + z ≤ 4611686018427387904) :
    Calls Try.prog 78 #[.pointer (some ⟨p, 0, none⟩)] w fun e w' => e = .returned (.int .i64 ((n + z : Nat) : Int)) ∧ Below w.heap.size w w' := by
  have HK : ∀ w', Below w.heap.size w w' → KB w' [(p, [.int .i64 (R : Nat), .bool F, .slice A n c, gv, .int .i64 (z : Nat)])] := fun w' hS => (hb.below hS).kb
  have s1 : IntKind.i64.wrap ((n : Int) + (z : Int)) = (n : Int) + (z : Int) := IntWalk.i64_in _ (by omega)
  go_enter Try.func78, Try.ntmps78
  go_wp2
  refine wp_region_plan (fun w' => Below w.heap.size w w') _ rfl (by kernel_rfl) (by kernel_rfl) ((Below.refl _ _).drew) ?_
  repeat (first
    | (refine PlanL.skip (by rfl) ?_; simp only [Act.put, List.setIfInBounds_toArray, List.set_cons_zero, List.set_cons_succ])
    | (refine PlanL.val (v := ?_) (by rfl) ?_ ?_; rotate_left; (focus (intro w' hS; have F := HK _ hS; simp only [KB, CellsAt, Nat.zero_add, Nat.reduceAdd, and_true] at F; go_simp <;> with_reducible rfl)); try simp only [Act.put, List.setIfInBounds_toArray, List.set_cons_zero, List.set_cons_succ]))
  refine PlanL.nil ?_
  intro w' hS
  have F := HK _ hS; simp only [KB, CellsAt, Nat.zero_add, Nat.reduceAdd, and_true] at F
  clear F s1
  go_wp2
  go_ret
  exact ⟨ret_int (by simp), hS⟩

theorem fits_full (p R : Nat) (A : Option Addr) (n c z : Nat) (gv : Value) (x : Int) (w : World) (hb : Blk w p 103 #[.int .i64 (R : Nat), .bool true, .slice A n c, gv, .int .i64 (z : Nat)]) :
    Calls Try.prog 101 #[.pointer (some ⟨p, 0, none⟩), .int .i64 x] w fun e w' => e = .returned (.bool false) ∧ Blk w' p 103 #[.int .i64 (R : Nat), .bool true, .slice A n c, gv, .int .i64 (z : Nat)] ∧ Only w w' [p] := by
  have HK : ∀ w', Below w.heap.size w w' → KB w' [(p, [.int .i64 (R : Nat), .bool true, .slice A n c, gv, .int .i64 (z : Nat)])] := fun w' hS => (hb.below hS).kb
  skip
  go_enter Try.func101, Try.ntmps101
  go_wp2
  refine wp_region_last (fun w' => Below w.heap.size w w') _ _ (by rfl) (by kernel_rfl) (by kernel_rfl) (by rfl) ((Below.refl _ _).drew) ?_
  repeat (first
    | (refine PlanL.skip (by rfl) ?_; simp only [Act.put, List.setIfInBounds_toArray, List.set_cons_zero, List.set_cons_succ])
    | (refine PlanL.val (v := ?_) (by rfl) ?_ ?_; rotate_left; (focus (intro w' hS; have F := HK _ hS; simp only [KB, CellsAt, Nat.zero_add, Nat.reduceAdd, and_true] at F; go_simp <;> with_reducible rfl)); try simp only [Act.put, List.setIfInBounds_toArray, List.set_cons_zero, List.set_cons_succ]))
  refine PlanL.nil ?_
  intro w' hS
  have F := HK _ hS; simp only [KB, CellsAt, Nat.zero_add, Nat.reduceAdd, and_true] at F
  have hb1 := (hb.below hS).set 1 (.bool true)
  go_wp2
  go_ret
  refine ⟨rfl, hb1, (Only.of_below hS [p]).set (.inl (by simp)) _⟩

theorem fits_no (p R : Nat) (A : Option Addr) (n c z : Nat) (gv : Value) (x : Int) (w : World) (hb : Blk w p 103 #[.int .i64 (R : Nat), .bool false, .slice A n c, gv, .int .i64 (z : Nat)]) (hn : n + z ≤ 4611686018427387904) (hR : R ≤ 4611686018427387904) (hx : (R : Int) - ((n + z : Nat) : Int) < x) :
    Calls Try.prog 101 #[.pointer (some ⟨p, 0, none⟩), .int .i64 x] w fun e w' => e = .returned (.bool false) ∧ Blk w' p 103 #[.int .i64 (R : Nat), .bool true, .slice A n c, gv, .int .i64 (z : Nat)] ∧ Only w w' [p] := by
  have HK : ∀ w', Below w.heap.size w w' → KB w' [(p, [.int .i64 (R : Nat), .bool false, .slice A n c, gv, .int .i64 (z : Nat)])] := fun w' hS => (hb.below hS).kb
  have s1 : IntKind.i64.wrap ((R : Int) - ((n : Int) + (z : Int))) = (R : Int) - ((n : Int) + (z : Int)) := IntWalk.i64_in _ (by omega)
  have d1 : decide ((R : Int) - ((n : Int) + (z : Int)) < x) = true := by simpa using hx
  go_enter Try.func101, Try.ntmps101
  go_wp2
  refine wp_region_last (fun w' => Below w.heap.size w w') _ _ (by rfl) (by kernel_rfl) (by kernel_rfl) (by rfl) ((Below.refl _ _).drew) ?_
  repeat (first
    | (refine PlanL.skip (by rfl) ?_; simp only [Act.put, List.setIfInBounds_toArray, List.set_cons_zero, List.set_cons_succ])
    | (refine PlanL.val (v := ?_) (by rfl) ?_ ?_; rotate_left; (focus (intro w' hS; have F := HK _ hS; simp only [KB, CellsAt, Nat.zero_add, Nat.reduceAdd, and_true] at F; go_simp <;> with_reducible rfl)); try simp only [Act.put, List.setIfInBounds_toArray, List.set_cons_zero, List.set_cons_succ])
    | (refine PlanL.call (v := ?_) (f := ?_) (args := ?_) (by rfl) ?_ ?_ ?_; rotate_left 3; (focus (intro w' hS; have F := HK _ hS; simp only [KB, CellsAt, Nat.zero_add, Nat.reduceAdd, and_true] at F; go_simp; (constructor <;> with_reducible rfl))); (focus (intro w' hS; first | ((with_reducible refine (wlen_low p R _ A n c z gv w' (hb.below hS) hn).mono ?_); rintro e w'' ⟨rfl, b⟩; refine ⟨?_, (Below.trans hS (b.mono hS.size))⟩; with_reducible rfl) | fail)); try simp only [Act.put, List.setIfInBounds_toArray, List.set_cons_zero, List.set_cons_succ]))
  refine PlanL.nil ?_
  intro w' hS
  have F := HK _ hS; simp only [KB, CellsAt, Nat.zero_add, Nat.reduceAdd, and_true] at F
  have hb1 := (hb.below hS).set 1 (.bool true)
  go_wp2
  go_ret
  refine ⟨rfl, hb1, (Only.of_below hS [p]).set (.inl (by simp)) _⟩

theorem fits_yes (p R : Nat) (A : Option Addr) (n c z : Nat) (gv : Value) (x : Int) (w : World) (hb : Blk w p 103 #[.int .i64 (R : Nat), .bool false, .slice A n c, gv, .int .i64 (z : Nat)]) (hn : n + z ≤ 4611686018427387904) (hR : R ≤ 4611686018427387904) (hx : x ≤ (R : Int) - ((n + z : Nat) : Int)) :
    Calls Try.prog 101 #[.pointer (some ⟨p, 0, none⟩), .int .i64 x] w fun e w' => e = .returned (.bool true) ∧ Blk w' p 103 #[.int .i64 (R : Nat), .bool false, .slice A n c, gv, .int .i64 (z : Nat)] ∧ Only w w' [p] := by
  have HK : ∀ w', Below w.heap.size w w' → KB w' [(p, [.int .i64 (R : Nat), .bool false, .slice A n c, gv, .int .i64 (z : Nat)])] := fun w' hS => (hb.below hS).kb
  have s1 : IntKind.i64.wrap ((R : Int) - ((n : Int) + (z : Int))) = (R : Int) - ((n : Int) + (z : Int)) := IntWalk.i64_in _ (by omega)
  have d1 : decide ((R : Int) - ((n : Int) + (z : Int)) < x) = false := by simpa using hx
  go_enter Try.func101, Try.ntmps101
  go_wp2
  refine wp_region_last (fun w' => Below w.heap.size w w') _ _ (by rfl) (by kernel_rfl) (by kernel_rfl) (by rfl) ((Below.refl _ _).drew) ?_
  repeat (first
    | (refine PlanL.skip (by rfl) ?_; simp only [Act.put, List.setIfInBounds_toArray, List.set_cons_zero, List.set_cons_succ])
    | (refine PlanL.val (v := ?_) (by rfl) ?_ ?_; rotate_left; (focus (intro w' hS; have F := HK _ hS; simp only [KB, CellsAt, Nat.zero_add, Nat.reduceAdd, and_true] at F; go_simp <;> with_reducible rfl)); try simp only [Act.put, List.setIfInBounds_toArray, List.set_cons_zero, List.set_cons_succ])
    | (refine PlanL.call (v := ?_) (f := ?_) (args := ?_) (by rfl) ?_ ?_ ?_; rotate_left 3; (focus (intro w' hS; have F := HK _ hS; simp only [KB, CellsAt, Nat.zero_add, Nat.reduceAdd, and_true] at F; go_simp; (constructor <;> with_reducible rfl))); (focus (intro w' hS; first | ((with_reducible refine (wlen_low p R _ A n c z gv w' (hb.below hS) hn).mono ?_); rintro e w'' ⟨rfl, b⟩; refine ⟨?_, (Below.trans hS (b.mono hS.size))⟩; with_reducible rfl) | fail)); try simp only [Act.put, List.setIfInBounds_toArray, List.set_cons_zero, List.set_cons_succ]))
  refine PlanL.nil ?_
  intro w' hS
  have F := HK _ hS; simp only [KB, CellsAt, Nat.zero_add, Nat.reduceAdd, and_true] at F
  have hb1 := (hb.below hS).set 1 (.bool false)
  go_wp2
  go_ret
  refine ⟨rfl, hb1, (Only.of_below hS [p]).set (.inl (by simp)) _⟩

end Go.Proofs.Ytelhckckcilpaaa

namespace Go.Proofs.Ytelhckckcilpaaa
open Go Go.RowKit

/-- A writer at block p: its room, whether it is full, the bytes that it has taken; fp: the blocks that it owns. -/
def Wr (w : World) (p R : Nat) (F : Bool) (L : List Value) (fp : List Nat) : Prop :=
  ∃ (D : List Value) (G : List (Nat × Nat)) (dv gv : Value), Blk w p 103 #[.int .i64 (R : Nat), .bool F, dv, gv, .int .i64 (gapSum G : Nat)] ∧ w.ownsRow 0 5 1 dv D.length D ∧ w.ownsRow 0 111 2 gv G.length (gapCells G) ∧
    GapsOk 0 G D.length ∧ Bytes8 D ∧ L = expand D 0 G ∧ L.length ≤ R ∧ fp = p :: (blk dv ++ blk gv)

/-- What becomes of a writer that is handed E. -/
def putF (R : Nat) (F : Bool) (L E : List Value) : Bool := F || decide (R < L.length + E.length)
def putL (R : Nat) (F : Bool) (L E : List Value) : List Value := if putF R F L E then L else L ++ E
def Put (w w' : World) (p R : Nat) (F : Bool) (L : List Value) (fp : List Nat) (E : List Value) : Prop :=
  ∃ fp', Wr w' p R (putF R F L E) (putL R F L E) fp' ∧ Only w w' fp ∧ ∀ b ∈ fp', b ∈ fp ∨ w.heap.size ≤ b

theorem u8Info : (Try.prog.info? 5).map (fun i => (i.zero, i.size, i.bytes)) = some (some (.int .u8 0), 1, 1) := by kernel_rfl
theorem gapInfo : (Try.prog.info? 111).map (fun i => (i.zero, i.size, i.bytes)) = some (some (.agg #[.int .i64 0, .int .i64 0]), 2, 16) := by kernel_rfl
theorem ret_ptr (p : Nat) : Ending.returned (.pointer (some ⟨p, 0, none⟩)) = Ending.returned (.pointer (some ⟨p, 0, none⟩)) := rfl

theorem Wr.lt {w : World} {p R : Nat} {F : Bool} {L : List Value} {fp : List Nat} (h : Wr w p R F L fp) : ∀ b ∈ fp, b < w.heap.size := by
  obtain ⟨D, G, dv, gv, hb, hd, hg, _, _, _, _, rfl⟩ := h
  intro b hm
  rcases List.mem_cons.1 hm with rfl | hm
  · exact hb.lt
  · rcases List.mem_append.1 hm with hm | hm
    · exact blk_lt hd b hm
    · exact blk_lt hg b hm

/-- A writer stays where other blocks are changed. -/
theorem Wr.only {w w1 : World} {p R : Nat} {F : Bool} {L : List Value} {fp fq : List Nat} (h : Wr w p R F L fp) (k : Only w w1 fq) (hn : ∀ b ∈ fp, b ∉ fq) : Wr w1 p R F L fp := by
  obtain ⟨D, G, dv, gv, hb, hd, hg, h1, h2, h3, h4, rfl⟩ := h
  exact ⟨D, G, dv, gv, hb.only k (hn p (by simp)), own_only hd k (fun b hm => hn b (by simp [hm])), own_only hg k (fun b hm => hn b (by simp [hm])), h1, h2, h3, h4, rfl⟩

theorem wlen_any (p R : Nat) (F : Bool) (L : List Value) (fp : List Nat) (w : World) (h : Wr w p R F L fp) (hR : R ≤ 1099511627776) :
    Calls Try.prog 78 #[.pointer (some ⟨p, 0, none⟩)] w fun e w' => e = .returned (.int .i64 (L.length : Nat)) ∧ Below w.heap.size w w' := by
  obtain ⟨D, G, dv, gv, hb, hd, hg, h1, h2, h3, h4, rfl⟩ := h
  have hl := expand_len D G 0 h1
  obtain ⟨A, c, rfl, _, _⟩ := own_lists hd
  refine (wlen_low p R F A D.length c (gapSum G) gv w hb (by rw [← h3] at hl; omega)).mono fun e w' ⟨h5, h6⟩ => ⟨?_, h6⟩
  rw [h5, h3, hl, Nat.sub_zero]

theorem put_full (w w' : World) (p R : Nat) (F : Bool) (L : List Value) (fp : List Nat) (E : List Value) (hf : putF R F L E = true) (hW : Wr w p R F L fp) (dv gv : Value) (D : List Value) (G : List (Nat × Nat))
    (hd : w.ownsRow 0 5 1 dv D.length D) (hg : w.ownsRow 0 111 2 gv G.length (gapCells G)) (h1 : GapsOk 0 G D.length) (h2 : Bytes8 D) (h3 : L = expand D 0 G) (h4 : L.length ≤ R) (h5 : fp = p :: (blk dv ++ blk gv))
    (hb : Blk w p 103 #[.int .i64 (R : Nat), .bool F, dv, gv, .int .i64 (gapSum G : Nat)]) (hb' : Blk w' p 103 #[.int .i64 (R : Nat), .bool true, dv, gv, .int .i64 (gapSum G : Nat)]) (ho : Only w w' [p]) : Put w w' p R F L fp E := by
  have n1 := own_ne hd hb (by decide)
  have n2 := own_ne hg hb (by decide)
  refine ⟨fp, ?_, ho.more (fun b hm => by simp at hm; subst hm; subst h5; simp), fun b hm => .inl hm⟩
  unfold putL
  rw [hf, if_pos rfl]
  exact ⟨D, G, dv, gv, hb', own_only hd ho (fun b hm e => by simp at e; subst e; exact n1 hm), own_only hg ho (fun b hm e => by simp at e; subst e; exact n2 hm), h1, h2, h3, h4, h5⟩

set_option maxRecDepth 100000 in
theorem data_any (p R : Nat) (F : Bool) (L : List Value) (fp : List Nat) (A : Option Addr) (m c B : Nat) (E : List Value) (w : World) (hW : Wr w p R F L fp) (hR : R ≤ 1099511627776) (hE : Lists w B A E) (hm : E.length = m) (hB : B ≤ w.heap.size) (h8 : Bytes8 E) (hfar : ∀ a, A = some a → E ≠ [] → a.block ≠ p) :
    Calls Try.prog 91 #[.pointer (some ⟨p, 0, none⟩), .slice A m c] w fun e w' => e = .returned (.pointer (some ⟨p, 0, none⟩)) ∧ Put w w' p R F L fp E := by
  obtain ⟨D, G, dv, gv, hb, hd, hg, h1, h2, h3, h4, h5⟩ := id hW
  have hl := expand_len D G 0 h1
  rw [← h3, Nat.sub_zero] at hl
  obtain ⟨A0, c0, rfl, hd0, hc0⟩ := own_lists hd
  cases hf : putF R F L E
  · -- it fits
    have hF : F = false := by unfold putF at hf; simp at hf; exact hf.1
    have hx : L.length + E.length ≤ R := by unfold putF at hf; simp at hf; exact hf.2
    subst hF
    have C := fits_yes p R A0 D.length c0 (gapSum G) gv (m : Int) w hb (by omega) (by omega) (by omega)
    obtain ⟨i0, hi, hz0, hz1, hz2⟩ := info_parts u8Info
    have n1 := own_ne hd hb (by decide)
    have n2 := own_ne hg hb (by decide)
    have n3 := own_own hd hg (by decide)
    have HM := Lib.hid hm
    have HL := Lib.hid hl
    have H3 := Lib.hid h3
    have H5 := Lib.hid h5
    have HF := Lib.hid hf
    have HW := Lib.hid hW
    have HFAR := Lib.hid hfar
    clear hm hl h3 h5 hf hW hfar
    go_enter Try.func91, Try.ntmps91
    go_wp2_with (first | (go_at_call 101; ((with_reducible refine (C).mono ?_); rintro e w1 ⟨rfl, hb1, ho1⟩; have F1 := hb1.kb; simp only [KB, CellsAt, Nat.zero_add, Nat.reduceAdd, and_true] at F1)) | (at_builtin; refine wpList_append_src _ rfl (.tmp 13) (.tmp 14) 22 rfl 0 5 i0 (.int .u8 0) 1 1 Try.underlying22 hi hz0 hz1 hz2 rfl (by decide) (.slice A0 D.length c0) D.length D rfl (own_only hd ho1 (fun b hm e => by simp at e; subst e; exact n1 hm)) B A m c E rfl (lists_only hE hB ho1 (fun a ha hx e => by simp at e; exact HFAR.out a ha hx e)) (by rw [HM.out, Nat.mul_one]) h8.one (by simp only [maxLen]; have := HM.out; have := HL.out; omega) (by have := HM.out; have := HL.out; omega) (Nat.zero_le _) ?_; intro v2 w2 hown hgr hat; obtain ⟨A2, k2, rfl, _, _⟩ := own_lists hown; have o2 : Only w1 w2 (blk (.slice A0 D.length c0)) := (Only.refl _ _).grown hgr (fun b hb => .inl (by simp [blk, hb])); have hb2 := hb1.only o2 n1; clear F1; have F2 := hb2.kb; simp only [KB, CellsAt, Nat.zero_add, Nat.reduceAdd, and_true] at F2))
    go_ret
    obtain ⟨v2, hv2⟩ : ∃ v, v = Value.slice A2 (D.length + m) k2 := ⟨_, rfl⟩
    rw [← hv2] at hown hat ⊢
    refine ⟨rfl, p :: (blk v2 ++ blk gv), ?_, ?_, ?_⟩
    · have n4 := own_ne hown hb2 (by decide)
      have o3 : Only w2 (w2.setCell ⟨p, 2, none⟩ v2) [p] := (Only.refl _ _).set (.inl (by simp)) _
      have g1 := own_only hg ho1 (fun b hm e => by simp at e; subst e; exact n2 hm)
      have g2 := own_only g1 o2 (fun b hm e => n3 b e hm)
      rw [HF.out]
      unfold putL
      rw [HF.out, if_neg (by simp)]
      refine ⟨D ++ E, G, v2, gv, hb2.set 2 v2, ?_, own_only g2 o3 (fun b hm e => by simp at e; subst e; exact n2 hm), h1.more (by simp), h2.append h8, ?_, ?_, rfl⟩
      · rw [show (D ++ E).length = D.length + m by rw [List.length_append, HM.out]]
        exact own_only hown o3 (fun b hm e => by simp at e; subst e; exact n4 hm)
      · rw [expand_data D E G 0 h1, ← H3.out]
      · rw [List.length_append]; exact hx
    · rw [H5.out]
      exact ((ho1.more (fun b hm => by simp at hm; subst hm; simp)).trans o2 (fun b hm => .inl (by simp [hm]))).set (.inl (by simp)) _
    · intro b hm
      rw [H5.out]
      rcases List.mem_cons.1 hm with rfl | hm
      · exact .inl (by simp)
      · rcases List.mem_append.1 hm with hm | hm
        · rcases hat with e | e
          · left
            have : b ∈ blk (.slice A0 D.length c0) := by unfold blk at hm ⊢; rw [← e]; exact hm
            simp [this]
          · right
            have : b = w1.heap.size := by unfold blk at hm; rw [e] at hm; simpa using hm
            have := ho1.size
            omega
        · exact .inl (by simp [hm])
  · -- it does not
    have hw : ∀ w1, Blk w1 p 103 #[.int .i64 (R : Nat), .bool true, .slice A0 D.length c0, gv, .int .i64 (gapSum G : Nat)] → Only w w1 [p] → Put w w1 p R F L fp E := fun w1 hb1 ho1 =>
      put_full w w1 p R F L fp E hf hW _ gv D G hd hg h1 h2 h3 h4 h5 hb hb1 ho1
    have C : Calls Try.prog 101 #[.pointer (some ⟨p, 0, none⟩), .int .i64 (m : Nat)] w (fun e w' => e = .returned (.bool false) ∧ Blk w' p 103 #[.int .i64 (R : Nat), .bool true, .slice A0 D.length c0, gv, .int .i64 (gapSum G : Nat)] ∧ Only w w' [p]) := by
      cases F
      · exact fits_no p R A0 D.length c0 (gapSum G) gv (m : Int) w hb (by omega) (by omega) (by unfold putF at hf; simp at hf; omega)
      · exact fits_full p R A0 D.length c0 (gapSum G) gv (m : Int) w hb
    have HW := Lib.hid hw
    clear hw h3 hl h5 hf hW hm
    go_enter Try.func91, Try.ntmps91
    go_wp2_with (first | (go_at_call 101; ((with_reducible refine (C).mono ?_); rintro e w1 ⟨rfl, hb1, ho1⟩)))
    go_ret
    exact ⟨rfl, HW.out _ hb1 ho1⟩

end Go.Proofs.Ytelhckckcilpaaa

namespace Go.Proofs.Ytelhckckcilpaaa
open Go Go.RowKit

theorem lists_new (w : World) (cs : Array Value) (T : TypeId) (E : List Value) (h : ∀ (j : Nat) (u : Value), E[j]? = some u → cs[j]? = some u) : Lists (w.alloc (.cells cs T)) (w.alloc (.cells cs T)).heap.size (some ⟨w.heap.size, 0, none⟩) E :=
  ⟨fun ha => (nomatch ha), fun a ha j u hu => by
    cases ha
    rw [addr_plain, Nat.zero_add, World.cell?_alloc_new]
    exact h j u hu, fun a ha _ => by cases ha; simp⟩
theorem Put.alloc {w w' : World} {o : Obj} {p R : Nat} {F : Bool} {L E : List Value} {fp : List Nat} (h : Put (w.alloc o) w' p R F L fp E) : Put w w' p R F L fp E := by
  obtain ⟨fp', h1, h2, h3⟩ := h
  refine ⟨fp', h1, ((Only.refl w fp).alloc o).trans h2 (fun b hb => .inl hb), fun b hb => ?_⟩
  rcases h3 b hb with h | h
  · exact .inl h
  · right
    simp at h
    omega
theorem byte_of (x : Int) : ∃ n : Nat, n < 256 ∧ Value.int .u8 (x % 256) = .int .u8 (n : Int) := ⟨(x % 256).toNat, by omega, by congr 1; omega⟩
def be1 (x : Int) : List Value := [.int .u8 (x % 256)]
theorem be1_bytes (x : Int) : Bytes8 (be1 x) := by
  intro u hu
  simp only [be1, List.mem_cons, List.not_mem_nil, or_false] at hu
  subst hu
  all_goals exact byte_of _
set_option maxRecDepth 100000 in
theorem number1_any (p R : Nat) (F : Bool) (L : List Value) (fp : List Nat) (x : Int) (w : World) (hW : Wr w p R F L fp) (hR : R ≤ 1099511627776) :
    Calls Try.prog 71 #[.pointer (some ⟨p, 0, none⟩), .int .i64 x, .int .i64 1] w fun e w' => e = .returned (.pointer (some ⟨p, 0, none⟩)) ∧ Put w w' p R F L fp (be1 x) := by
  have hp : p < w.heap.size := by
    obtain ⟨_, _, _, _, hb, _⟩ := hW
    exact hb.lt
  have C := fun cs => data_any p R F L fp (some ⟨w.heap.size, 0, none⟩) 1 4 (w.alloc (.cells cs 119)).heap.size (be1 x) (w.alloc (.cells cs 119)) (hW.only ((Only.refl w []).alloc _) (fun _ _ h => (nomatch h))) hR
  have C1 := C #[.int .u8 (x % 256), .int .u8 0, .int .u8 0, .int .u8 0] (lists_new w _ _ _ (fun j u hu => by
    unfold be1 at hu
    match j, hu with
    | 0, hu => exact (by simpa using hu)
    | j + 1, hu => simp at hu)) rfl (Nat.le_refl _) (be1_bytes x) (fun a ha _ => by cases ha; simp; omega)
  clear C hW hR
  go_enter Try.func71, Try.ntmps71
  go_wp2
  refine wp_loop_rounds 2 ?_
  rw [rounds_succ]
  go_wp2
  rw [rounds_succ]
  go_wp2_with (first | (go_at_call 91; ((with_reducible refine (C1).mono ?_); rintro e w1 ⟨rfl, hq⟩)))
  go_ret
  exact ⟨rfl, hq.alloc⟩

def be2 (x : Int) : List Value := [.int .u8 (x / 256 % 256), .int .u8 (x % 256)]
theorem be2_bytes (x : Int) : Bytes8 (be2 x) := by
  intro u hu
  simp only [be2, List.mem_cons, List.not_mem_nil, or_false] at hu
  rcases hu with rfl | rfl
  all_goals exact byte_of _
set_option maxRecDepth 100000 in
theorem number2_any (p R : Nat) (F : Bool) (L : List Value) (fp : List Nat) (x : Int) (w : World) (hW : Wr w p R F L fp) (hR : R ≤ 1099511627776) :
    Calls Try.prog 71 #[.pointer (some ⟨p, 0, none⟩), .int .i64 x, .int .i64 2] w fun e w' => e = .returned (.pointer (some ⟨p, 0, none⟩)) ∧ Put w w' p R F L fp (be2 x) := by
  have hp : p < w.heap.size := by
    obtain ⟨_, _, _, _, hb, _⟩ := hW
    exact hb.lt
  have C := fun cs => data_any p R F L fp (some ⟨w.heap.size, 0, none⟩) 2 4 (w.alloc (.cells cs 119)).heap.size (be2 x) (w.alloc (.cells cs 119)) (hW.only ((Only.refl w []).alloc _) (fun _ _ h => (nomatch h))) hR
  have C1 := C #[.int .u8 (x / 256 % 256), .int .u8 (x % 256), .int .u8 0, .int .u8 0] (lists_new w _ _ _ (fun j u hu => by
    unfold be2 at hu
    match j, hu with
    | 0, hu => exact (by simpa using hu)
    | 1, hu => exact (by simpa using hu)
    | j + 2, hu => simp at hu)) rfl (Nat.le_refl _) (be2_bytes x) (fun a ha _ => by cases ha; simp; omega)
  clear C hW hR
  go_enter Try.func71, Try.ntmps71
  go_wp2
  refine wp_loop_rounds 3 ?_
  rw [rounds_succ]
  go_wp2
  rw [rounds_succ]
  go_wp2
  rw [rounds_succ]
  go_wp2_with (first | (go_at_call 91; ((with_reducible refine (C1).mono ?_); rintro e w1 ⟨rfl, hq⟩)))
  go_ret
  exact ⟨rfl, hq.alloc⟩

def be4 (x : Int) : List Value := [.int .u8 (x / 16777216 % 256), .int .u8 (x / 65536 % 256), .int .u8 (x / 256 % 256), .int .u8 (x % 256)]
theorem be4_bytes (x : Int) : Bytes8 (be4 x) := by
  intro u hu
  simp only [be4, List.mem_cons, List.not_mem_nil, or_false] at hu
  rcases hu with rfl | rfl | rfl | rfl
  all_goals exact byte_of _
set_option maxRecDepth 100000 in
theorem number4_any (p R : Nat) (F : Bool) (L : List Value) (fp : List Nat) (x : Int) (w : World) (hW : Wr w p R F L fp) (hR : R ≤ 1099511627776) :
    Calls Try.prog 71 #[.pointer (some ⟨p, 0, none⟩), .int .i64 x, .int .i64 4] w fun e w' => e = .returned (.pointer (some ⟨p, 0, none⟩)) ∧ Put w w' p R F L fp (be4 x) := by
  have hp : p < w.heap.size := by
    obtain ⟨_, _, _, _, hb, _⟩ := hW
    exact hb.lt
  have C := fun cs => data_any p R F L fp (some ⟨w.heap.size, 0, none⟩) 4 4 (w.alloc (.cells cs 119)).heap.size (be4 x) (w.alloc (.cells cs 119)) (hW.only ((Only.refl w []).alloc _) (fun _ _ h => (nomatch h))) hR
  have C1 := C #[.int .u8 (x / 16777216 % 256), .int .u8 (x / 65536 % 256), .int .u8 (x / 256 % 256), .int .u8 (x % 256)] (lists_new w _ _ _ (fun j u hu => by
    unfold be4 at hu
    exact (by simpa using hu)
)) rfl (Nat.le_refl _) (be4_bytes x) (fun a ha _ => by cases ha; simp; omega)
  clear C hW hR
  go_enter Try.func71, Try.ntmps71
  go_wp2
  refine wp_loop_rounds 5 ?_
  rw [rounds_succ]
  go_wp2
  rw [rounds_succ]
  go_wp2
  rw [rounds_succ]
  go_wp2
  rw [rounds_succ]
  go_wp2
  rw [rounds_succ]
  go_wp2_with (first | (go_at_call 91; ((with_reducible refine (C1).mono ?_); rintro e w1 ⟨rfl, hq⟩)))
  go_ret
  exact ⟨rfl, hq.alloc⟩

theorem wU8_any (p R : Nat) (F : Bool) (L : List Value) (fp : List Nat) (x : Int) (w : World) (hW : Wr w p R F L fp) (hR : R ≤ 1099511627776) :
    Calls Try.prog 47 #[.pointer (some ⟨p, 0, none⟩), .int .i64 x] w fun e w' => e = .returned (.pointer (some ⟨p, 0, none⟩)) ∧ Put w w' p R F L fp (be1 x) := by
  have C := number1_any p R F L fp x w hW hR
  clear hW hR
  go_enter Try.func47, Try.ntmps47
  go_wp2_with (first | (go_at_call 71; ((with_reducible refine (C).mono ?_); rintro e w1 ⟨rfl, hq⟩)))
  go_ret
  exact ⟨rfl, hq⟩
theorem wU16_any (p R : Nat) (F : Bool) (L : List Value) (fp : List Nat) (x : Int) (w : World) (hW : Wr w p R F L fp) (hR : R ≤ 1099511627776) :
    Calls Try.prog 42 #[.pointer (some ⟨p, 0, none⟩), .int .i64 x] w fun e w' => e = .returned (.pointer (some ⟨p, 0, none⟩)) ∧ Put w w' p R F L fp (be2 x) := by
  have C := number2_any p R F L fp x w hW hR
  clear hW hR
  go_enter Try.func42, Try.ntmps42
  go_wp2_with (first | (go_at_call 71; ((with_reducible refine (C).mono ?_); rintro e w1 ⟨rfl, hq⟩)))
  go_ret
  exact ⟨rfl, hq⟩
theorem wI16_any (p R : Nat) (F : Bool) (L : List Value) (fp : List Nat) (x : Int) (w : World) (hW : Wr w p R F L fp) (hR : R ≤ 1099511627776) :
    Calls Try.prog 39 #[.pointer (some ⟨p, 0, none⟩), .int .i64 x] w fun e w' => e = .returned (.pointer (some ⟨p, 0, none⟩)) ∧ Put w w' p R F L fp (be2 x) := by
  have C := number2_any p R F L fp x w hW hR
  clear hW hR
  go_enter Try.func39, Try.ntmps39
  go_wp2_with (first | (go_at_call 71; ((with_reducible refine (C).mono ?_); rintro e w1 ⟨rfl, hq⟩)))
  go_ret
  exact ⟨rfl, hq⟩

/-- A new writer with room R was answered. -/
def Made (w : World) (R : Nat) (e : Ending) (w' : World) : Prop := ∃ p fp, e = .returned (.pointer (some ⟨p, 0, none⟩)) ∧ Wr w' p R false [] fp ∧ Below w.heap.size w w' ∧ (∀ b ∈ fp, w.heap.size ≤ b)

theorem to_any (r : Int) (w : World) :
    Calls Try.prog 38 #[.int .i64 r] w fun e w' => Made w r.toNat e w' := by
  have own0 : ∀ (w : World) (e : TypeId) (n : Nat), w.ownsRow 0 e n (.slice none 0 0) 0 [] := fun w e n => ⟨by simp, .inl ⟨rfl, rfl⟩⟩
  have fin : ∀ v : Int, v = (r.toNat : Int) → Wr (w.alloc (.cells #[.int .i64 v, .bool false, .slice none 0 0, .slice none 0 0, .int .i64 0] 103)) w.heap.size r.toNat false [] [w.heap.size] := fun v hv => by
    rw [hv]
    exact ⟨[], [], .slice none 0 0, .slice none 0 0, Blk.new w _ _, own0 _ _ _, own0 _ _ _, Nat.le_refl _, (fun _ hu => (nomatch hu)), rfl, Nat.zero_le _, rfl⟩
  by_cases h : 0 ≤ r
  · have fin := fin r (by omega)
    go_enter Try.func38, Try.ntmps38
    go_wp2
    go_ret
    exact ⟨w.heap.size, [w.heap.size], rfl, fin, (Below.refl _ _).alloc (Nat.le_refl _) _, by simp⟩
  · have fin := fin 0 (by omega)
    have h' : r ≤ 0 := by omega
    go_enter Try.func38, Try.ntmps38
    go_wp2
    go_ret
    exact ⟨w.heap.size, [w.heap.size], rfl, fin, (Below.refl _ _).alloc (Nat.le_refl _) _, by simp⟩

end Go.Proofs.Ytelhckckcilpaaa

namespace Go.Proofs.Ytelhckckcilpaaa
open Go Go.RowKit

theorem step_append_src {P : Program} {w : World} {ops : Array Oper} {o : Oper} {a : Act} {K : Act → World → Prop} {Q : Exit → Act → World → Prop} {X : Prop} (hgd : o.guard = none) (s x : Operand) (t : TypeId)
    (ho : o.op = .call { callee := .builtin .append, args := #[s, x], argTypes := #[t, t] })
    (base : Nat) (e : TypeId) (i : TypeInfo) (z : Value) (size bytes : Nat) (ht : P.underlying t = some (.slice e)) (hi : P.info? e = some i) (hz : i.zero = some z)
    (hsize : i.size = size) (hby : i.bytes = bytes) (hzs : z.cells.size = size) (hsz : 0 < size)
    (v : Value) (n : Nat) (xs : List Value) (hs : a.eval s = v) (hown : w.ownsRow base e size v n xs)
    (B : Nat) (A : Option Addr) (m c : Nat) (news : List Value) (hx : a.eval x = .slice A m c) (hr : Lists w B A news) (hl : news.length = m * size) (h1 : ∀ u ∈ news, u.oneCell' = true)
    (h63 : n + m ≤ maxLen) (hbytes : (n + m) * bytes ≤ 140737488355328) (hbase : base ≤ w.heap.size)
    (h : ∀ v' w', w'.ownsRow base e size v' (n + m) (xs ++ news) → w.grownBy w' v.ownBlock → (v'.ownBlock = v.ownBlock ∨ v'.ownBlock = some w.heap.size) → K (a.put o.dst v') w') :
    if Region.wanted o (yielded ops a.tmps) = true then Oper.wp P o a w K Q else X := by
  rw [if_pos (by simp [Region.wanted, hgd])]
  exact wp_append_src w s x t ho base e i z size bytes ht hi hz hsize hby hzs hsz v n xs hs hown B A m c news hx hr hl h1 h63 hbytes hbase h

/-- How many zeros a pad to n wants. -/
def padN (l : Nat) (n : Int) : Nat := if n < 1 then 0 else if (l : Int) % n = 0 then 0 else (n - (l : Int) % n).toNat

theorem Put.nothing {w w' : World} {p R : Nat} {F : Bool} {L : List Value} {fp : List Nat} (hW : Wr w p R F L fp) (hb : Below w.heap.size w w') : Put w w' p R F L fp [] := by
  have hL : L.length ≤ R := by
    obtain ⟨_, _, _, _, _, _, _, _, _, _, h, _⟩ := hW
    exact h
  have hf : putF R F L [] = F := by
    unfold putF
    rw [show decide (R < L.length + ([] : List Value).length) = false by simp; omega]
    simp
  refine ⟨fp, ?_, Only.of_below hb fp, fun b h => .inl h⟩
  unfold putL
  rw [hf]
  have := hW.only (Only.of_below hb []) (fun _ _ h => (nomatch h))
  cases F
  · rw [if_neg (by simp), List.append_nil]; exact this
  · rw [if_pos rfl]; exact this
theorem Put.before {w w1 w' : World} {p R : Nat} {F : Bool} {L E : List Value} {fp : List Nat} (hb : Below w.heap.size w w1) (h : Put w1 w' p R F L fp E) : Put w w' p R F L fp E := by
  obtain ⟨fp', h1, h2, h3⟩ := h
  exact ⟨fp', h1, (Only.of_below hb fp).trans h2 (fun b hb => .inl hb), fun b hm => (h3 b hm).imp id (fun h => Nat.le_trans hb.size h)⟩

theorem pad_done {w w2 w3 w4 : World} {p R : Nat} {L D : List Value} {fp : List Nat} {G : List (Nat × Nat)} {dv gv v4 : Value} {z H : Nat} (hb : Blk w p 103 #[.int .i64 (R : Nat), .bool false, dv, gv, .int .i64 (gapSum G : Nat)]) (hD : w.ownsRow 0 5 1 dv D.length D) (hG : w.ownsRow 0 111 2 gv G.length (gapCells G))
    (k1 : GapsOk 0 G D.length) (k2 : Bytes8 D) (k3 : L = expand D 0 G) (k5 : fp = p :: (blk dv ++ blk gv)) (hf : putF R false L (List.replicate z zero8) = false) (hx : L.length + z ≤ R) (hz1 : 1 ≤ z)
    (b2 : Below w.heap.size w w2) (o3 : Only w2 w3 [p]) (o4 : Only w3 w4 (blk gv)) (hb4 : Blk w4 p 103 #[.int .i64 (R : Nat), .bool false, dv, gv, .int .i64 (gapSum G : Nat)])
    (hown : w4.ownsRow 0 111 2 v4 (G.length + 1) (gapCells G ++ [.int .i64 (D.length : Nat), .int .i64 (z : Nat)])) (hat : v4.ownBlock = gv.ownBlock ∨ v4.ownBlock = some H) (hH : w3.heap.size ≤ H) (s : Int) (hs : s = (gapSum G : Int) + z) :
    Put w ((w4.setCell ⟨p, 3, none⟩ v4).setCell ⟨p, 4, none⟩ (.int .i64 s)) p R false L fp (List.replicate z zero8) := by
  have n1 := own_ne hG hb (by decide)
  have n2 := own_ne hD hb (by decide)
  have n3 := own_own hD hG (by decide)
  have n4 := own_ne hown hb4 (by decide)
  have o1 : Only w w3 [p] := (Only.of_below b2 [p]).trans o3 (fun b hb => .inl hb)
  have o5 : Only w4 ((w4.setCell ⟨p, 3, none⟩ v4).setCell ⟨p, 4, none⟩ (.int .i64 s)) [p] := ((Only.refl _ _).set (.inl (by simp)) _).set (.inl (by simp)) _
  refine ⟨p :: (blk dv ++ blk v4), ?_, ?_, ?_⟩
  · unfold putL
    rw [hf, if_neg (by simp)]
    refine ⟨D, G ++ [(D.length, z)], dv, v4, ?_, own_only (own_only (own_only hD o1 (fun b hm e => by simp at e; subst e; exact n2 hm)) o4 (fun b hm e => n3 b hm e)) o5 (fun b hm e => by simp at e; subst e; exact n2 hm), ?_, k1.snoc hz1, k2, ?_, ?_, rfl⟩
    · have := (hb4.set 3 v4).set 4 (.int .i64 s)
      rw [show ((gapSum (G ++ [(D.length, z)]) : Nat) : Int) = s by rw [hs]; simp [gapSum]]
      exact this
    · rw [gapCells_snoc, show (G ++ [(D.length, z)]).length = G.length + 1 by simp]
      exact own_only hown o5 (fun b hm e => by simp at e; subst e; exact n4 hm)
    · rw [expand_gap D z G 0 k1, ← k3]
    · rw [List.length_append, List.length_replicate]; exact hx
  · subst k5
    exact ((o1.more (fun b hm => by simp at hm; subst hm; simp)).trans o4 (fun b hm => .inl (by simp [hm]))).trans o5 (fun b hm => by simp at hm; subst hm; simp)
  · intro b hm
    subst k5
    rcases List.mem_cons.1 hm with rfl | hm
    · exact .inl (by simp)
    · rcases List.mem_append.1 hm with hm | hm
      · exact .inl (by simp [hm])
      · rcases hat with e | e
        · left
          have : b ∈ blk gv := by unfold blk at hm ⊢; rw [← e]; exact hm
          simp [this]
        · right
          have : b = H := by unfold blk at hm; rw [e] at hm; simpa using hm
          have := o1.size
          omega

end Go.Proofs.Ytelhckckcilpaaa

namespace Go.Proofs.Ytelhckckcilpaaa
open Go Go.RowKit
variable {q : Nat → Prop}

/-- A copy in new memory. -/
def GaveClone (w : World) (E : List Value) (e : Ending) (w' : World) : Prop := ∃ A c, e = .returned (.slice A E.length c) ∧ Lists w' w'.heap.size A E ∧ E.length ≤ c ∧ c ≤ 9223372036854775807 ∧ Below w.heap.size w w' ∧ (∀ a, A = some a → w.heap.size ≤ a.block)

set_option maxRecDepth 100000 in
theorem clone_any (A : Option Addr) (n c : Nat) (E : List Value) (w : World) (hE : Lists w w.heap.size A E) (hn : E.length = n) (h8 : Bytes8 E) (hm : n ≤ 140737488355328) :
    Calls Try.prog 55 #[.slice A n c] w fun e w' => GaveClone w E e w' := by
  have q1 := fun w => Lib.run_eql_slice_nil (P := Try.prog) w 22 5 A n c 0 0 Try.underlying22
  cases A with
  | none =>
    obtain rfl : E = [] := hE.nil rfl
    obtain rfl : n = 0 := hn.symm
    have hq : GaveClone w [] (.returned (.slice none 0 0)) w := ⟨none, 0, rfl, Lists.empty _ _ _, Nat.le_refl _, by omega, Below.refl _ _, fun a h => (nomatch h)⟩
    go_enter Try.func55, Try.ntmps55
    go_wp2
    all_goals go_ret
    all_goals exact hq
  | some a =>
    obtain ⟨i0, hi, hz0, hz1, hz2⟩ := info_parts u8Info
    have HN := Lib.hid hn
    clear hn
    go_enter Try.func55, Try.ntmps55
    go_wp2_with (first | (at_builtin; refine wpList_append_src _ rfl (.tmp 5) (.tmp 6) 22 rfl w.heap.size 5 i0 (.int .u8 0) 1 1 Try.underlying22 hi hz0 hz1 hz2 rfl (by decide) (.slice (some ⟨w.heap.size, 0, none⟩) 0 0) 0 [] rfl ⟨rfl, .inr ⟨w.heap.size, 0, #[], rfl, Nat.le_refl _, heap_alloc_new w _, Nat.le_refl _, Nat.zero_le _, rfl, rfl⟩⟩ w.heap.size (some a) n c E rfl (hE.alloc (Nat.le_refl _) _) (by rw [HN.out, Nat.mul_one]) h8.one (by simp only [maxLen]; omega) (by omega) (by simp) ?_; intro v1 w1 hown hg hat; rw [Nat.zero_add, List.nil_append] at hown))
    go_ret
    have hb : Below w.heap.size w w1 := ((Below.refl _ _).alloc (Nat.le_refl _) _).grown hg (by simp) (fun j hj => by cases hj; exact Nat.le_refl _)
    obtain ⟨A2, c2, hv, hl, hc2⟩ := own_lists hown
    have hcm : c2 ≤ maxLen := by
      rcases hown.2 with ⟨h, _⟩ | ⟨g, cap, cur, h, _, _, _, h7, _⟩
      · rw [hv] at h; injection h with _ _ h; omega
      · rw [hv] at h; injection h with _ _ h; omega
    have hlow : ∀ a, A2 = some a → w.heap.size ≤ a.block := by
      rcases hown.2 with ⟨h, _⟩ | ⟨g, cap, cur, h, h1, _⟩
      · rw [hv] at h; injection h with h; intro a ha; rw [h] at ha; cases ha
      · rw [hv] at h; injection h with h; intro a ha; rw [h] at ha; cases ha; exact h1
    unfold maxLen at hcm
    exact ⟨A2, c2, by rw [HN.out]; exact congrArg _ hv, hl, by rw [HN.out]; exact hc2, by omega, hb, hlow⟩

/-- A new reader was answered. -/
def MadeRd (w : World) (E : List Value) (e : Ending) (w' : World) : Prop := ∃ p, e = .returned (.pointer (some ⟨p, 0, none⟩)) ∧ Rd (fun b => w.heap.size ≤ b ∧ b < w'.heap.size) w' p E 0 false ∧ Below w.heap.size w w' ∧ w.heap.size ≤ p

theorem new_any (A : Option Addr) (n c : Nat) (E : List Value) (w : World) (hE : Lists w w.heap.size A E) (hn : E.length = n) (h8 : Bytes8 E) (hm : n ≤ 140737488355328) :
    Calls Try.prog 16 #[.slice A n c] w fun e w' => MadeRd w E e w' := by
  have C := clone_any A n c E w hE hn h8 hm
  clear hE hn
  go_enter Try.func16, Try.ntmps16
  go_wp2_with (first | (go_at_call 55; ((refine C.mono ?_); rintro e w1 ⟨A1, c1, rfl, hl, hc, hc2, hb, hlow⟩)))
  go_ret
  refine ⟨w1.heap.size, rfl, ⟨A1, c1, Blk.new w1 _ _, (hl.alloc (Nat.le_refl _) _).more (by simp), h8, Nat.zero_le _, hc, hc2, fun a ha hx => ?_⟩, hb.alloc hb.size _, hb.size⟩
  have := hl.lt a ha hx
  exact ⟨by omega, hlow a ha, by simp <;> omega⟩

theorem rU16_ok (p : Nat) (bs : List Value) (i x0 x1 : Nat) (w : World) (h : Rd q w p bs i false) (hL : bs.length ≤ 4611686018427387904) (him : i + 2 ≤ bs.length) (h0 : bs[i]? = some (.int .u8 (x0 : Nat))) (h1 : bs[i + 1]? = some (.int .u8 (x1 : Nat))) (l0 : x0 < 256) (l1 : x1 < 256) :
    Calls Try.prog 19 #[.pointer (some ⟨p, 0, none⟩)] w fun e w' => e = .returned (.int .i64 (x0 * 256 + x1 : Nat)) ∧ Rd q w' p bs (i + 2) false ∧ Only w w' [p] := by
  have C := number2_ok p bs i x0 x1 w h hL him h0 h1 l0 l1
  clear h h0 h1
  go_enter Try.func19, Try.ntmps19
  go_wp2_with (first | (go_at_call 57; ((refine C.mono ?_); rintro e w2 ⟨rfl, hr, o2⟩)))
  go_ret
  exact ⟨rfl, hr, o2⟩
theorem rU16_short (p : Nat) (bs : List Value) (i : Nat) (w : World) (h : Rd q w p bs i false) (hL : bs.length ≤ 4611686018427387904) (him : bs.length - i < 2) :
    Calls Try.prog 19 #[.pointer (some ⟨p, 0, none⟩)] w fun e w' => e = .returned (.int .i64 0) ∧ Rd q w' p bs i true ∧ Only w w' [p] := by
  have C := number_short p bs i 2 w h hL (.inr (by omega))
  clear h
  go_enter Try.func19, Try.ntmps19
  go_wp2_with (first | (go_at_call 57; ((refine C.mono ?_); rintro e w2 ⟨rfl, hr, o2⟩)))
  go_ret
  exact ⟨rfl, hr, o2⟩

end Go.Proofs.Ytelhckckcilpaaa
