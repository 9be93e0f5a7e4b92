/- Part 3 of the proof of HeadsHeadReads: Rd2, Rd3, Rd4, Rn, Rs, From, Into, Carr, Nums, Free, Eith. -/
import Derived.LoopTactic
import Derived.WalkSpells
import Derived.Shelf.Abstract
import Derived.Test.YtbomgaacahaofaaM1HeadsHeadReads

namespace Go.Proofs.Ytbomgaacahaofaa
open Go Go.RowKit
variable {q : Nat → Prop}

/-- A reader at block p: its bytes, where it stands, whether it is bad. -/
def Rd (q : Nat → Prop) (w : World) (p : Nat) (bs : List Value) (i : Nat) (bad : Bool) : Prop :=
  ∃ (A : Option Addr) (c : Nat), Blk w p 114 #[.slice A bs.length c, .int .i64 (i : Nat), .bool bad] ∧ Lists w w.heap.size A bs ∧ Bytes8 bs ∧ i ≤ bs.length ∧ bs.length ≤ c ∧ c ≤ 9223372036854775807 ∧ ∀ a, A = some a → bs ≠ [] → a.block ≠ p ∧ q a.block

theorem Rd.lt {w : World} {p i : Nat} {bs : List Value} {bad : Bool} (h : Rd q w p bs i bad) : p < w.heap.size := by
  obtain ⟨_, _, hb, _⟩ := h
  exact hb.lt
theorem Rd.below {w w1 : World} {p i : Nat} {bs : List Value} {bad : Bool} (h : Rd q w p bs i bad) (k : Below w.heap.size w w1) : Rd q w1 p bs i bad := by
  obtain ⟨A, c, hb, hl, h1⟩ := h
  exact ⟨A, c, hb.below k, (hl.below k).more k.size, h1⟩
/-- The reader moved on, or went bad: nothing else has turned. -/
theorem Rd.move {w w1 : World} {p : Nat} {bs : List Value} {A : Option Addr} {c j : Nat} {bad1 : Bool} (hl : Lists w w.heap.size A bs) (h8 : Bytes8 bs) (hc : bs.length ≤ c) (hc2 : c ≤ 9223372036854775807) (hne : ∀ a, A = some a → bs ≠ [] → a.block ≠ p ∧ q a.block)
    (hb : Blk w1 p 114 #[.slice A bs.length c, .int .i64 (j : Nat), .bool bad1]) (o : Only w w1 [p]) (hj : j ≤ bs.length) : Rd q w1 p bs j bad1 :=
  ⟨A, c, hb, (lists_only hl (Nat.le_refl _) o (fun a ha hx e => by simp at e; exact (hne a ha hx).1 e)).more o.size, h8, hj, hc, hc2, hne⟩

/-- A reader stays where other blocks are changed. -/
theorem Rd.only {w w1 : World} {p i : Nat} {bs : List Value} {bad : Bool} {fp : List Nat} (h : Rd q w p bs i bad) (k : Only w w1 fp) (hp : p ∉ fp) (hq : ∀ b ∈ fp, ¬ q b) : Rd q w1 p bs i bad := by
  obtain ⟨A, c, hb, hl, h8, hi, hc, hc2, hne⟩ := h
  exact ⟨A, c, hb.only k hp, (lists_only hl (Nat.le_refl _) k (fun a ha hx e => hq _ e (hne a ha hx).2)).more k.size, h8, hi, hc, hc2, hne⟩
theorem Rd.weaken {w : World} {p i : Nat} {bs : List Value} {bad : Bool} {q1 : Nat → Prop} (h : Rd q w p bs i bad) (hq : ∀ b, q b → q1 b) : Rd q1 w p bs i bad := by
  obtain ⟨A, c, hb, hl, h8, hi, hc, hc2, hne⟩ := h
  exact ⟨A, c, hb, hl, h8, hi, hc, hc2, fun a ha hx => ⟨(hne a ha hx).1, hq _ (hne a ha hx).2⟩⟩
/-- What next answers: the next bytes. -/
def GaveNext (q : Nat → Prop) (w : World) (p : Nat) (bs : List Value) (i m : Nat) (e : Ending) (w' : World) : Prop :=
  ∃ A, e = .returned (.slice A m m) ∧ Lists w' w'.heap.size A ((bs.drop i).take m) ∧ Rd q w' p bs (i + m) false ∧ Only w w' [p]

set_option maxRecDepth 100000 in
theorem next_ok (p : Nat) (bs : List Value) (i m : Nat) (w : World) (h : Rd q w p bs i false) (hL : bs.length ≤ 4611686018427387904) (him : i + m ≤ bs.length) :
    Calls Try.prog 73 #[.pointer (some ⟨p, 0, none⟩), .int .i64 (m : Nat)] w fun e w' => GaveNext q w p bs i m e w' := by
  obtain ⟨A, c, hb, hl, h8, hi, hc, hc2, hne⟩ := id h
  have C1 := isBad_low p bs.length c i A false w hb
  have C2 := left_low p bs.length c i A w hb hL hi
  have HL1 := Lib.hid hl
  have H8 := Lib.hid h8
  have HNE := Lib.hid hne
  have m0 : ¬ (m : Int) < 0 := by omega
  have m1 : decide (((bs.length - i : Nat) : Int) < (m : Int)) = false := by simp; omega
  have s1 : IntKind.i64.wrap ((i : Int) + (m : Int)) = (i : Int) + (m : Int) := IntWalk.i64_in _ (by omega)
  have s2 : wrap64 ((i : Int) + (m : Int)) = (i : Int) + (m : Int) := by unfold wrap64; omega
  have F := hb.kb; simp only [KB, CellsAt, Nat.zero_add, Nat.reduceAdd, and_true] at F
  have hlen : ((bs.drop i).take m).length = m := by simp only [List.length_take, List.length_drop]; omega
  have HLEN := Lib.hid hlen
  have hI : (0 : Int) ≤ (i : Int) := by omega
  have hS : ∀ w1, Below w.heap.size w w1 → Only w (w1.setCell ⟨p, 1, none⟩ (.int .i64 ((i : Int) + (m : Int)))) [p] := fun w1 b1 => (Only.of_below b1 [p]).set (.inl (by simp)) _
  have HLS := fun w1 (b1 : Below w.heap.size w w1) => (lists_only hl (Nat.le_refl _) (hS w1 b1) (fun a ha hx e => by simp at e; exact (hne a ha hx).1 e)).more (hS w1 b1).size
  clear h hl h8 hne hlen
  go_enter Try.func73, Try.ntmps73
  go_wp2_with (first | (go_at_call 68; ((with_reducible refine (C1).mono ?_); rintro e w' ⟨rfl, rfl⟩)) | (go_at_call 75; ((with_reducible refine (C2).mono ?_); rintro e w1 ⟨rfl, b1⟩; have hb1 := hb.below b1; have F1 := hb1.kb; simp only [KB, CellsAt, Nat.zero_add, Nat.reduceAdd, and_true] at F1)) | (go_at_call 76; ((refine (part_any A bs.length c i m bs _ rfl (HLS _ b1) hc hc2 him).mono ?_); rintro e w2 ⟨A2, rfl, l2, rfl⟩; rw [HLEN.out])))
  go_ret
  refine ⟨A2, rfl, l2, Rd.move HL1.out H8.out hc hc2 HNE.out ?_ (hS _ b1) him, hS _ b1⟩
  have hb2 := hb1.set 1 (.int .i64 ((i : Int) + (m : Int)))
  rw [show ((i + m : Nat) : Int) = (i : Int) + (m : Int) by omega]
  exact hb2

set_option maxRecDepth 100000 in
theorem next_short (p : Nat) (bs : List Value) (i : Nat) (m : Int) (w : World) (h : Rd q w p bs i false) (hL : bs.length ≤ 4611686018427387904) (him : m < 0 ∨ ((bs.length - i : Nat) : Int) < m) :
    Calls Try.prog 73 #[.pointer (some ⟨p, 0, none⟩), .int .i64 m] w fun e w' => e = .returned (.slice none 0 0) ∧ Rd q w' p bs i true ∧ Only w w' [p] := by
  obtain ⟨A, c, hb, hl, h8, hi, hc, hc2, hne⟩ := id h
  have C1 := isBad_low p bs.length c i A false w hb
  have C2 := left_low p bs.length c i A w hb hL hi
  have HL1 := Lib.hid hl
  have H8 := Lib.hid h8
  have HNE := Lib.hid hne
  have F := hb.kb; simp only [KB, CellsAt, Nat.zero_add, Nat.reduceAdd, and_true] at F
  clear h hl h8 hne
  by_cases m0 : m < 0
  · go_enter Try.func73, Try.ntmps73
    go_wp2_with (first | (go_at_call 68; ((with_reducible refine (C1).mono ?_); rintro e w' ⟨rfl, rfl⟩)))
    go_ret
    have o : Only w (w.setCell ⟨p, 2, none⟩ (.bool true)) [p] := (Only.refl w [p]).set (.inl (by simp)) _
    exact ⟨rfl, Rd.move HL1.out H8.out hc hc2 HNE.out (hb.set 2 (.bool true)) o hi, o⟩
  · have hm : ((bs.length - i : Nat) : Int) < m := him.resolve_left m0
    have m1 : decide (((bs.length - i : Nat) : Int) < m) = true := by simpa using hm
    clear him
    go_enter Try.func73, Try.ntmps73
    go_wp2_with (first | (go_at_call 68; ((with_reducible refine (C1).mono ?_); rintro e w' ⟨rfl, rfl⟩)) | (go_at_call 75; ((with_reducible refine (C2).mono ?_); rintro e w1 ⟨rfl, b1⟩; have hb1 := hb.below b1; have F1 := hb1.kb; simp only [KB, CellsAt, Nat.zero_add, Nat.reduceAdd, and_true] at F1)))
    go_ret
    have o : Only w (w1.setCell ⟨p, 2, none⟩ (.bool true)) [p] := (Only.of_below b1 [p]).set (.inl (by simp)) _
    exact ⟨rfl, Rd.move HL1.out H8.out hc hc2 HNE.out (hb1.set 2 (.bool true)) o hi, o⟩

theorem next_bad (p : Nat) (bs : List Value) (i : Nat) (m : Int) (w : World) (h : Rd q w p bs i true) :
    Calls Try.prog 73 #[.pointer (some ⟨p, 0, none⟩), .int .i64 m] w fun e w' => e = .returned (.slice none 0 0) ∧ w = w' := by
  obtain ⟨A, c, hb, _⟩ := h
  have C1 := isBad_low p bs.length c i A true w hb
  clear hb
  go_enter Try.func73, Try.ntmps73
  go_wp2_with (first | (go_at_call 68; ((with_reducible refine (C1).mono ?_); rintro e w' ⟨rfl, rfl⟩)))
  go_ret
  exact ⟨rfl, rfl⟩

end Go.Proofs.Ytbomgaacahaofaa

namespace Go.Proofs.Ytbomgaacahaofaa
open Go Go.RowKit
variable {q : Nat → Prop}

theorem or_nat (a b : Nat) (ha : a < 4611686018427387904) (hb : b < 4611686018427387904) : bits .or .i64 (a : Int) (b : Int) = ((a ||| b : Nat) : Int) := by
  have hx : a ||| b < 2 ^ 62 := Nat.or_lt_two_pow (by omega) (by omega)
  have h1 : (BitVec.ofInt 64 (a : Int)).toNat = a := by
    rw [BitVec.ofInt_natCast, BitVec.toNat_ofNat]; exact Nat.mod_eq_of_lt (by omega)
  have h2 : (BitVec.ofInt 64 (b : Int)).toNat = b := by
    rw [BitVec.ofInt_natCast, BitVec.toNat_ofNat]; exact Nat.mod_eq_of_lt (by omega)
  show IntKind.i64.wrap ((BitVec.ofInt 64 (a : Int) ||| BitVec.ofInt 64 (b : Int)).toNat : Int) = _
  rw [BitVec.toNat_or, h1, h2]
  exact IntWalk.i64_in _ (by omega)
theorem or_first (x : Nat) (hx : x < 256) : bits .or .i64 0 (x : Int) = (x : Int) := by
  have := or_nat 0 x (by omega) (by omega)
  rwa [Nat.zero_or] at this
theorem or_next (a x : Nat) (ha : a < 1099511627776) (hx : x < 256) : bits .or .i64 (wrap64 ((a : Int) * 256)) (x : Int) = ((a * 256 + x : Nat) : Int) := by
  have e1 : wrap64 ((a : Int) * 256) = ((a * 256 : Nat) : Int) := by unfold wrap64; omega
  rw [e1, or_nat (a * 256) x (by omega) (by omega), show a * 256 = 2 ^ 8 * a by omega, ← Nat.two_pow_add_eq_or_of_lt (by omega)]

set_option maxRecDepth 100000 in
theorem number1_ok (p : Nat) (bs : List Value) (i x0 : Nat) (w : World) (h : Rd q w p bs i false) (hL : bs.length ≤ 4611686018427387904) (him : i + 1 ≤ bs.length) (h0 : bs[i]? = some (.int .u8 (x0 : Nat))) (l0 : x0 < 256) :
    Calls Try.prog 71 #[.pointer (some ⟨p, 0, none⟩), .int .i64 1] w fun e w' => e = .returned (.int .i64 (x0 : Nat)) ∧ Rd q w' p bs (i + 1) false ∧ Only w w' [p] := by
  have C := next_ok p bs i 1 w h hL him
  have e : (bs.drop i).take 1 = [.int .u8 (x0 : Nat)] := by
    apply List.ext_getElem?
    intro j
    rw [List.getElem?_take, List.getElem?_drop]
    match j with
    | 0 => simpa using h0
    | j + 1 => simp <;> omega
  clear h h0
  have E := Lib.hid e
  clear e
  go_enter Try.func71, Try.ntmps71
  go_wp2_with (first | (go_at_call 73; ((refine C.mono ?_); rintro e w2 ⟨A2, rfl, ll, hr, o2⟩; rw [E.out] at ll; obtain ⟨b, o, rfl, hb, hc⟩ := ll.plain (by simp); have c0 := hc 0 _ rfl; rw [Nat.add_zero] at c0; clear hc)))
  refine wp_loop_rounds 2 ?_
  rw [rounds_succ]
  go_wp2
  rw [rounds_succ]
  go_wp2
  go_ret
  exact ⟨ret_int (by rw [or_first x0 l0]), hr, o2⟩

set_option maxRecDepth 100000 in
theorem number2_ok (p : Nat) (bs : List Value) (i x0 x1 : Nat) (w : World) (h : Rd q w p bs i false) (hL : bs.length ≤ 4611686018427387904) (him : i + 2 ≤ bs.length) (h0 : bs[i]? = some (.int .u8 (x0 : Nat))) (h1 : bs[i + 1]? = some (.int .u8 (x1 : Nat))) (l0 : x0 < 256) (l1 : x1 < 256) :
    Calls Try.prog 71 #[.pointer (some ⟨p, 0, none⟩), .int .i64 2] w fun e w' => e = .returned (.int .i64 ((x0 * 256 + x1) : Nat)) ∧ Rd q w' p bs (i + 2) false ∧ Only w w' [p] := by
  have C := next_ok p bs i 2 w h hL him
  have e : (bs.drop i).take 2 = [.int .u8 (x0 : Nat), .int .u8 (x1 : Nat)] := by
    apply List.ext_getElem?
    intro j
    rw [List.getElem?_take, List.getElem?_drop]
    match j with
    | 0 => simpa using h0
    | 1 => simpa using h1
    | j + 2 => simp <;> omega
  clear h h0 h1
  have E := Lib.hid e
  clear e
  go_enter Try.func71, Try.ntmps71
  go_wp2_with (first | (go_at_call 73; ((refine C.mono ?_); rintro e w2 ⟨A2, rfl, ll, hr, o2⟩; rw [E.out] at ll; obtain ⟨b, o, rfl, hb, hc⟩ := ll.plain (by simp); have c0 := hc 0 _ rfl; have c1 := hc 1 _ rfl; rw [Nat.add_zero] at c0; clear hc)))
  refine wp_loop_rounds 3 ?_
  rw [rounds_succ]
  go_wp2
  rw [rounds_succ]
  go_wp2
  rw [rounds_succ]
  go_wp2
  go_ret
  exact ⟨ret_int (by rw [or_first x0 l0, or_next x0 x1 (by omega) l1]), hr, o2⟩

set_option maxRecDepth 100000 in
theorem number4_ok (p : Nat) (bs : List Value) (i x0 x1 x2 x3 : Nat) (w : World) (h : Rd q w p bs i false) (hL : bs.length ≤ 4611686018427387904) (him : i + 4 ≤ bs.length) (h0 : bs[i]? = some (.int .u8 (x0 : Nat))) (h1 : bs[i + 1]? = some (.int .u8 (x1 : Nat))) (h2 : bs[i + 2]? = some (.int .u8 (x2 : Nat))) (h3 : bs[i + 3]? = some (.int .u8 (x3 : Nat))) (l0 : x0 < 256) (l1 : x1 < 256) (l2 : x2 < 256) (l3 : x3 < 256) :
    Calls Try.prog 71 #[.pointer (some ⟨p, 0, none⟩), .int .i64 4] w fun e w' => e = .returned (.int .i64 ((((x0 * 256 + x1) * 256 + x2) * 256 + x3) : Nat)) ∧ Rd q w' p bs (i + 4) false ∧ Only w w' [p] := by
  have C := next_ok p bs i 4 w h hL him
  have e : (bs.drop i).take 4 = [.int .u8 (x0 : Nat), .int .u8 (x1 : Nat), .int .u8 (x2 : Nat), .int .u8 (x3 : Nat)] := by
    apply List.ext_getElem?
    intro j
    rw [List.getElem?_take, List.getElem?_drop]
    match j with
    | 0 => simpa using h0
    | 1 => simpa using h1
    | 2 => simpa using h2
    | 3 => simpa using h3
    | j + 4 => simp <;> omega
  clear h h0 h1 h2 h3
  have E := Lib.hid e
  clear e
  go_enter Try.func71, Try.ntmps71
  go_wp2_with (first | (go_at_call 73; ((refine C.mono ?_); rintro e w2 ⟨A2, rfl, ll, hr, o2⟩; rw [E.out] at ll; obtain ⟨b, o, rfl, hb, hc⟩ := ll.plain (by simp); have c0 := hc 0 _ rfl; have c1 := hc 1 _ rfl; have c2 := hc 2 _ rfl; have c3 := hc 3 _ rfl; rw [Nat.add_zero] at c0; clear hc)))
  refine wp_loop_rounds 5 ?_
  rw [rounds_succ]
  go_wp2
  rw [rounds_succ]
  go_wp2
  rw [rounds_succ]
  go_wp2
  rw [rounds_succ]
  go_wp2
  rw [rounds_succ]
  go_wp2
  go_ret
  exact ⟨ret_int (by rw [or_first x0 l0, or_next x0 x1 (by omega) l1, or_next (x0 * 256 + x1) x2 (by omega) l2, or_next ((x0 * 256 + x1) * 256 + x2) x3 (by omega) l3]), hr, o2⟩


theorem number_bad (p : Nat) (bs : List Value) (i : Nat) (m : Int) (w : World) (h : Rd q w p bs i true) :
    Calls Try.prog 71 #[.pointer (some ⟨p, 0, none⟩), .int .i64 m] w fun e w' => e = .returned (.int .i64 0) ∧ w = w' := by
  have C := next_bad p bs i m w h
  go_enter Try.func71, Try.ntmps71
  go_wp2_with (first | (go_at_call 73; ((refine C.mono ?_); rintro e w2 ⟨rfl, rfl⟩)))
  refine wp_loop_rounds 1 ?_
  rw [rounds_succ]
  go_wp2
  go_ret
  exact ⟨rfl, rfl⟩
theorem number_short (p : Nat) (bs : List Value) (i : Nat) (m : Int) (w : World) (h : Rd q w p bs i false) (hL : bs.length ≤ 4611686018427387904) (him : m < 0 ∨ ((bs.length - i : Nat) : Int) < m) :
    Calls Try.prog 71 #[.pointer (some ⟨p, 0, none⟩), .int .i64 m] w fun e w' => e = .returned (.int .i64 0) ∧ Rd q w' p bs i true ∧ Only w w' [p] := by
  have C := next_short p bs i m w h hL him
  clear h him
  go_enter Try.func71, Try.ntmps71
  go_wp2_with (first | (go_at_call 73; ((refine C.mono ?_); rintro e w2 ⟨rfl, hr, o2⟩)))
  refine wp_loop_rounds 1 ?_
  rw [rounds_succ]
  go_wp2
  go_ret
  exact ⟨rfl, hr, o2⟩

end Go.Proofs.Ytbomgaacahaofaa

namespace Go.Proofs.Ytbomgaacahaofaa
open Go Go.RowKit
variable {q : Nat → Prop}

/-- A copy in new memory. -/
def GaveClone (w : World) (E : List Value) (e : Ending) (w' : World) : Prop := ∃ A c, e = .returned (.slice A E.length c) ∧ Lists w' w'.heap.size A E ∧ E.length ≤ c ∧ c ≤ 9223372036854775807 ∧ Below w.heap.size w w' ∧ (∀ a, A = some a → w.heap.size ≤ a.block)

set_option maxRecDepth 100000 in
theorem clone_any (A : Option Addr) (n c : Nat) (E : List Value) (w : World) (hE : Lists w w.heap.size A E) (hn : E.length = n) (h8 : Bytes8 E) (hm : n ≤ 140737488355328) :
    Calls Try.prog 62 #[.slice A n c] w fun e w' => GaveClone w E e w' := by
  have q1 := fun w => Lib.run_eql_slice_nil (P := Try.prog) w 26 5 A n c 0 0 Try.underlying26
  cases A with
  | none =>
    obtain rfl : E = [] := hE.nil rfl
    obtain rfl : n = 0 := hn.symm
    have hq : GaveClone w [] (.returned (.slice none 0 0)) w := ⟨none, 0, rfl, Lists.empty _ _ _, Nat.le_refl _, by omega, Below.refl _ _, fun a h => (nomatch h)⟩
    go_enter Try.func62, Try.ntmps62
    go_wp2
    all_goals go_ret
    all_goals exact hq
  | some a =>
    obtain ⟨i0, hi, hz0, hz1, hz2⟩ := info_parts u8Info
    have HN := Lib.hid hn
    clear hn
    go_enter Try.func62, Try.ntmps62
    go_wp2_with (first | (at_builtin; refine wpList_append_src _ rfl (.tmp 5) (.tmp 6) 26 rfl w.heap.size 5 i0 (.int .u8 0) 1 1 Try.underlying26 hi hz0 hz1 hz2 rfl (by decide) (.slice (some ⟨w.heap.size, 0, none⟩) 0 0) 0 [] rfl ⟨rfl, .inr ⟨w.heap.size, 0, #[], rfl, Nat.le_refl _, heap_alloc_new w _, Nat.le_refl _, Nat.zero_le _, rfl, rfl⟩⟩ w.heap.size (some a) n c E rfl (hE.alloc (Nat.le_refl _) _) (by rw [HN.out, Nat.mul_one]) h8.one (by simp only [maxLen]; omega) (by omega) (by simp) ?_; intro v1 w1 hown hg hat; rw [Nat.zero_add, List.nil_append] at hown))
    go_ret
    have hb : Below w.heap.size w w1 := ((Below.refl _ _).alloc (Nat.le_refl _) _).grown hg (by simp) (fun j hj => by cases hj; exact Nat.le_refl _)
    obtain ⟨A2, c2, hv, hl, hc2⟩ := own_lists hown
    have hcm : c2 ≤ maxLen := by
      rcases hown.2 with ⟨h, _⟩ | ⟨g, cap, cur, h, _, _, _, h7, _⟩
      · rw [hv] at h; injection h with _ _ h; omega
      · rw [hv] at h; injection h with _ _ h; omega
    have hlow : ∀ a, A2 = some a → w.heap.size ≤ a.block := by
      rcases hown.2 with ⟨h, _⟩ | ⟨g, cap, cur, h, h1, _⟩
      · rw [hv] at h; injection h with h; intro a ha; rw [h] at ha; cases ha
      · rw [hv] at h; injection h with h; intro a ha; rw [h] at ha; cases ha; exact h1
    unfold maxLen at hcm
    exact ⟨A2, c2, by rw [HN.out]; exact congrArg _ hv, hl, by rw [HN.out]; exact hc2, by omega, hb, hlow⟩

/-- A new reader was answered. -/
def MadeRd (w : World) (E : List Value) (e : Ending) (w' : World) : Prop := ∃ p, e = .returned (.pointer (some ⟨p, 0, none⟩)) ∧ Rd (fun b => w.heap.size ≤ b ∧ b < w'.heap.size) w' p E 0 false ∧ Below w.heap.size w w' ∧ w.heap.size ≤ p

theorem new_any (A : Option Addr) (n c : Nat) (E : List Value) (w : World) (hE : Lists w w.heap.size A E) (hn : E.length = n) (h8 : Bytes8 E) (hm : n ≤ 140737488355328) :
    Calls Try.prog 49 #[.slice A n c] w fun e w' => MadeRd w E e w' := by
  have C := clone_any A n c E w hE hn h8 hm
  clear hE hn
  go_enter Try.func49, Try.ntmps49
  go_wp2_with (first | (go_at_call 62; ((refine C.mono ?_); rintro e w1 ⟨A1, c1, rfl, hl, hc, hc2, hb, hlow⟩)))
  go_ret
  refine ⟨w1.heap.size, rfl, ⟨A1, c1, Blk.new w1 _ _, (hl.alloc (Nat.le_refl _) _).more (by simp), h8, Nat.zero_le _, hc, hc2, fun a ha hx => ?_⟩, hb.alloc hb.size _, hb.size⟩
  have := hl.lt a ha hx
  exact ⟨by omega, hlow a ha, by simp <;> omega⟩

theorem rU16_ok (p : Nat) (bs : List Value) (i x0 x1 : Nat) (w : World) (h : Rd q w p bs i false) (hL : bs.length ≤ 4611686018427387904) (him : i + 2 ≤ bs.length) (h0 : bs[i]? = some (.int .u8 (x0 : Nat))) (h1 : bs[i + 1]? = some (.int .u8 (x1 : Nat))) (l0 : x0 < 256) (l1 : x1 < 256) :
    Calls Try.prog 65 #[.pointer (some ⟨p, 0, none⟩)] w fun e w' => e = .returned (.int .i64 (x0 * 256 + x1 : Nat)) ∧ Rd q w' p bs (i + 2) false ∧ Only w w' [p] := by
  have C := number2_ok p bs i x0 x1 w h hL him h0 h1 l0 l1
  clear h h0 h1
  go_enter Try.func65, Try.ntmps65
  go_wp2_with (first | (go_at_call 71; ((refine C.mono ?_); rintro e w2 ⟨rfl, hr, o2⟩)))
  go_ret
  exact ⟨rfl, hr, o2⟩
theorem rU16_short (p : Nat) (bs : List Value) (i : Nat) (w : World) (h : Rd q w p bs i false) (hL : bs.length ≤ 4611686018427387904) (him : bs.length - i < 2) :
    Calls Try.prog 65 #[.pointer (some ⟨p, 0, none⟩)] w fun e w' => e = .returned (.int .i64 0) ∧ Rd q w' p bs i true ∧ Only w w' [p] := by
  have C := number_short p bs i 2 w h hL (.inr (by omega))
  clear h
  go_enter Try.func65, Try.ntmps65
  go_wp2_with (first | (go_at_call 71; ((refine C.mono ?_); rintro e w2 ⟨rfl, hr, o2⟩)))
  go_ret
  exact ⟨rfl, hr, o2⟩

end Go.Proofs.Ytbomgaacahaofaa

namespace Go.Proofs.Ytbomgaacahaofaa
open Go Go.RowKit

variable {q : Nat → Prop}
theorem Rd.bytes {w : World} {p i : Nat} {bs : List Value} {bad : Bool} (h : Rd q w p bs i bad) : Bytes8 bs := by
  obtain ⟨_, _, _, _, h8, _⟩ := h
  exact h8
/-- A number was read: x; the reader stands at i. -/
def ReadN (q : Nat → Prop) (w : World) (p : Nat) (bs : List Value) (i : Nat) (x : Int) (e : Ending) (w' : World) : Prop := e = .returned (.int .i64 x) ∧ Rd q w' p bs i false ∧ Only w w' [p]
theorem rdNum2 (p : Nat) (bs : List Value) (i : Nat) (w : World) (h : Rd q w p bs i false) (hL : bs.length ≤ 4611686018427387904) (him : i + 2 ≤ bs.length) :
    Calls Try.prog 71 #[.pointer (some ⟨p, 0, none⟩), .int .i64 2] w (ReadN q w p bs (i + 2) (rd2 bs i : Nat)) :=
  number2_ok p bs i (byteAt bs i) (byteAt bs (i + 1)) w h hL him (byteAt_get h.bytes (by omega)) (byteAt_get h.bytes (by omega)) (byteAt_lt h.bytes _) (byteAt_lt h.bytes _)
theorem rdNum4 (p : Nat) (bs : List Value) (i : Nat) (w : World) (h : Rd q w p bs i false) (hL : bs.length ≤ 4611686018427387904) (him : i + 4 ≤ bs.length) :
    Calls Try.prog 71 #[.pointer (some ⟨p, 0, none⟩), .int .i64 4] w (ReadN q w p bs (i + 4) (rd4 bs i : Nat)) :=
  number4_ok p bs i (byteAt bs i) (byteAt bs (i + 1)) (byteAt bs (i + 2)) (byteAt bs (i + 3)) w h hL him (byteAt_get h.bytes (by omega)) (byteAt_get h.bytes (by omega)) (byteAt_get h.bytes (by omega)) (byteAt_get h.bytes (by omega)) (byteAt_lt h.bytes _) (byteAt_lt h.bytes _) (byteAt_lt h.bytes _) (byteAt_lt h.bytes _)
theorem rdU16 (p : Nat) (bs : List Value) (i : Nat) (w : World) (h : Rd q w p bs i false) (hL : bs.length ≤ 4611686018427387904) (him : i + 2 ≤ bs.length) :
    Calls Try.prog 65 #[.pointer (some ⟨p, 0, none⟩)] w (ReadN q w p bs (i + 2) (rd2 bs i : Nat)) := by
  have C := rdNum2 p bs i w h hL him
  clear h
  go_enter Try.func65, Try.ntmps65
  go_wp2_with (first | (go_at_call 71; ((refine C.mono ?_); rintro e w2 ⟨rfl, hr, o2⟩)))
  go_ret
  exact ⟨rfl, hr, o2⟩
theorem rdU32 (p : Nat) (bs : List Value) (i : Nat) (w : World) (h : Rd q w p bs i false) (hL : bs.length ≤ 4611686018427387904) (him : i + 4 ≤ bs.length) :
    Calls Try.prog 67 #[.pointer (some ⟨p, 0, none⟩)] w (ReadN q w p bs (i + 4) (rd4 bs i : Nat)) := by
  have C := rdNum4 p bs i w h hL him
  clear h
  go_enter Try.func67, Try.ntmps67
  go_wp2_with (first | (go_at_call 71; ((refine C.mono ?_); rintro e w2 ⟨rfl, hr, o2⟩)))
  go_ret
  exact ⟨rfl, hr, o2⟩
theorem s16_wrap (x : Nat) (h : x < 65536) : wrap64 (IntKind.i16.wrap (x : Int)) = s16 x := by
  have e : IntKind.i16.wrap (x : Int) = s16 x := by
    unfold s16
    by_cases h1 : x < 32768
    · rw [if_pos h1]; exact IntWalk.i16_in _ (by omega)
    · rw [if_neg h1]
      have h2 : (x : Int) % 65536 = x := by omega
      simp only [IntKind.wrap, IntKind.bits, IntKind.signed, Bool.true_and]
      have h3 : (if decide ((x : Int) % 65536 ≥ 32768) = true then (x : Int) % 65536 - 65536 else (x : Int) % 65536) = (x : Int) - 65536 := by rw [h2, if_pos (by simp; omega)]
      exact h3
  rw [e]
  unfold wrap64 s16
  split <;> omega
theorem rdI16 (p : Nat) (bs : List Value) (i : Nat) (w : World) (h : Rd q w p bs i false) (hL : bs.length ≤ 4611686018427387904) (him : i + 2 ≤ bs.length) :
    Calls Try.prog 66 #[.pointer (some ⟨p, 0, none⟩)] w (ReadN q w p bs (i + 2) (s16 (rd2 bs i))) := by
  have C := rdNum2 p bs i w h hL him
  have hlt := rd2_lt h.bytes i
  clear h
  generalize rd2 bs i = x at *
  go_enter Try.func66, Try.ntmps66
  go_wp2_with (first | (go_at_call 71; ((refine C.mono ?_); rintro e w2 ⟨rfl, hr, o2⟩)))
  go_ret
  exact ⟨ret_int (s16_wrap x hlt), hr, o2⟩

end Go.Proofs.Ytbomgaacahaofaa

namespace Go.Proofs.Ytbomgaacahaofaa
open Go Go.RowKit

variable {q : Nat → Prop}
def RS (q : Nat → Prop) (w : World) (p : Nat) (bs : List Value) (k : Nat) : Prop := (k ≤ bs.length ∧ Rd q w p bs k false) ∨ (bs.length < k ∧ ∃ i, Rd q w p bs i true)
theorem RS.below {w w1 : World} {p k : Nat} {bs : List Value} (h : RS q w p bs k) (b : Below w.heap.size w w1) : RS q w1 p bs k :=
  h.imp (fun ⟨h1, h2⟩ => ⟨h1, h2.below b⟩) (fun ⟨h1, i, h2⟩ => ⟨h1, i, h2.below b⟩)
theorem RS.only {w w1 : World} {p k : Nat} {bs : List Value} {fp : List Nat} (h : RS q w p bs k) (o : Only w w1 fp) (hp : p ∉ fp) (hq : ∀ b ∈ fp, ¬ q b) : RS q w1 p bs k :=
  h.imp (fun ⟨h1, h2⟩ => ⟨h1, h2.only o hp hq⟩) (fun ⟨h1, i, h2⟩ => ⟨h1, i, h2.only o hp hq⟩)
theorem RS.bytes {w : World} {p k : Nat} {bs : List Value} (h : RS q w p bs k) : Bytes8 bs := h.elim (fun h => h.2.bytes) fun ⟨_, _, h⟩ => h.bytes

/-- The number of m bytes at k: 0 where they are not all there. -/
def rsn (bs : List Value) (m k : Nat) (x : Nat) : Nat := if k + m ≤ bs.length then x else 0
theorem rsn_lt {bs : List Value} {m k x B : Nat} (h : x < B) : rsn bs m k x < B := by unfold rsn; split <;> omega
/-- A number was read by a reader that may have come to its end. -/
def ReadS (q : Nat → Prop) (w : World) (p : Nat) (bs : List Value) (k : Nat) (x : Int) (e : Ending) (w' : World) : Prop := e = .returned (.int .i64 x) ∧ RS q w' p bs k ∧ Only w w' [p]

theorem rs_num (p : Nat) (bs : List Value) (k m x : Nat) (w : World) (h : RS q w p bs k) (hL : bs.length ≤ 4611686018427387904) (hm : 0 < m)
    (C : k + m ≤ bs.length → Rd q w p bs k false → Calls Try.prog 71 #[.pointer (some ⟨p, 0, none⟩), .int .i64 (m : Nat)] w fun e w' => e = .returned (.int .i64 (x : Nat)) ∧ Rd q w' p bs (k + m) false ∧ Only w w' [p]) :
    Calls Try.prog 71 #[.pointer (some ⟨p, 0, none⟩), .int .i64 (m : Nat)] w (ReadS q w p bs (k + m) (rsn bs m k x : Nat)) := by
  unfold rsn
  rcases h with ⟨h1, h2⟩ | ⟨h1, i, h2⟩
  · by_cases hk : k + m ≤ bs.length
    · rw [if_pos hk]
      exact (C hk h2).mono fun e w' ⟨a, b, c⟩ => ⟨a, .inl ⟨hk, b⟩, c⟩
    · rw [if_neg hk]
      exact (number_short p bs k (m : Nat) w h2 hL (.inr (by omega))).mono fun e w' ⟨a, b, c⟩ => ⟨a, .inr ⟨by omega, k, b⟩, c⟩
  · rw [if_neg (by omega)]
    exact (number_bad p bs i (m : Nat) w h2).mono fun e w' ⟨a, b⟩ => ⟨a, .inr ⟨by omega, i, b ▸ h2⟩, b ▸ Only.refl _ _⟩
theorem rsNum1 (p : Nat) (bs : List Value) (k : Nat) (w : World) (h : RS q w p bs k) (hL : bs.length ≤ 4611686018427387904) :
    Calls Try.prog 71 #[.pointer (some ⟨p, 0, none⟩), .int .i64 1] w (ReadS q w p bs (k + 1) (rsn bs 1 k (byteAt bs k) : Nat)) :=
  rs_num p bs k 1 _ w h hL (by decide) fun hk hR => number1_ok p bs k (byteAt bs k) w hR hL hk (byteAt_get hR.bytes (by omega)) (byteAt_lt hR.bytes _)
theorem rsNum2 (p : Nat) (bs : List Value) (k : Nat) (w : World) (h : RS q w p bs k) (hL : bs.length ≤ 4611686018427387904) :
    Calls Try.prog 71 #[.pointer (some ⟨p, 0, none⟩), .int .i64 2] w (ReadS q w p bs (k + 2) (rsn bs 2 k (rd2 bs k) : Nat)) :=
  rs_num p bs k 2 _ w h hL (by decide) fun hk hR => rdNum2 p bs k w hR hL hk
theorem rsNum4 (p : Nat) (bs : List Value) (k : Nat) (w : World) (h : RS q w p bs k) (hL : bs.length ≤ 4611686018427387904) :
    Calls Try.prog 71 #[.pointer (some ⟨p, 0, none⟩), .int .i64 4] w (ReadS q w p bs (k + 4) (rsn bs 4 k (rd4 bs k) : Nat)) :=
  rs_num p bs k 4 _ w h hL (by decide) fun hk hR => rdNum4 p bs k w hR hL hk

theorem rsU8 (p : Nat) (bs : List Value) (k : Nat) (w : World) (h : RS q w p bs k) (hL : bs.length ≤ 4611686018427387904) :
    Calls Try.prog 64 #[.pointer (some ⟨p, 0, none⟩)] w (ReadS q w p bs (k + 1) (rsn bs 1 k (byteAt bs k) : Nat)) := by
  have C := rsNum1 p bs k w h hL
  clear h
  go_enter Try.func64, Try.ntmps64
  go_wp2_with (first | (go_at_call 71; ((refine C.mono ?_); rintro e w2 ⟨rfl, hr, o2⟩)))
  go_ret
  exact ⟨rfl, hr, o2⟩
theorem rsU16 (p : Nat) (bs : List Value) (k : Nat) (w : World) (h : RS q w p bs k) (hL : bs.length ≤ 4611686018427387904) :
    Calls Try.prog 65 #[.pointer (some ⟨p, 0, none⟩)] w (ReadS q w p bs (k + 2) (rsn bs 2 k (rd2 bs k) : Nat)) := by
  have C := rsNum2 p bs k w h hL
  clear h
  go_enter Try.func65, Try.ntmps65
  go_wp2_with (first | (go_at_call 71; ((refine C.mono ?_); rintro e w2 ⟨rfl, hr, o2⟩)))
  go_ret
  exact ⟨rfl, hr, o2⟩
theorem rsU32 (p : Nat) (bs : List Value) (k : Nat) (w : World) (h : RS q w p bs k) (hL : bs.length ≤ 4611686018427387904) :
    Calls Try.prog 67 #[.pointer (some ⟨p, 0, none⟩)] w (ReadS q w p bs (k + 4) (rsn bs 4 k (rd4 bs k) : Nat)) := by
  have C := rsNum4 p bs k w h hL
  clear h
  go_enter Try.func67, Try.ntmps67
  go_wp2_with (first | (go_at_call 71; ((refine C.mono ?_); rintro e w2 ⟨rfl, hr, o2⟩)))
  go_ret
  exact ⟨rfl, hr, o2⟩
theorem rsI16 (p : Nat) (bs : List Value) (k : Nat) (w : World) (h : RS q w p bs k) (hL : bs.length ≤ 4611686018427387904) :
    Calls Try.prog 66 #[.pointer (some ⟨p, 0, none⟩)] w (ReadS q w p bs (k + 2) (s16 (rsn bs 2 k (rd2 bs k)))) := by
  have C := rsNum2 p bs k w h hL
  have hlt : rsn bs 2 k (rd2 bs k) < 65536 := rsn_lt (rd2_lt h.bytes k)
  clear h
  generalize rsn bs 2 k (rd2 bs k) = x at *
  go_enter Try.func66, Try.ntmps66
  go_wp2_with (first | (go_at_call 71; ((refine C.mono ?_); rintro e w2 ⟨rfl, hr, o2⟩)))
  go_ret
  exact ⟨ret_int (s16_wrap x hlt), hr, o2⟩

end Go.Proofs.Ytbomgaacahaofaa

namespace Go.Proofs.Ytbomgaacahaofaa
open Go Go.RowKit

variable {q : Nat → Prop}
/-- How many bytes a number of a kind has. -/
def wid : Nat → Nat
  | 0 => 1
  | 3 => 4
  | _ => 2
/-- The number of a kind that is read at k. -/
def rdk (bs : List Value) (kd k : Nat) : Int :=
  match kd with
  | 0 => (rsn bs 1 k (byteAt bs k) : Nat)
  | 1 => (rsn bs 2 k (rd2 bs k) : Nat)
  | 2 => s16 (rsn bs 2 k (rd2 bs k))
  | _ => (rsn bs 4 k (rd4 bs k) : Nat)
/-- A place had a number brought. -/
def Came (q : Nat → Prop) (w : World) (p : Nat) (bs : List Value) (k b : Nat) (T : TypeId) (cs : Array Value) (o : Nat) (x : Int) (e : Ending) (w' : World) : Prop :=
  e = .returned (.tuple #[]) ∧ RS q w' p bs k ∧ Blk w' b T (cs.setIfInBounds o (.int .i64 x)) ∧ Only w w' [p, b]

set_option maxRecDepth 100000 in
theorem from_U8 (r p b o k : Nat) (bs : List Value) (T : TypeId) (cs : Array Value) (w : World) (hr : Blk w r 99 #[.pointer (some ⟨p, 0, none⟩)]) (h : RS q w p bs k) (hL : bs.length ≤ 4611686018427387904) (hb : Blk w b T cs) (ho : o < cs.size)
    (n2 : b ≠ p) (n4 : ¬ q b) :
    Calls Try.prog 63 #[.int .i64 0, .pointer (some ⟨b, o, none⟩), .pointer (some ⟨r, 0, none⟩)] w (Came q w p bs (k + 1) b T cs o (rdk bs 0 k)) := by
  have C := rsU8 p bs k w h hL
  have g0 : w.cell? ⟨r, 0, none⟩ = some (.pointer (some ⟨p, 0, none⟩)) := hr.cell 0
  clear h
  go_enter Try.func63, Try.ntmps63
  go_wp2_with (first | (go_at_call 64; ((refine C.mono ?_); rintro e w1 ⟨rfl, hs, o1⟩; have hb1 : Blk w1 b T cs := hb.only o1 (by simpa using n2); have g1 : w1.cell? ⟨b, o, none⟩ = some (cs[o]'ho) := (hb1.cell o).trans (Array.getElem?_eq_getElem ho); have z1 : w1.frozen? ⟨b, o, none⟩ = false := hb1.frozen o)))
  go_end0
  have o2 : Only w (w1.setCell ⟨b, o, none⟩ (.int .i64 (rdk bs 0 k))) [p, b] := (o1.more (by simp)).set (.inl (by simp)) _
  exact ⟨rfl, hs.only ((Only.refl w1 [b]).set (.inl (by simp)) _) (by simpa using n2.symm) (by simpa using n4), hb1.set o _, o2⟩
set_option maxRecDepth 100000 in
theorem from_U16 (r p b o k : Nat) (bs : List Value) (T : TypeId) (cs : Array Value) (w : World) (hr : Blk w r 99 #[.pointer (some ⟨p, 0, none⟩)]) (h : RS q w p bs k) (hL : bs.length ≤ 4611686018427387904) (hb : Blk w b T cs) (ho : o < cs.size)
    (n2 : b ≠ p) (n4 : ¬ q b) :
    Calls Try.prog 63 #[.int .i64 1, .pointer (some ⟨b, o, none⟩), .pointer (some ⟨r, 0, none⟩)] w (Came q w p bs (k + 2) b T cs o (rdk bs 1 k)) := by
  have C := rsU16 p bs k w h hL
  have g0 : w.cell? ⟨r, 0, none⟩ = some (.pointer (some ⟨p, 0, none⟩)) := hr.cell 0
  clear h
  go_enter Try.func63, Try.ntmps63
  go_wp2_with (first | (go_at_call 65; ((refine C.mono ?_); rintro e w1 ⟨rfl, hs, o1⟩; have hb1 : Blk w1 b T cs := hb.only o1 (by simpa using n2); have g1 : w1.cell? ⟨b, o, none⟩ = some (cs[o]'ho) := (hb1.cell o).trans (Array.getElem?_eq_getElem ho); have z1 : w1.frozen? ⟨b, o, none⟩ = false := hb1.frozen o)))
  go_end0
  have o2 : Only w (w1.setCell ⟨b, o, none⟩ (.int .i64 (rdk bs 1 k))) [p, b] := (o1.more (by simp)).set (.inl (by simp)) _
  exact ⟨rfl, hs.only ((Only.refl w1 [b]).set (.inl (by simp)) _) (by simpa using n2.symm) (by simpa using n4), hb1.set o _, o2⟩
set_option maxRecDepth 100000 in
theorem from_I16 (r p b o k : Nat) (bs : List Value) (T : TypeId) (cs : Array Value) (w : World) (hr : Blk w r 99 #[.pointer (some ⟨p, 0, none⟩)]) (h : RS q w p bs k) (hL : bs.length ≤ 4611686018427387904) (hb : Blk w b T cs) (ho : o < cs.size)
    (n2 : b ≠ p) (n4 : ¬ q b) :
    Calls Try.prog 63 #[.int .i64 2, .pointer (some ⟨b, o, none⟩), .pointer (some ⟨r, 0, none⟩)] w (Came q w p bs (k + 2) b T cs o (rdk bs 2 k)) := by
  have C := rsI16 p bs k w h hL
  have g0 : w.cell? ⟨r, 0, none⟩ = some (.pointer (some ⟨p, 0, none⟩)) := hr.cell 0
  clear h
  go_enter Try.func63, Try.ntmps63
  go_wp2_with (first | (go_at_call 66; ((refine C.mono ?_); rintro e w1 ⟨rfl, hs, o1⟩; have hb1 : Blk w1 b T cs := hb.only o1 (by simpa using n2); have g1 : w1.cell? ⟨b, o, none⟩ = some (cs[o]'ho) := (hb1.cell o).trans (Array.getElem?_eq_getElem ho); have z1 : w1.frozen? ⟨b, o, none⟩ = false := hb1.frozen o)))
  go_end0
  have o2 : Only w (w1.setCell ⟨b, o, none⟩ (.int .i64 (rdk bs 2 k))) [p, b] := (o1.more (by simp)).set (.inl (by simp)) _
  exact ⟨rfl, hs.only ((Only.refl w1 [b]).set (.inl (by simp)) _) (by simpa using n2.symm) (by simpa using n4), hb1.set o _, o2⟩
set_option maxRecDepth 100000 in
theorem from_U32 (r p b o k : Nat) (bs : List Value) (T : TypeId) (cs : Array Value) (w : World) (hr : Blk w r 99 #[.pointer (some ⟨p, 0, none⟩)]) (h : RS q w p bs k) (hL : bs.length ≤ 4611686018427387904) (hb : Blk w b T cs) (ho : o < cs.size)
    (n2 : b ≠ p) (n4 : ¬ q b) :
    Calls Try.prog 63 #[.int .i64 3, .pointer (some ⟨b, o, none⟩), .pointer (some ⟨r, 0, none⟩)] w (Came q w p bs (k + 4) b T cs o (rdk bs 3 k)) := by
  have C := rsU32 p bs k w h hL
  have g0 : w.cell? ⟨r, 0, none⟩ = some (.pointer (some ⟨p, 0, none⟩)) := hr.cell 0
  clear h
  go_enter Try.func63, Try.ntmps63
  go_wp2_with (first | (go_at_call 67; ((refine C.mono ?_); rintro e w1 ⟨rfl, hs, o1⟩; have hb1 : Blk w1 b T cs := hb.only o1 (by simpa using n2); have g1 : w1.cell? ⟨b, o, none⟩ = some (cs[o]'ho) := (hb1.cell o).trans (Array.getElem?_eq_getElem ho); have z1 : w1.frozen? ⟨b, o, none⟩ = false := hb1.frozen o)))
  go_end0
  have o2 : Only w (w1.setCell ⟨b, o, none⟩ (.int .i64 (rdk bs 3 k))) [p, b] := (o1.more (by simp)).set (.inl (by simp)) _
  exact ⟨rfl, hs.only ((Only.refl w1 [b]).set (.inl (by simp)) _) (by simpa using n2.symm) (by simpa using n4), hb1.set o _, o2⟩

theorem from_any (kd : Nat) (hk : kd < 4) (r p b o k : Nat) (bs : List Value) (T : TypeId) (cs : Array Value) (w : World) (hr : Blk w r 99 #[.pointer (some ⟨p, 0, none⟩)]) (h : RS q w p bs k) (hL : bs.length ≤ 4611686018427387904) (hb : Blk w b T cs) (ho : o < cs.size)
    (n2 : b ≠ p) (n4 : ¬ q b) :
    Calls Try.prog 63 #[.int .i64 (kd : Nat), .pointer (some ⟨b, o, none⟩), .pointer (some ⟨r, 0, none⟩)] w (Came q w p bs (k + wid kd) b T cs o (rdk bs kd k)) := by
  rcases kd with _ | _ | _ | _ | kd
  · exact from_U8 r p b o k bs T cs w hr h hL hb ho n2 n4
  · exact from_U16 r p b o k bs T cs w hr h hL hb ho n2 n4
  · exact from_I16 r p b o k bs T cs w hr h hL hb ho n2 n4
  · exact from_U32 r p b o k bs T cs w hr h hL hb ho n2 n4
  · omega

end Go.Proofs.Ytbomgaacahaofaa

namespace Go.Proofs.Ytbomgaacahaofaa
open Go Go.RowKit

/-- The bytes of a number of a kind. -/
def bek (kd : Nat) (x : Int) : List Value :=
  match kd with
  | 0 => be1 x
  | 3 => be4 x
  | _ => be2 x
theorem bek_length (kd : Nat) (hk : kd < 4) (x : Int) : (bek kd x).length = wid kd := by
  rcases kd with _ | _ | _ | _ | kd
  · rfl
  · rfl
  · rfl
  · rfl
  · omega
/-- A number was put. -/
def Went (w0 w : World) (p R : Nat) (L E : List Value) (e : Ending) (w' : World) : Prop := e = .returned (.tuple #[]) ∧ WS w0 w' p R (L ++ E) ∧ Safe w w' ∧ w.heap.size ≤ w'.heap.size

set_option maxRecDepth 100000 in
theorem into_U8 (w0 : World) (r p b o R : Nat) (L : List Value) (x : Int) (T : TypeId) (cs : Array Value) (w : World) (hr : Blk w r 81 #[.pointer (some ⟨p, 0, none⟩)]) (h : WS w0 w p R L) (hR : R ≤ 1099511627776) (hL : L.length + 1 ≤ R) (hb : Blk w b T cs) (ho : cs[o]? = some (.int .i64 x))
    (n1 : T ≠ 5) (n2 : T ≠ 110) (n3 : T ≠ 108) :
    Calls Try.prog 53 #[.int .i64 0, .pointer (some ⟨b, o, none⟩), .pointer (some ⟨r, 0, none⟩)] w (Went w0 w p R L (bek 0 x)) := by
  have hI : ∀ w1, Safe w w1 → w1.cell? ⟨r, 0, none⟩ = some (.pointer (some ⟨p, 0, none⟩)) ∧ w1.cell? ⟨b, o, none⟩ = some (.int .i64 x) :=
    fun w1 hs => ⟨(hs r _ _ (by decide) (by decide) (by decide) hr).cell 0, ((hs b T cs n1 n2 n3 hb).cell o).trans ho⟩
  have hS : Safe w w.drew := fun q T cs _ _ _ hq => hq.below ((Below.refl _ _).drew)
  go_enter Try.func53, Try.ntmps53
  go_wp2
  refine wp_region_chain (fun w' => w'.cell? ⟨r, 0, none⟩ = some (.pointer (some ⟨p, 0, none⟩)) ∧ w'.cell? ⟨b, o, none⟩ = some (.int .i64 x)) [(0, false), (1, false), (2, false), (3, false), (4, true)] (by kernel_rfl) (by kernel_rfl) (hI _ hS) ?_
  repeat (first
    | (refine ChainL.skip (o := ?_) ?_ ?_ ?_; rotate_left; (focus (first | (simp only [List.getElem?_toArray, List.getElem?_cons_succ, List.getElem?_cons_zero]; with_reducible rfl) | (simp only [List.getElem?_toArray, List.getElem?_cons_zero]; with_reducible rfl))); (focus rfl); simp only [Act.put, List.setIfInBounds_toArray, List.set_cons_zero, List.set_cons_succ])
    | (refine ChainL.val (o := ?_) (v := ?_) ?_ ?_ ?_ ?_ ?_; rotate_left 2; (focus (first | (simp only [List.getElem?_toArray, List.getElem?_cons_succ, List.getElem?_cons_zero]; with_reducible rfl) | (simp only [List.getElem?_toArray, List.getElem?_cons_zero]; with_reducible rfl))); (focus (intro _ _ h; cases h)); (focus rfl); (focus (intro w' hI; obtain ⟨g0, g1⟩ := hI; go_simp <;> with_reducible rfl)); simp only [Act.put, List.setIfInBounds_toArray, List.set_cons_zero, List.set_cons_succ]))
  refine ChainL.call (o := ?_) (f := ?_) (args := ?_) ?_ ?_ ?_ ?_
  rotate_left 3
  (focus (simp only [List.getElem?_toArray, List.getElem?_cons_succ, List.getElem?_cons_zero]; with_reducible rfl))
  (focus rfl)
  (focus (go_simp; (constructor <;> with_reducible rfl)))
  refine (wsU8 w0 _ p R L x (h.below ((Below.refl _ _).drew)) hL hR).mono ?_
  rintro e w2 ⟨rfl, hw, hs, hz⟩
  have hs2 : Safe w w2 := fun q T cs m1 m2 m3 hq => hs q T cs m1 m2 m3 (hS q T cs m1 m2 m3 hq)
  refine ⟨_, rfl, hI _ hs2, ?_⟩
  simp only [Act.put, List.setIfInBounds_toArray, List.set_cons_zero, List.set_cons_succ]
  refine ChainL.nil ?_
  go_wp2
  go_end0
  exact ⟨rfl, hw, hs2, hz⟩
set_option maxRecDepth 100000 in
theorem into_U16 (w0 : World) (r p b o R : Nat) (L : List Value) (x : Int) (T : TypeId) (cs : Array Value) (w : World) (hr : Blk w r 81 #[.pointer (some ⟨p, 0, none⟩)]) (h : WS w0 w p R L) (hR : R ≤ 1099511627776) (hL : L.length + 2 ≤ R) (hb : Blk w b T cs) (ho : cs[o]? = some (.int .i64 x))
    (n1 : T ≠ 5) (n2 : T ≠ 110) (n3 : T ≠ 108) :
    Calls Try.prog 53 #[.int .i64 1, .pointer (some ⟨b, o, none⟩), .pointer (some ⟨r, 0, none⟩)] w (Went w0 w p R L (bek 1 x)) := by
  have hI : ∀ w1, Safe w w1 → w1.cell? ⟨r, 0, none⟩ = some (.pointer (some ⟨p, 0, none⟩)) ∧ w1.cell? ⟨b, o, none⟩ = some (.int .i64 x) :=
    fun w1 hs => ⟨(hs r _ _ (by decide) (by decide) (by decide) hr).cell 0, ((hs b T cs n1 n2 n3 hb).cell o).trans ho⟩
  have hS : Safe w w.drew := fun q T cs _ _ _ hq => hq.below ((Below.refl _ _).drew)
  go_enter Try.func53, Try.ntmps53
  go_wp2
  refine wp_region_chain (fun w' => w'.cell? ⟨r, 0, none⟩ = some (.pointer (some ⟨p, 0, none⟩)) ∧ w'.cell? ⟨b, o, none⟩ = some (.int .i64 x)) [(0, false), (1, false), (2, false), (3, false), (4, true)] (by kernel_rfl) (by kernel_rfl) (hI _ hS) ?_
  repeat (first
    | (refine ChainL.skip (o := ?_) ?_ ?_ ?_; rotate_left; (focus (first | (simp only [List.getElem?_toArray, List.getElem?_cons_succ, List.getElem?_cons_zero]; with_reducible rfl) | (simp only [List.getElem?_toArray, List.getElem?_cons_zero]; with_reducible rfl))); (focus rfl); simp only [Act.put, List.setIfInBounds_toArray, List.set_cons_zero, List.set_cons_succ])
    | (refine ChainL.val (o := ?_) (v := ?_) ?_ ?_ ?_ ?_ ?_; rotate_left 2; (focus (first | (simp only [List.getElem?_toArray, List.getElem?_cons_succ, List.getElem?_cons_zero]; with_reducible rfl) | (simp only [List.getElem?_toArray, List.getElem?_cons_zero]; with_reducible rfl))); (focus (intro _ _ h; cases h)); (focus rfl); (focus (intro w' hI; obtain ⟨g0, g1⟩ := hI; go_simp <;> with_reducible rfl)); simp only [Act.put, List.setIfInBounds_toArray, List.set_cons_zero, List.set_cons_succ]))
  refine ChainL.call (o := ?_) (f := ?_) (args := ?_) ?_ ?_ ?_ ?_
  rotate_left 3
  (focus (simp only [List.getElem?_toArray, List.getElem?_cons_succ, List.getElem?_cons_zero]; with_reducible rfl))
  (focus rfl)
  (focus (go_simp; (constructor <;> with_reducible rfl)))
  refine (wsU16 w0 _ p R L x (h.below ((Below.refl _ _).drew)) hL hR).mono ?_
  rintro e w2 ⟨rfl, hw, hs, hz⟩
  have hs2 : Safe w w2 := fun q T cs m1 m2 m3 hq => hs q T cs m1 m2 m3 (hS q T cs m1 m2 m3 hq)
  refine ⟨_, rfl, hI _ hs2, ?_⟩
  simp only [Act.put, List.setIfInBounds_toArray, List.set_cons_zero, List.set_cons_succ]
  refine ChainL.nil ?_
  go_wp2
  go_end0
  exact ⟨rfl, hw, hs2, hz⟩
set_option maxRecDepth 100000 in
theorem into_I16 (w0 : World) (r p b o R : Nat) (L : List Value) (x : Int) (T : TypeId) (cs : Array Value) (w : World) (hr : Blk w r 81 #[.pointer (some ⟨p, 0, none⟩)]) (h : WS w0 w p R L) (hR : R ≤ 1099511627776) (hL : L.length + 2 ≤ R) (hb : Blk w b T cs) (ho : cs[o]? = some (.int .i64 x))
    (n1 : T ≠ 5) (n2 : T ≠ 110) (n3 : T ≠ 108) :
    Calls Try.prog 53 #[.int .i64 2, .pointer (some ⟨b, o, none⟩), .pointer (some ⟨r, 0, none⟩)] w (Went w0 w p R L (bek 2 x)) := by
  have hI : ∀ w1, Safe w w1 → w1.cell? ⟨r, 0, none⟩ = some (.pointer (some ⟨p, 0, none⟩)) ∧ w1.cell? ⟨b, o, none⟩ = some (.int .i64 x) :=
    fun w1 hs => ⟨(hs r _ _ (by decide) (by decide) (by decide) hr).cell 0, ((hs b T cs n1 n2 n3 hb).cell o).trans ho⟩
  have hS : Safe w w.drew := fun q T cs _ _ _ hq => hq.below ((Below.refl _ _).drew)
  go_enter Try.func53, Try.ntmps53
  go_wp2
  refine wp_region_chain (fun w' => w'.cell? ⟨r, 0, none⟩ = some (.pointer (some ⟨p, 0, none⟩)) ∧ w'.cell? ⟨b, o, none⟩ = some (.int .i64 x)) [(0, false), (1, false), (2, false), (3, false), (4, true)] (by kernel_rfl) (by kernel_rfl) (hI _ hS) ?_
  repeat (first
    | (refine ChainL.skip (o := ?_) ?_ ?_ ?_; rotate_left; (focus (first | (simp only [List.getElem?_toArray, List.getElem?_cons_succ, List.getElem?_cons_zero]; with_reducible rfl) | (simp only [List.getElem?_toArray, List.getElem?_cons_zero]; with_reducible rfl))); (focus rfl); simp only [Act.put, List.setIfInBounds_toArray, List.set_cons_zero, List.set_cons_succ])
    | (refine ChainL.val (o := ?_) (v := ?_) ?_ ?_ ?_ ?_ ?_; rotate_left 2; (focus (first | (simp only [List.getElem?_toArray, List.getElem?_cons_succ, List.getElem?_cons_zero]; with_reducible rfl) | (simp only [List.getElem?_toArray, List.getElem?_cons_zero]; with_reducible rfl))); (focus (intro _ _ h; cases h)); (focus rfl); (focus (intro w' hI; obtain ⟨g0, g1⟩ := hI; go_simp <;> with_reducible rfl)); simp only [Act.put, List.setIfInBounds_toArray, List.set_cons_zero, List.set_cons_succ]))
  refine ChainL.call (o := ?_) (f := ?_) (args := ?_) ?_ ?_ ?_ ?_
  rotate_left 3
  (focus (simp only [List.getElem?_toArray, List.getElem?_cons_succ, List.getElem?_cons_zero]; with_reducible rfl))
  (focus rfl)
  (focus (go_simp; (constructor <;> with_reducible rfl)))
  refine (wsI16 w0 _ p R L x (h.below ((Below.refl _ _).drew)) hL hR).mono ?_
  rintro e w2 ⟨rfl, hw, hs, hz⟩
  have hs2 : Safe w w2 := fun q T cs m1 m2 m3 hq => hs q T cs m1 m2 m3 (hS q T cs m1 m2 m3 hq)
  refine ⟨_, rfl, hI _ hs2, ?_⟩
  simp only [Act.put, List.setIfInBounds_toArray, List.set_cons_zero, List.set_cons_succ]
  refine ChainL.nil ?_
  go_wp2
  go_end0
  exact ⟨rfl, hw, hs2, hz⟩
set_option maxRecDepth 100000 in
theorem into_U32 (w0 : World) (r p b o R : Nat) (L : List Value) (x : Int) (T : TypeId) (cs : Array Value) (w : World) (hr : Blk w r 81 #[.pointer (some ⟨p, 0, none⟩)]) (h : WS w0 w p R L) (hR : R ≤ 1099511627776) (hL : L.length + 4 ≤ R) (hb : Blk w b T cs) (ho : cs[o]? = some (.int .i64 x))
    (n1 : T ≠ 5) (n2 : T ≠ 110) (n3 : T ≠ 108) :
    Calls Try.prog 53 #[.int .i64 3, .pointer (some ⟨b, o, none⟩), .pointer (some ⟨r, 0, none⟩)] w (Went w0 w p R L (bek 3 x)) := by
  have hI : ∀ w1, Safe w w1 → w1.cell? ⟨r, 0, none⟩ = some (.pointer (some ⟨p, 0, none⟩)) ∧ w1.cell? ⟨b, o, none⟩ = some (.int .i64 x) :=
    fun w1 hs => ⟨(hs r _ _ (by decide) (by decide) (by decide) hr).cell 0, ((hs b T cs n1 n2 n3 hb).cell o).trans ho⟩
  have hS : Safe w w.drew := fun q T cs _ _ _ hq => hq.below ((Below.refl _ _).drew)
  go_enter Try.func53, Try.ntmps53
  go_wp2
  refine wp_region_chain (fun w' => w'.cell? ⟨r, 0, none⟩ = some (.pointer (some ⟨p, 0, none⟩)) ∧ w'.cell? ⟨b, o, none⟩ = some (.int .i64 x)) [(0, false), (1, false), (2, false), (3, false), (4, true)] (by kernel_rfl) (by kernel_rfl) (hI _ hS) ?_
  repeat (first
    | (refine ChainL.skip (o := ?_) ?_ ?_ ?_; rotate_left; (focus (first | (simp only [List.getElem?_toArray, List.getElem?_cons_succ, List.getElem?_cons_zero]; with_reducible rfl) | (simp only [List.getElem?_toArray, List.getElem?_cons_zero]; with_reducible rfl))); (focus rfl); simp only [Act.put, List.setIfInBounds_toArray, List.set_cons_zero, List.set_cons_succ])
    | (refine ChainL.val (o := ?_) (v := ?_) ?_ ?_ ?_ ?_ ?_; rotate_left 2; (focus (first | (simp only [List.getElem?_toArray, List.getElem?_cons_succ, List.getElem?_cons_zero]; with_reducible rfl) | (simp only [List.getElem?_toArray, List.getElem?_cons_zero]; with_reducible rfl))); (focus (intro _ _ h; cases h)); (focus rfl); (focus (intro w' hI; obtain ⟨g0, g1⟩ := hI; go_simp <;> with_reducible rfl)); simp only [Act.put, List.setIfInBounds_toArray, List.set_cons_zero, List.set_cons_succ]))
  refine ChainL.call (o := ?_) (f := ?_) (args := ?_) ?_ ?_ ?_ ?_
  rotate_left 3
  (focus (simp only [List.getElem?_toArray, List.getElem?_cons_succ, List.getElem?_cons_zero]; with_reducible rfl))
  (focus rfl)
  (focus (go_simp; (constructor <;> with_reducible rfl)))
  refine (wsU32 w0 _ p R L x (h.below ((Below.refl _ _).drew)) hL hR).mono ?_
  rintro e w2 ⟨rfl, hw, hs, hz⟩
  have hs2 : Safe w w2 := fun q T cs m1 m2 m3 hq => hs q T cs m1 m2 m3 (hS q T cs m1 m2 m3 hq)
  refine ⟨_, rfl, hI _ hs2, ?_⟩
  simp only [Act.put, List.setIfInBounds_toArray, List.set_cons_zero, List.set_cons_succ]
  refine ChainL.nil ?_
  go_wp2
  go_end0
  exact ⟨rfl, hw, hs2, hz⟩

theorem into_any (kd : Nat) (hk : kd < 4) (w0 : World) (r p b o R : Nat) (L : List Value) (x : Int) (T : TypeId) (cs : Array Value) (w : World) (hr : Blk w r 81 #[.pointer (some ⟨p, 0, none⟩)]) (h : WS w0 w p R L) (hR : R ≤ 1099511627776) (hL : L.length + wid kd ≤ R) (hb : Blk w b T cs) (ho : cs[o]? = some (.int .i64 x))
    (n1 : T ≠ 5) (n2 : T ≠ 110) (n3 : T ≠ 108) :
    Calls Try.prog 53 #[.int .i64 (kd : Nat), .pointer (some ⟨b, o, none⟩), .pointer (some ⟨r, 0, none⟩)] w (Went w0 w p R L (bek kd x)) := by
  rcases kd with _ | _ | _ | _ | kd
  · exact into_U8 w0 r p b o R L x T cs w hr h hR hL hb ho n1 n2 n3
  · exact into_U16 w0 r p b o R L x T cs w hr h hR hL hb ho n1 n2 n3
  · exact into_I16 w0 r p b o R L x T cs w hr h hR hL hb ho n1 n2 n3
  · exact into_U32 w0 r p b o R L x T cs w hr h hR hL hb ho n1 n2 n3
  · omega

end Go.Proofs.Ytbomgaacahaofaa

namespace Go.Proofs.Ytbomgaacahaofaa
open Go Go.RowKit

/-- A type of blocks that no reader and no writer writes. -/
def plain (T : TypeId) : Bool := T != 5 && T != 110 && T != 108 && T != 114
theorem plain_ne {T : TypeId} (h : plain T = true) : T ≠ 5 ∧ T ≠ 110 ∧ T ≠ 108 ∧ T ≠ 114 := by
  unfold plain at h
  simp only [Bool.and_eq_true, bne_iff_ne, ne_eq] at h
  exact ⟨h.1.1.1, h.1.1.2, h.1.2, h.2⟩
/-- Plain blocks stay, but for b. -/
def Keeps (w w' : World) (b : Nat) : Prop := w.heap.size ≤ w'.heap.size ∧ ∀ (q : Nat) (T : TypeId) (cs : Array Value), plain T = true → q ≠ b → Blk w q T cs → Blk w' q T cs
theorem Keeps.refl (w : World) (b : Nat) : Keeps w w b := ⟨Nat.le_refl _, fun _ _ _ _ _ h => h⟩
theorem Keeps.trans {w a c : World} {b : Nat} (h : Keeps w a b) (k : Keeps a c b) : Keeps w c b := ⟨Nat.le_trans h.1 k.1, fun q T cs hT hq hb => k.2 q T cs hT hq (h.2 q T cs hT hq hb)⟩
theorem Keeps.of_below {w a : World} (h : Below w.heap.size w a) (b : Nat) : Keeps w a b := ⟨h.size, fun _ _ _ _ _ k => k.below h⟩
/-- Where b itself is new. -/
theorem Keeps.new {w a c : World} {b b1 : Nat} (h : Below w.heap.size w a) (k : Keeps a c b) (hb : w.heap.size ≤ b) : Keeps w c b1 := ⟨Nat.le_trans h.size k.1, fun q T cs hT _ hq => k.2 q T cs hT (by have := hq.lt; omega) (hq.below h)⟩
theorem Keeps.only {w a : World} {b : Nat} (h : Only w a [b]) : Keeps w a b := ⟨h.size, fun _ _ _ _ hq k => k.only h (by simpa using hq)⟩

/-- A number was carried: the place, a cell of block b, has v. -/
def Carried {σ : Type} (I : σ → World → Prop) (w : World) (b : Nat) (T : TypeId) (cs : Array Value) (o : Nat) (s : σ) (v : Int) (e : Ending) (w' : World) : Prop :=
  e = .returned (.tuple #[]) ∧ I s w' ∧ Blk w' b T (cs.setIfInBounds o (.int .i64 v)) ∧ Keeps w w' b

structure Carr {σ : Type} (g : FuncId) (lb : Array Value) (I : σ → World → Prop) (Ok : Nat → Prop) (len : σ → Nat) (R : Nat) (step : Nat → σ → Int → σ) (val : Nat → σ → Int → Int) : Prop where
  eg : ∀ args w, (callFunc g args).run Try.prog w = .ok (.enter g args) w
  below : ∀ s w w', I s w → Below w.heap.size w w' → I s w'
  store : ∀ s w w' b T cs, I s w → Ok b → plain T = true → Blk w b T cs → Only w w' [b] → I s w'
  fresh : ∀ s w b, I s w → w.heap.size ≤ b → Ok b
  size : ∀ kd s x, kd < 4 → len (step kd s x) = len s + wid kd
  call : ∀ w s kd b o T cs x, kd < 4 → I s w → Ok b → plain T = true → Blk w b T cs → cs[o]? = some (.int .i64 x) → len s + wid kd ≤ R →
    Calls Try.prog g (#[.int .i64 (kd : Nat), .pointer (some ⟨b, o, none⟩)] ++ lb) w (Carried I w b T cs o (step kd s x) (val kd s x))

/-- The state of the reader behind from. -/
def IFrom (q : Nat → Prop) (r p : Nat) (bs : List Value) (k : Nat) (w : World) : Prop := RS q w p bs k ∧ Blk w r 99 #[.pointer (some ⟨p, 0, none⟩)] ∧ (∃ cs, Blk w p 114 cs) ∧ ∀ b, q b → b < w.heap.size
theorem rd_blk {q : Nat → Prop} {w : World} {p i : Nat} {bs : List Value} {bad : Bool} (h : Rd q w p bs i bad) : ∃ cs, Blk w p 114 cs := by
  obtain ⟨_, _, h, _⟩ := h
  exact ⟨_, h⟩
theorem rs_blk {q : Nat → Prop} {w : World} {p k : Nat} {bs : List Value} (h : RS q w p bs k) : ∃ cs, Blk w p 114 cs := by
  rcases h with ⟨_, h⟩ | ⟨_, _, h⟩ <;> exact rd_blk h
theorem blk_ne {w : World} {b p : Nat} {T T1 : TypeId} {cs cs1 : Array Value} (h : Blk w b T cs) (k : Blk w p T1 cs1) (hT : T ≠ T1) : b ≠ p := by
  rintro rfl
  unfold Blk at h k
  rw [h] at k
  injection k with k
  injection k with _ e
  exact hT e
theorem from_carr (q : Nat → Prop) (r p : Nat) (bs : List Value) (hL : bs.length ≤ 4611686018427387904) (R : Nat) :
    Carr 63 #[.pointer (some ⟨r, 0, none⟩)] (IFrom q r p bs) (fun b => ¬ q b ∧ b ≠ r) id R (fun kd k _ => k + wid kd) (fun kd k _ => rdk bs kd k) where
  eg := fun _ _ => rfl
  below := fun s w w' ⟨h1, h2, h3, h4⟩ hb => ⟨h1.below hb, h2.below hb, h3.imp fun _ h => h.below hb, fun b hq => Nat.lt_of_lt_of_le (h4 b hq) hb.size⟩
  store := fun s w w' b T cs ⟨h1, h2, ⟨_, h3⟩, h4⟩ ok hT hb o => by
    have hp := blk_ne hb h3 (plain_ne hT).2.2.2
    exact ⟨h1.only o (by simpa using hp.symm) (by simpa using ok.1), h2.only o (by simpa using ok.2.symm), ⟨_, h3.only o (by simpa using hp.symm)⟩, fun b hq => Nat.lt_of_lt_of_le (h4 b hq) o.size⟩
  fresh := fun s w b ⟨h1, h2, h3, h4⟩ hb => ⟨fun hq => by have := h4 b hq; omega, by have := h2.lt; omega⟩
  size := fun _ _ _ _ => rfl
  call := fun w s kd b o T cs x hk ⟨h1, h2, ⟨_, h3⟩, h4⟩ ok hT hb ho hlen => by
    have hp := blk_ne hb h3 (plain_ne hT).2.2.2
    refine (from_any kd hk r p b o s bs T cs w h2 h1 hL hb ?_ hp ok.1).mono ?_
    · rcases Nat.lt_or_ge o cs.size with h | h
      · exact h
      · rw [Array.getElem?_eq_none h] at ho; cases ho
    · rintro e w' ⟨rfl, hs, hb1, o1⟩
      have n1 : r ≠ p := blk_ne h2 h3 (by decide)
      have key : ∀ (q : Nat) (T1 : TypeId) (cs1 : Array Value), plain T1 = true → q ≠ b → Blk w q T1 cs1 → Blk w' q T1 cs1 :=
        fun q1 T1 cs1 hT1 hq hk => hk.only o1 (by simpa using ⟨blk_ne hk h3 (plain_ne hT1).2.2.2, hq⟩)
      exact ⟨rfl, ⟨hs, key r _ _ (by decide) ok.2.symm h2, rs_blk hs, fun b hq => Nat.lt_of_lt_of_le (h4 b hq) o1.size⟩, hb1, o1.size, key⟩

/-- The state of the writer behind into. -/
def IInto (w0 : World) (r p R : Nat) (L : List Value) (w : World) : Prop := WS w0 w p R L ∧ Blk w r 81 #[.pointer (some ⟨p, 0, none⟩)]
theorem WS.store {w0 w w' : World} {p R b : Nat} {L : List Value} {T : TypeId} {cs : Array Value} (h : WS w0 w p R L) (hb : Blk w b T cs) (hT : plain T = true) (o : Only w w' [b]) (h0 : w0.heap.size ≤ b) : WS w0 w' p R L := by
  obtain ⟨fp, hW, b0, hf⟩ := h
  refine ⟨fp, hW.only o ?_, b0.trans (o.to_below b0.size (by simpa using h0)), hf⟩
  obtain ⟨n1, n2, n3, _⟩ := plain_ne hT
  obtain ⟨D, G, dv, gv, hb1, hd, hg, _, _, _, _, rfl⟩ := hW
  intro x hx hm
  obtain rfl : x = b := by simpa using hm
  rcases List.mem_cons.1 hx with rfl | hm
  · exact blk_ne hb hb1 n3 rfl
  · rcases List.mem_append.1 hm with hm | hm
    · exact own_ne hd hb n1.symm hm
    · exact own_ne hg hb n2.symm hm
theorem set_same {cs : Array Value} {o : Nat} {v : Value} (h : cs[o]? = some v) : cs.setIfInBounds o v = cs := by
  apply Array.ext_getElem?
  intro i
  rw [Array.getElem?_setIfInBounds]
  by_cases hi : o = i
  · subst hi
    rw [if_pos rfl, h]
    have : o < cs.size := by
      rcases Nat.lt_or_ge o cs.size with h1 | h1
      · exact h1
      · rw [Array.getElem?_eq_none h1] at h; cases h
    rw [if_pos this]
  · rw [if_neg hi]
theorem into_carr (w0 : World) (r p R : Nat) (hR : R ≤ 1099511627776) :
    Carr 53 #[.pointer (some ⟨r, 0, none⟩)] (IInto w0 r p R) (fun b => w0.heap.size ≤ b ∧ b ≠ r) List.length R (fun kd L x => L ++ bek kd x) (fun _ _ x => x) where
  eg := fun _ _ => rfl
  below := fun s w w' ⟨h1, h2⟩ hb => ⟨h1.below hb, h2.below hb⟩
  store := fun s w w' b T cs ⟨h1, h2⟩ ok hT hb o => ⟨h1.store hb hT o ok.1, h2.only o (by simpa using ok.2.symm)⟩
  fresh := fun s w b ⟨h1, h2⟩ hb => ⟨Nat.le_trans h1.old.size hb, by have := h2.lt; omega⟩
  size := fun kd s x hk => by rw [List.length_append, bek_length kd hk]
  call := fun w s kd b o T cs x hk ⟨h1, h2⟩ ok hT hb ho hlen => by
    obtain ⟨n1, n2, n3, _⟩ := plain_ne hT
    refine (into_any kd hk w0 r p b o R s x T cs w h2 h1 hR hlen hb ho n1 n2 n3).mono ?_
    rintro e w' ⟨rfl, hs, hk1, hz⟩
    have key : ∀ (q : Nat) (T1 : TypeId) (cs1 : Array Value), plain T1 = true → Blk w q T1 cs1 → Blk w' q T1 cs1 :=
      fun q T1 cs1 hT1 hq => have ⟨m1, m2, m3, _⟩ := plain_ne hT1; hk1 q T1 cs1 m1 m2 m3 hq
    exact ⟨rfl, ⟨hs, key r _ _ (by decide) h2⟩, by rw [set_same ho]; exact key b T cs hT hb, hz, fun q T1 cs1 hT1 _ hq => key q T1 cs1 hT1 hq⟩

end Go.Proofs.Ytbomgaacahaofaa

namespace Go.Proofs.Ytbomgaacahaofaa
open Go Go.RowKit

/-- The number at a place. -/
def intAt (cs : Array Value) (o : Nat) : Int :=
  match cs[o]? with
  | some (.int _ x) => x
  | _ => 0
def Ints (cs : Array Value) (os : List Nat) : Prop := ∀ o ∈ os, ∃ x, cs[o]? = some (.int .i64 x)
theorem Ints.at {cs : Array Value} {os : List Nat} (h : Ints cs os) {o : Nat} (ho : o ∈ os) : cs[o]? = some (.int .i64 (intAt cs o)) := by
  obtain ⟨x, hx⟩ := h o ho
  unfold intAt
  rw [hx]
theorem Ints.set {cs : Array Value} {os : List Nat} (h : Ints cs os) (o : Nat) (v : Int) : Ints (cs.setIfInBounds o (.int .i64 v)) os := by
  intro o1 h1
  obtain ⟨x, hx⟩ := h o1 h1
  rw [Array.getElem?_setIfInBounds]
  by_cases he : o = o1
  · subst he
    have : o < cs.size := by
      rcases Nat.lt_or_ge o cs.size with h2 | h2
      · exact h2
      · rw [Array.getElem?_eq_none h2] at hx; cases hx
    rw [if_pos rfl, if_pos this]
    exact ⟨v, rfl⟩
  · rw [if_neg he]
    exact ⟨x, hx⟩

section
variable {σ : Type}
/-- What a field of numbers comes to. -/
def numRun (step : Nat → σ → Int → σ) (val : Nat → σ → Int → Int) (kd : Nat) (la lb2 : Int) : List Nat → σ → Array Value → Bool → Bool × σ × Array Value
  | [], s, cs, m => (m, s, cs)
  | o :: os, s, cs, m =>
    let v := val kd s (intAt cs o)
    numRun step val kd la lb2 os (step kd s (intAt cs o)) (cs.setIfInBounds o (.int .i64 v)) ((m && decide (la ≤ v)) && decide (v ≤ lb2))
theorem numRun_nil (step : Nat → σ → Int → σ) (val : Nat → σ → Int → Int) (kd : Nat) (la lb2 : Int) (s : σ) (cs : Array Value) (m : Bool) : numRun step val kd la lb2 [] s cs m = (m, s, cs) := rfl
theorem numRun_cons (step : Nat → σ → Int → σ) (val : Nat → σ → Int → Int) (kd : Nat) (la lb2 : Int) (o : Nat) (os : List Nat) (s : σ) (cs : Array Value) (m : Bool) :
    numRun step val kd la lb2 (o :: os) s cs m = numRun step val kd la lb2 os (step kd s (intAt cs o)) (cs.setIfInBounds o (.int .i64 (val kd s (intAt cs o)))) ((m && decide (la ≤ val kd s (intAt cs o))) && decide (val kd s (intAt cs o) ≤ lb2)) := rfl
/-- A field was carried. -/
def Ran (I : σ → World → Prop) (w : World) (X : Nat) (T : TypeId) (r : Bool × σ × Array Value) (e : Ending) (w' : World) : Prop :=
  e = .returned (.bool r.1) ∧ I r.2.1 w' ∧ Blk w' X T r.2.2 ∧ Keeps w w' X

def ptrs (X : Nat) (os : List Nat) : Array Value := (os.map fun o => Value.pointer (some ⟨X, o, none⟩)).toArray

variable {gc : FuncId} {lbc : Array Value} {I : σ → World → Prop} {Ok : Nat → Prop} {len : σ → Nat} {R : Nat} {step : Nat → σ → Int → σ} {val : Nat → σ → Int → Int}
set_option maxRecDepth 100000 in
set_option maxHeartbeats 1000000 in
theorem numbers_any (K : Carr gc lbc I Ok len R step val) (kd : Nat) (hk : kd < 4) (la lb2 : Int) (X : Nat) (T : TypeId) (os : List Nat) (c : Nat) (cs0 : Array Value) (s0 : σ) (pl pk pa pb row : Nat) (w : World)
    (hs0 : I s0 w) (ok : Ok X) (hT : plain T = true) (hX : Blk w X T cs0) (hi : Ints cs0 os) (hR : len s0 + wid kd * os.length ≤ R) (hn : os.length ≤ 1099511627776)
    (hpl : Blk w pl 111 #[.slice (some ⟨row, 0, none⟩) os.length c]) (hrow : Blk w row 96 (ptrs X os)) (hpk : Blk w pk 93 #[.int .i64 (kd : Nat)]) (hpa : Blk w pa 3 #[.int .i64 la]) (hpb : Blk w pb 3 #[.int .i64 lb2])
    (nr : row ≠ X) (nk : pk ≠ X) (na : pa ≠ X) (nb : pb ≠ X) :
    Calls Try.prog 60 #[.func (.func gc) #[] lbc, .pointer (some ⟨pl, 0, none⟩), .pointer (some ⟨pk, 0, none⟩), .pointer (some ⟨pa, 0, none⟩), .pointer (some ⟨pb, 0, none⟩)] w (Ran I w X T (numRun step val kd la lb2 os s0 cs0 true)) := by
  have eg := K.eg
  obtain ⟨n, hnn⟩ : ∃ n, n = os.length := ⟨_, rfl⟩
  rw [← hnn] at hn hpl hR
  have HN := Lib.hid hnn
  have HR := Lib.hid hR
  have H0 := Lib.hid hs0
  have HX := Lib.hid hX
  have HI := Lib.hid hi
  have g0 : w.cell? ⟨pl, 0, none⟩ = some (.slice (some ⟨row, 0, none⟩) n c) := hpl.cell 0
  have HB := Lib.hid (And.intro hrow (And.intro hpk (And.intro hpa hpb)))
  clear hnn hR hs0 hX hi hpl hrow hpk hpa hpb
  go_enter Try.func60, Try.ntmps60
  go_wp2
  go_loopw [7, 12] (fun m i wr => ∃ j : Nat, j ≤ n ∧ i = .int .i64 j ∧ ∃ (b : Bool) (s : σ) (cs : Array Value), m = .bool b ∧ Hid (numRun step val kd la lb2 (os.drop j) s cs b = numRun step val kd la lb2 os s0 cs0 true ∧ I s wr ∧ Blk wr X T cs ∧ Keeps w wr X ∧ Ints cs os ∧ len s + wid kd * (n - j) ≤ R)) (fun _ i _ => n - (intOf i).toNat)
  case atStart => exact ⟨0, Nat.zero_le _, rfl, true, s0, cs0, rfl, Lib.hid ⟨rfl, H0.out, HX.out, Keeps.refl _ _, HI.out, HR.out⟩⟩
  case round =>
    obtain ⟨j, hj, rfl, b, s, cs, rfl, HH⟩ := hrel
    by_cases hlt : j < n
    · have d1 : decide ((j : Int) < (n : Int)) = true := by simp; omega
      obtain ⟨o, ho⟩ : ∃ o, os[j]? = some o := ⟨os[j]'(by rw [← HN.out]; exact hlt), List.getElem?_eq_getElem _⟩
      have hmem := List.mem_of_getElem? ho
      have hdrop : os.drop j = o :: os.drop (j + 1) := by
        obtain ⟨h1, h2⟩ := List.getElem?_eq_some_iff.1 ho
        rw [List.drop_eq_getElem_cons h1, h2]
      have grow := (HH.out.2.2.2.1.2 row _ _ (by decide) nr HB.out.1)
      have gr : wr.cell? ⟨row, j, none⟩ = some (.pointer (some ⟨X, o, none⟩)) := (grow.cell j).trans (by unfold ptrs; simp [ho])
      have gk : wr.cell? ⟨pk, 0, none⟩ = some (.int .i64 (kd : Nat)) := (HH.out.2.2.2.1.2 pk _ _ (by decide) nk HB.out.2.1).cell 0
      have hc := HH.out.2.2.2.2.1.at hmem
      have hw : len s + wid kd ≤ R := by
        have h1 := HH.out.2.2.2.2.2
        have : wid kd * 1 ≤ wid kd * (n - j) := Nat.mul_le_mul_left _ (by omega)
        omega
      obtain ⟨V, hV⟩ : ∃ V, V = val kd s (intAt cs o) := ⟨_, rfl⟩
      have C := fun wr' (hb : Below wr.heap.size wr wr') => K.call wr' s kd X o T cs (intAt cs o) hk (K.below _ _ _ HH.out.2.1 hb) ok hT (HH.out.2.2.1.below hb) hc hw
      rw [← hV] at C
      have HV := Lib.hid hV
      have HO := Lib.hid (And.intro hmem hdrop)
      have HC := Lib.hid hc
      clear hV hmem hdrop ho hc
      go_wp2_with (go_at_fn gc; ((with_reducible refine (C _ (by first | exact Below.refl _ _ | exact (Below.refl _ _).drew)).mono ?_); rintro e w1 ⟨rfl, hI1, hX1, hk1⟩))
      have o2 := o
      have hs1 : o < cs.size := by
        have hc := HC.out
        rcases Nat.lt_or_ge o cs.size with h2 | h2
        · exact h2
        · rw [Array.getElem?_eq_none h2] at hc; cases hc
      have hb1' := (hk1.2 pb _ _ (by decide) nb (HH.out.2.2.2.1.2 pb _ _ (by decide) nb HB.out.2.2.2))
      have ha1' := (hk1.2 pa _ _ (by decide) na (HH.out.2.2.2.1.2 pa _ _ (by decide) na HB.out.2.2.1))
      have hxx : w1.cell? ⟨X, o, none⟩ = some (.int .i64 V) := (hX1.cell o).trans (by rw [Array.getElem?_setIfInBounds, if_pos rfl, if_pos hs1])
      have dd := (Below.refl w1.heap.size w1).drew
      have hx1 : w1.drew.cell? ⟨X, o, none⟩ = some (.int .i64 V) := hxx
      have ha1 : w1.drew.cell? ⟨pa, 0, none⟩ = some (.int .i64 la) := ha1'.cell 0
      have hb1 : w1.drew.cell? ⟨pb, 0, none⟩ = some (.int .i64 lb2) := hb1'.cell 0
      have HR1 : ∀ (b1 : Bool) (w2 : World), b1 = ((b && decide (la ≤ V)) && decide (V ≤ lb2)) → Below w1.heap.size w1 w2 → Hid (numRun step val kd la lb2 (os.drop (j + 1)) (step kd s (intAt cs o)) (cs.setIfInBounds o (.int .i64 V)) b1 = numRun step val kd la lb2 os s0 cs0 true ∧ I (step kd s (intAt cs o)) w2 ∧ Blk w2 X T (cs.setIfInBounds o (.int .i64 V)) ∧ Keeps w w2 X ∧ Ints (cs.setIfInBounds o (.int .i64 V)) os ∧ len (step kd s (intAt cs o)) + wid kd * (n - (j + 1)) ≤ R) := by
        intro b1 w2 e1 hb2
        have h1 := HH.out.1
        rw [HO.out.2] at h1
        rw [numRun_cons, ← HV.out, ← e1] at h1
        refine Lib.hid ⟨h1, K.below _ _ _ hI1 hb2, hX1.below hb2, (HH.out.2.2.2.1.trans hk1).trans (Keeps.of_below hb2 _), HH.out.2.2.2.2.1.set _ _, ?_⟩
        rw [K.size kd s _ hk]
        have h3 := HH.out.2.2.2.2.2
        have h4 : wid kd * (n - j) = wid kd * (n - (j + 1)) + wid kd := by rw [show n - j = (n - (j + 1)) + 1 by omega, Nat.mul_add, Nat.mul_one]
        omega
      have bb := (Below.refl w1.heap.size w1).drew
      cases b with
      | false =>
        have HR2 := HR1 false w1.drew (by simp) bb
        clear HR1
        refine wp_region_chain (fun w' => w'.cell? ⟨X, o, none⟩ = some (.int .i64 V) ∧ w'.cell? ⟨pa, 0, none⟩ = some (.int .i64 la) ∧ w'.cell? ⟨pb, 0, none⟩ = some (.int .i64 lb2)) [(0, false), (1, false), (2, false), (3, false), (4, false), (5, false), (6, false), (7, false), (8, false), (9, false), (10, false), (11, false), (12, false), (13, false), (14, false), (15, false)] (by kernel_rfl) (by kernel_rfl) (by exact ⟨hx1, ha1, hb1⟩) ?_
        repeat (first
          | (refine ChainL.skip (o := ?_) ?_ ?_ ?_; rotate_left; (focus (first | (simp only [List.getElem?_toArray, List.getElem?_cons_succ, List.getElem?_cons_zero]; with_reducible rfl) | (simp only [List.getElem?_toArray, List.getElem?_cons_zero]; with_reducible rfl))); (focus rfl); simp only [Act.put, List.setIfInBounds_toArray, List.set_cons_zero, List.set_cons_succ])
          | (refine ChainL.val (o := ?_) (v := ?_) ?_ ?_ ?_ ?_ ?_; rotate_left 2; (focus (first | (simp only [List.getElem?_toArray, List.getElem?_cons_succ, List.getElem?_cons_zero]; with_reducible rfl) | (simp only [List.getElem?_toArray, List.getElem?_cons_zero]; with_reducible rfl))); (focus (intro _ _ h; cases h)); (focus rfl); (focus (intro w' hI; obtain ⟨g1, g2, g3⟩ := hI; go_simp <;> with_reducible rfl)); simp only [Act.put, List.setIfInBounds_toArray, List.set_cons_zero, List.set_cons_succ]))
        refine ChainL.nil ?_
        go_wp2
        go_roundw
        case rel => exact ⟨j + 1, by omega, by go_num, false, _, _, rfl, HR2⟩
        case measure => simp [intOf]; omega
      | true =>
        cases hd1 : decide (la ≤ V) with
        | false =>
          have HR2 := HR1 false w1.drew (by simp [hd1]) bb
          clear HR1
          refine wp_region_chain (fun w' => w'.cell? ⟨X, o, none⟩ = some (.int .i64 V) ∧ w'.cell? ⟨pa, 0, none⟩ = some (.int .i64 la) ∧ w'.cell? ⟨pb, 0, none⟩ = some (.int .i64 lb2)) [(0, false), (1, false), (2, false), (3, false), (4, false), (5, false), (6, false), (7, false), (8, false), (9, false), (10, false), (11, false), (12, false), (13, false), (14, false), (15, false)] (by kernel_rfl) (by kernel_rfl) (by exact ⟨hx1, ha1, hb1⟩) ?_
          repeat (first
            | (refine ChainL.skip (o := ?_) ?_ ?_ ?_; rotate_left; (focus (first | (simp only [List.getElem?_toArray, List.getElem?_cons_succ, List.getElem?_cons_zero]; with_reducible rfl) | (simp only [List.getElem?_toArray, List.getElem?_cons_zero]; with_reducible rfl))); (focus rfl); simp only [Act.put, List.setIfInBounds_toArray, List.set_cons_zero, List.set_cons_succ])
            | (refine ChainL.val (o := ?_) (v := ?_) ?_ ?_ ?_ ?_ ?_; rotate_left 2; (focus (first | (simp only [List.getElem?_toArray, List.getElem?_cons_succ, List.getElem?_cons_zero]; with_reducible rfl) | (simp only [List.getElem?_toArray, List.getElem?_cons_zero]; with_reducible rfl))); (focus (intro _ _ h; cases h)); (focus rfl); (focus (intro w' hI; obtain ⟨g1, g2, g3⟩ := hI; go_simp <;> with_reducible rfl)); simp only [Act.put, List.setIfInBounds_toArray, List.set_cons_zero, List.set_cons_succ]))
          refine ChainL.nil ?_
          go_wp2
          go_roundw
          case rel => exact ⟨j + 1, by omega, by go_num, false, _, _, rfl, HR2⟩
          case measure => simp [intOf]; omega
        | true =>
          cases hd2 : decide (V ≤ lb2) with
          | false =>
            have HR2 := HR1 false w1.drew (by simp [hd2]) bb
            clear HR1
            refine wp_region_chain (fun w' => w'.cell? ⟨X, o, none⟩ = some (.int .i64 V) ∧ w'.cell? ⟨pa, 0, none⟩ = some (.int .i64 la) ∧ w'.cell? ⟨pb, 0, none⟩ = some (.int .i64 lb2)) [(0, false), (1, false), (2, false), (3, false), (4, false), (5, false), (6, false), (7, false), (8, false), (9, false), (10, false), (11, false), (12, false), (13, false), (14, false), (15, false)] (by kernel_rfl) (by kernel_rfl) (by exact ⟨hx1, ha1, hb1⟩) ?_
            repeat (first
              | (refine ChainL.skip (o := ?_) ?_ ?_ ?_; rotate_left; (focus (first | (simp only [List.getElem?_toArray, List.getElem?_cons_succ, List.getElem?_cons_zero]; with_reducible rfl) | (simp only [List.getElem?_toArray, List.getElem?_cons_zero]; with_reducible rfl))); (focus rfl); simp only [Act.put, List.setIfInBounds_toArray, List.set_cons_zero, List.set_cons_succ])
              | (refine ChainL.val (o := ?_) (v := ?_) ?_ ?_ ?_ ?_ ?_; rotate_left 2; (focus (first | (simp only [List.getElem?_toArray, List.getElem?_cons_succ, List.getElem?_cons_zero]; with_reducible rfl) | (simp only [List.getElem?_toArray, List.getElem?_cons_zero]; with_reducible rfl))); (focus (intro _ _ h; cases h)); (focus rfl); (focus (intro w' hI; obtain ⟨g1, g2, g3⟩ := hI; go_simp <;> with_reducible rfl)); simp only [Act.put, List.setIfInBounds_toArray, List.set_cons_zero, List.set_cons_succ]))
            refine ChainL.nil ?_
            go_wp2
            go_roundw
            case rel => exact ⟨j + 1, by omega, by go_num, false, _, _, rfl, HR2⟩
            case measure => simp [intOf]; omega
          | true =>
            have HR2 := HR1 true w1.drew (by simp [hd1, hd2]) bb
            clear HR1
            refine wp_region_chain (fun w' => w'.cell? ⟨X, o, none⟩ = some (.int .i64 V) ∧ w'.cell? ⟨pa, 0, none⟩ = some (.int .i64 la) ∧ w'.cell? ⟨pb, 0, none⟩ = some (.int .i64 lb2)) [(0, false), (1, false), (2, false), (3, false), (4, false), (5, false), (6, false), (7, false), (8, false), (9, false), (10, false), (11, false), (12, false), (13, false), (14, false), (15, false)] (by kernel_rfl) (by kernel_rfl) (by exact ⟨hx1, ha1, hb1⟩) ?_
            repeat (first
              | (refine ChainL.skip (o := ?_) ?_ ?_ ?_; rotate_left; (focus (first | (simp only [List.getElem?_toArray, List.getElem?_cons_succ, List.getElem?_cons_zero]; with_reducible rfl) | (simp only [List.getElem?_toArray, List.getElem?_cons_zero]; with_reducible rfl))); (focus rfl); simp only [Act.put, List.setIfInBounds_toArray, List.set_cons_zero, List.set_cons_succ])
              | (refine ChainL.val (o := ?_) (v := ?_) ?_ ?_ ?_ ?_ ?_; rotate_left 2; (focus (first | (simp only [List.getElem?_toArray, List.getElem?_cons_succ, List.getElem?_cons_zero]; with_reducible rfl) | (simp only [List.getElem?_toArray, List.getElem?_cons_zero]; with_reducible rfl))); (focus (intro _ _ h; cases h)); (focus rfl); (focus (intro w' hI; obtain ⟨g1, g2, g3⟩ := hI; go_simp <;> with_reducible rfl)); simp only [Act.put, List.setIfInBounds_toArray, List.set_cons_zero, List.set_cons_succ]))
            refine ChainL.nil ?_
            go_wp2
            go_roundw
            case rel => exact ⟨j + 1, by omega, by go_num, true, _, _, rfl, HR2⟩
            case measure => simp [intOf]; omega
    · obtain rfl : j = n := by omega
      have d1 : decide ((j : Int) < (j : Int)) = false := by simp
      have hq := HH.out
      rw [show os.drop j = [] by rw [List.drop_eq_nil_iff]; have := HN.out; omega] at hq
      rw [numRun_nil] at hq
      obtain ⟨h1, h2, h3, h4, _⟩ := hq
      have HE : Ran I w X T (numRun step val kd la lb2 os s0 cs0 true) (.returned (.bool b)) wr := by rw [← h1]; exact ⟨rfl, h2, h3, h4⟩
      have HE := Lib.hid HE
      clear h1 h2 h3 h4 HH
      go_wp2
      go_ret
      exact HE.out
end

end Go.Proofs.Ytbomgaacahaofaa

namespace Go.Proofs.Ytbomgaacahaofaa
open Go Go.RowKit

section
variable {σ : Type} {gc : FuncId} {lbc : Array Value} {I : σ → World → Prop} {Ok : Nat → Prop} {len : σ → Nat} {R : Nat} {step : Nat → σ → Int → σ} {val : Nat → σ → Int → Int}

/-- What free bytes come to. -/
def freeRun (step : Nat → σ → Int → σ) : Nat → σ → σ
  | 0, s => s
  | n + 1, s => freeRun step n (step 0 s 0)
theorem freeRun_succ (step : Nat → σ → Int → σ) (n : Nat) (s : σ) : freeRun step (n + 1) s = freeRun step n (step 0 s 0) := rfl

set_option maxRecDepth 100000 in
theorem free_any (K : Carr gc lbc I Ok len R step val) (X : Nat) (T : TypeId) (n : Nat) (cs0 : Array Value) (s0 : σ) (pn : Nat) (w : World)
    (hs0 : I s0 w) (hT : plain T = true) (hX : Blk w X T cs0) (hR : len s0 + n ≤ R) (hn : n ≤ 1099511627776)
    (hpn : Blk w pn 3 #[.int .i64 (n : Nat)]) :
    Calls Try.prog 59 #[.func (.func gc) #[] lbc, .pointer (some ⟨pn, 0, none⟩)] w (Ran I w X T (true, freeRun step n s0, cs0)) := by
  have eg := K.eg
  have HR := Lib.hid hR
  have H0 := Lib.hid hs0
  have HX := Lib.hid hX
  have g0 : w.cell? ⟨pn, 0, none⟩ = some (.int .i64 (n : Nat)) := hpn.cell 0
  clear hR hs0 hX hpn
  go_enter Try.func59, Try.ntmps59
  go_wp2
  go_loopw [6] (fun i wr => ∃ j : Nat, j ≤ n ∧ i = .int .i64 j ∧ ∃ (s : σ), Hid (freeRun step (n - j) s = freeRun step n s0 ∧ I s wr ∧ Blk wr X T cs0 ∧ Keeps w wr X ∧ len s + (n - j) ≤ R)) (fun i _ => n - (intOf i).toNat)
  case atStart => exact ⟨0, Nat.zero_le _, rfl, s0, Lib.hid ⟨rfl, H0.out, HX.out, Keeps.refl _ _, HR.out⟩⟩
  case round =>
    obtain ⟨j, hj, rfl, s, HH⟩ := hrel
    by_cases hlt : j < n
    · have d1 : decide ((j : Int) < (n : Int)) = true := by simp; omega
      have hw : len s + wid 0 ≤ R := by
        have h1 := HH.out.2.2.2.2
        have : wid 0 = 1 := rfl
        omega
      have C : ∀ w1, Below wr.heap.size wr w1 → Blk w1 wr.heap.size 3 #[.int .i64 0] → Calls Try.prog gc (#[.int .i64 0, .pointer (some ⟨wr.heap.size, 0, none⟩)] ++ lbc) w1 (Carried I w1 wr.heap.size 3 #[.int .i64 0] 0 (step 0 s 0) (val 0 s 0)) :=
        fun w1 hb hx => K.call w1 s 0 wr.heap.size 0 3 #[.int .i64 0] 0 (by decide) (K.below _ _ _ HH.out.2.1 hb) (K.fresh _ _ _ HH.out.2.1 (Nat.le_refl _)) (by decide) hx rfl hw
      have bx : Blk (wr.alloc (.cells #[.int .i64 0] 3)) wr.heap.size 3 #[.int .i64 0] := Blk.new wr _ _
      have bb : Below wr.heap.size wr (wr.alloc (.cells #[.int .i64 0] 3)) := (Below.refl wr.heap.size wr).alloc (Nat.le_refl _) _
      have HC := Lib.hid (And.intro bx bb)
      clear bx bb
      go_wp2_with (go_at_fn gc; ((with_reducible refine (C _ HC.out.2 HC.out.1).mono ?_); rintro e w1 ⟨rfl, hI1, hX1, hk1⟩))
      have hk2 : Keeps wr w1 X := Keeps.new HC.out.2 hk1 (Nat.le_refl _)
      have HR2 : Hid (freeRun step (n - (j + 1)) (step 0 s 0) = freeRun step n s0 ∧ I (step 0 s 0) w1 ∧ Blk w1 X T cs0 ∧ Keeps w w1 X ∧ len (step 0 s 0) + (n - (j + 1)) ≤ R) := by
        obtain ⟨h1, h2, h3, h4, h5⟩ := HH.out
        refine Lib.hid ⟨?_, hI1, hk1.2 X T cs0 hT (by have := h3.lt; omega) (h3.below HC.out.2), h4.trans hk2, ?_⟩
        · rw [← h1, ← freeRun_succ, show n - (j + 1) + 1 = n - j by omega]
        · rw [K.size 0 s 0 (by decide)]
          have : wid 0 = 1 := rfl
          omega
      go_roundw
      case rel => exact ⟨j + 1, by omega, by go_num, _, HR2⟩
      case measure => simp [intOf]; omega
    · obtain rfl : j = n := by omega
      have d1 : decide ((j : Int) < (j : Int)) = false := by simp
      obtain ⟨h1, h2, h3, h4, _⟩ := HH.out
      rw [Nat.sub_self] at h1
      have HE : Ran I w X T (true, freeRun step j s0, cs0) (.returned (.bool true)) wr := by rw [← h1]; exact ⟨rfl, h2, h3, h4⟩
      have HE := Lib.hid HE
      clear h1 h2 h3 h4 HH
      go_wp2
      go_ret
      exact HE.out
end

end Go.Proofs.Ytbomgaacahaofaa

namespace Go.Proofs.Ytbomgaacahaofaa
open Go Go.RowKit

section
variable {σ : Type} {gc : FuncId} {lbc : Array Value} {I : σ → World → Prop} {Ok : Nat → Prop} {len : σ → Nat} {R : Nat} {step : Nat → σ → Int → σ} {val : Nat → σ → Int → Int}

/-- What a flag comes to, where x is put. -/
def eithRun (step : Nat → σ → Int → σ) (val : Nat → σ → Int → Int) (kd : Nat) (no yes : Int) (o : Nat) (x : Int) (s : σ) (cs : Array Value) : Bool × σ × Array Value :=
  ((val kd s x == no) || (val kd s x == yes), step kd s x, cs.setIfInBounds o (.bool (val kd s x == yes)))

set_option maxRecDepth 100000 in
set_option maxHeartbeats 1000000 in
theorem either_no (K : Carr gc lbc I Ok len R step val) (kd : Nat) (hk : kd < 4) (no yes : Int) (X : Nat) (T : TypeId) (o : Nat) (cs0 : Array Value) (s0 : σ) (pn pf py pk : Nat) (w : World)
    (hs0 : I s0 w) (ok : Ok X) (hT : plain T = true) (hX : Blk w X T cs0) (hf : cs0[o]? = some (.bool false)) (hR : len s0 + wid kd ≤ R)
    (hpn : Blk w pn 3 #[.int .i64 no]) (hpf : Blk w pf 98 #[.pointer (some ⟨X, o, none⟩)]) (hpy : Blk w py 3 #[.int .i64 yes]) (hpk : Blk w pk 93 #[.int .i64 (kd : Nat)])
    (nn : pn ≠ X) (ny : py ≠ X) :
    Calls Try.prog 61 #[.func (.func gc) #[] lbc, .pointer (some ⟨pn, 0, none⟩), .pointer (some ⟨pf, 0, none⟩), .pointer (some ⟨py, 0, none⟩), .pointer (some ⟨pk, 0, none⟩)] w (Ran I w X T (eithRun step val kd no yes o no s0 cs0)) := by
  have eg := K.eg
  have a1 : w.cell? ⟨pn, 0, none⟩ = some (.int .i64 no) := hpn.cell 0
  obtain ⟨xb, hxb⟩ : ∃ xb, xb = w.heap.size := ⟨_, rfl⟩
  obtain ⟨wa, hwa⟩ : ∃ wa, wa = (w.alloc (.cells #[.int .i64 no] 3)) := ⟨_, rfl⟩
  have hb : Below w.heap.size w wa := hwa ▸ (Below.refl w.heap.size w).alloc (Nat.le_refl _) _
  have hx : Blk wa xb 3 #[.int .i64 no] := by rw [hwa, hxb]; exact Blk.new w _ _
  have os : o < cs0.size := by
    rcases Nat.lt_or_ge o cs0.size with h2 | h2
    · exact h2
    · rw [Array.getElem?_eq_none h2] at hf; cases hf
  have nx : X ≠ xb := by rw [hxb]; have := hX.lt; omega
  have C := K.call wa s0 kd xb 0 3 #[.int .i64 no] no hk (K.below _ _ _ hs0 hb) (K.fresh _ _ _ hs0 (by omega)) (by decide) hx rfl hR
  obtain ⟨V, hV⟩ : ∃ V, V = val kd s0 no := ⟨_, rfl⟩
  obtain ⟨s1, hs1⟩ : ∃ s1, s1 = step kd s0 no := ⟨_, rfl⟩
  rw [← hV, ← hs1] at C
  have key : ∀ w1, I s1 w1 → Blk w1 xb 3 #[.int .i64 V] → Keeps wa w1 xb → ∀ bl : Bool, I s1 (w1.setCell ⟨X, o, none⟩ (.bool bl)) ∧ Blk (w1.setCell ⟨X, o, none⟩ (.bool bl)) X T (cs0.setIfInBounds o (.bool bl)) ∧ Keeps w (w1.setCell ⟨X, o, none⟩ (.bool bl)) X ∧ Blk (w1.setCell ⟨X, o, none⟩ (.bool bl)) xb 3 #[.int .i64 V] := by
    intro w1 hI1 hx1 hk1 bl
    have hX1 : Blk w1 X T cs0 := hk1.2 X T cs0 hT nx (hX.below hb)
    have oo : Only w1 (w1.setCell ⟨X, o, none⟩ (.bool bl)) [X] := (Only.refl w1 [X]).set (.inl (by simp)) _
    exact ⟨K.store _ _ _ X T cs0 hI1 ok hT hX1 oo, hX1.set o _, (Keeps.new hb hk1 (by omega)).trans (Keeps.only oo), hx1.only oo (by simpa using nx.symm)⟩
  have stay : ∀ w1, Keeps wa w1 xb → w1.cell? ⟨pn, 0, none⟩ = some (.int .i64 no) ∧ w1.cell? ⟨pf, 0, none⟩ = some (.pointer (some ⟨X, o, none⟩)) ∧ w1.cell? ⟨py, 0, none⟩ = some (.int .i64 yes) ∧ w1.cell? ⟨X, o, none⟩ = some (.bool false) ∧ w1.frozen? ⟨X, o, none⟩ = false := by
    intro w1 hk1
    have hX1 : Blk w1 X T cs0 := hk1.2 X T cs0 hT nx (hX.below hb)
    exact ⟨(hk1.2 pn _ _ (by decide) (by have := hpn.lt; omega) (hpn.below hb)).cell 0, (hk1.2 pf _ _ (by decide) (by have := hpf.lt; omega) (hpf.below hb)).cell 0, (hk1.2 py _ _ (by decide) (by have := hpy.lt; omega) (hpy.below hb)).cell 0, (hX1.cell o).trans hf, hX1.frozen o⟩
  have stay2 : ∀ w1, Keeps w w1 X → w1.cell? ⟨pn, 0, none⟩ = some (.int .i64 no) ∧ w1.cell? ⟨py, 0, none⟩ = some (.int .i64 yes) := by
    intro w1 hk1
    exact ⟨(hk1.2 pn _ _ (by decide) nn hpn).cell 0, (hk1.2 py _ _ (by decide) ny hpy).cell 0⟩
  have b2 : w.cell? ⟨pf, 0, none⟩ = some (.pointer (some ⟨X, o, none⟩)) := hpf.cell 0
  have b3 : w.cell? ⟨X, o, none⟩ = some (.bool false) := (hX.cell o).trans hf
  have b4 : w.cell? ⟨pk, 0, none⟩ = some (.int .i64 (kd : Nat)) := hpk.cell 0
  have b5 : w.cell? ⟨py, 0, none⟩ = some (.int .i64 yes) := hpy.cell 0
  have ll : pn < w.heap.size ∧ pf < w.heap.size ∧ py < w.heap.size ∧ pk < w.heap.size ∧ X < w.heap.size := ⟨hpn.lt, hpf.lt, hpy.lt, hpk.lt, hX.lt⟩
  have key := Lib.hid key
  have stay := Lib.hid stay
  have stay2 := Lib.hid stay2
  have HV := Lib.hid hV
  have HS := Lib.hid hs1
  clear hs0 hX hf hR hpn hpf hpy hpk hV hs1 hb hx nn ny ok hT
  subst hwa hxb
  go_enter Try.func61, Try.ntmps61
  cases hd : (V == no)
  all_goals go_wp2_with (go_at_fn gc; ((with_reducible refine (C).mono ?_); rintro e w1 ⟨rfl, hI1, hx1, hk1⟩; obtain ⟨c1, c2, c3, c4, c5⟩ := stay.out w1 hk1; have c6 : w1.cell? ⟨w.heap.size, 0, none⟩ = some (.int .i64 V) := hx1.cell 0; obtain ⟨k1, k2, k3, k4⟩ := key.out w1 hI1 hx1 hk1 (V == yes); obtain ⟨f1, f2⟩ := stay2.out _ k3; have f3 := k4.cell 0; simp only [List.getElem?_toArray, List.getElem?_cons_zero] at f3; have HK := Lib.hid (And.intro k1 (And.intro k2 k3)); clear k1 k2 k3 k4))
  all_goals go_ret
  all_goals refine ⟨?_, ?_, ?_, HK.out.2.2⟩
  all_goals unfold eithRun
  all_goals (try simp only [← HV.out, ← HS.out, hd])
  all_goals first | rfl | exact HK.out.1 | exact HK.out.2.1

set_option maxRecDepth 100000 in
set_option maxHeartbeats 1000000 in
theorem either_yes (K : Carr gc lbc I Ok len R step val) (kd : Nat) (hk : kd < 4) (no yes : Int) (X : Nat) (T : TypeId) (o : Nat) (cs0 : Array Value) (s0 : σ) (pn pf py pk : Nat) (w : World)
    (hs0 : I s0 w) (ok : Ok X) (hT : plain T = true) (hX : Blk w X T cs0) (hf : cs0[o]? = some (.bool true)) (hR : len s0 + wid kd ≤ R)
    (hpn : Blk w pn 3 #[.int .i64 no]) (hpf : Blk w pf 98 #[.pointer (some ⟨X, o, none⟩)]) (hpy : Blk w py 3 #[.int .i64 yes]) (hpk : Blk w pk 93 #[.int .i64 (kd : Nat)])
    (nn : pn ≠ X) (ny : py ≠ X) :
    Calls Try.prog 61 #[.func (.func gc) #[] lbc, .pointer (some ⟨pn, 0, none⟩), .pointer (some ⟨pf, 0, none⟩), .pointer (some ⟨py, 0, none⟩), .pointer (some ⟨pk, 0, none⟩)] w (Ran I w X T (eithRun step val kd no yes o yes s0 cs0)) := by
  have eg := K.eg
  have a1 : w.cell? ⟨pn, 0, none⟩ = some (.int .i64 no) := hpn.cell 0
  obtain ⟨xb, hxb⟩ : ∃ xb, xb = w.heap.size := ⟨_, rfl⟩
  obtain ⟨wa, hwa⟩ : ∃ wa, wa = (w.alloc (.cells #[.int .i64 yes] 3)) := ⟨_, rfl⟩
  have hb : Below w.heap.size w wa := hwa ▸ (Below.refl w.heap.size w).alloc (Nat.le_refl _) _
  have hx : Blk wa xb 3 #[.int .i64 yes] := by rw [hwa, hxb]; exact Blk.new w _ _
  have os : o < cs0.size := by
    rcases Nat.lt_or_ge o cs0.size with h2 | h2
    · exact h2
    · rw [Array.getElem?_eq_none h2] at hf; cases hf
  have nx : X ≠ xb := by rw [hxb]; have := hX.lt; omega
  have C := K.call wa s0 kd xb 0 3 #[.int .i64 yes] yes hk (K.below _ _ _ hs0 hb) (K.fresh _ _ _ hs0 (by omega)) (by decide) hx rfl hR
  obtain ⟨V, hV⟩ : ∃ V, V = val kd s0 yes := ⟨_, rfl⟩
  obtain ⟨s1, hs1⟩ : ∃ s1, s1 = step kd s0 yes := ⟨_, rfl⟩
  rw [← hV, ← hs1] at C
  have key : ∀ w1, I s1 w1 → Blk w1 xb 3 #[.int .i64 V] → Keeps wa w1 xb → ∀ bl : Bool, I s1 (w1.setCell ⟨X, o, none⟩ (.bool bl)) ∧ Blk (w1.setCell ⟨X, o, none⟩ (.bool bl)) X T (cs0.setIfInBounds o (.bool bl)) ∧ Keeps w (w1.setCell ⟨X, o, none⟩ (.bool bl)) X ∧ Blk (w1.setCell ⟨X, o, none⟩ (.bool bl)) xb 3 #[.int .i64 V] := by
    intro w1 hI1 hx1 hk1 bl
    have hX1 : Blk w1 X T cs0 := hk1.2 X T cs0 hT nx (hX.below hb)
    have oo : Only w1 (w1.setCell ⟨X, o, none⟩ (.bool bl)) [X] := (Only.refl w1 [X]).set (.inl (by simp)) _
    exact ⟨K.store _ _ _ X T cs0 hI1 ok hT hX1 oo, hX1.set o _, (Keeps.new hb hk1 (by omega)).trans (Keeps.only oo), hx1.only oo (by simpa using nx.symm)⟩
  have stay : ∀ w1, Keeps wa w1 xb → w1.cell? ⟨pn, 0, none⟩ = some (.int .i64 no) ∧ w1.cell? ⟨pf, 0, none⟩ = some (.pointer (some ⟨X, o, none⟩)) ∧ w1.cell? ⟨py, 0, none⟩ = some (.int .i64 yes) ∧ w1.cell? ⟨X, o, none⟩ = some (.bool true) ∧ w1.frozen? ⟨X, o, none⟩ = false := by
    intro w1 hk1
    have hX1 : Blk w1 X T cs0 := hk1.2 X T cs0 hT nx (hX.below hb)
    exact ⟨(hk1.2 pn _ _ (by decide) (by have := hpn.lt; omega) (hpn.below hb)).cell 0, (hk1.2 pf _ _ (by decide) (by have := hpf.lt; omega) (hpf.below hb)).cell 0, (hk1.2 py _ _ (by decide) (by have := hpy.lt; omega) (hpy.below hb)).cell 0, (hX1.cell o).trans hf, hX1.frozen o⟩
  have stay2 : ∀ w1, Keeps w w1 X → w1.cell? ⟨pn, 0, none⟩ = some (.int .i64 no) ∧ w1.cell? ⟨py, 0, none⟩ = some (.int .i64 yes) := by
    intro w1 hk1
    exact ⟨(hk1.2 pn _ _ (by decide) nn hpn).cell 0, (hk1.2 py _ _ (by decide) ny hpy).cell 0⟩
  have b2 : w.cell? ⟨pf, 0, none⟩ = some (.pointer (some ⟨X, o, none⟩)) := hpf.cell 0
  have b3 : w.cell? ⟨X, o, none⟩ = some (.bool true) := (hX.cell o).trans hf
  have b4 : w.cell? ⟨pk, 0, none⟩ = some (.int .i64 (kd : Nat)) := hpk.cell 0
  have b5 : w.cell? ⟨py, 0, none⟩ = some (.int .i64 yes) := hpy.cell 0
  have ll : pn < w.heap.size ∧ pf < w.heap.size ∧ py < w.heap.size ∧ pk < w.heap.size ∧ X < w.heap.size := ⟨hpn.lt, hpf.lt, hpy.lt, hpk.lt, hX.lt⟩
  have key := Lib.hid key
  have stay := Lib.hid stay
  have stay2 := Lib.hid stay2
  have HV := Lib.hid hV
  have HS := Lib.hid hs1
  clear hs0 hX hf hR hpn hpf hpy hpk hV hs1 hb hx nn ny ok hT
  subst hwa hxb
  go_enter Try.func61, Try.ntmps61
  cases hd : (V == no)
  all_goals go_wp2_with (go_at_fn gc; ((with_reducible refine (C).mono ?_); rintro e w1 ⟨rfl, hI1, hx1, hk1⟩; obtain ⟨c1, c2, c3, c4, c5⟩ := stay.out w1 hk1; have c6 : w1.cell? ⟨w.heap.size, 0, none⟩ = some (.int .i64 V) := hx1.cell 0; obtain ⟨k1, k2, k3, k4⟩ := key.out w1 hI1 hx1 hk1 (V == yes); obtain ⟨f1, f2⟩ := stay2.out _ k3; have f3 := k4.cell 0; simp only [List.getElem?_toArray, List.getElem?_cons_zero] at f3; have HK := Lib.hid (And.intro k1 (And.intro k2 k3)); clear k1 k2 k3 k4))
  all_goals go_ret
  all_goals refine ⟨?_, ?_, ?_, HK.out.2.2⟩
  all_goals unfold eithRun
  all_goals (try simp only [← HV.out, ← HS.out, hd])
  all_goals first | rfl | exact HK.out.1 | exact HK.out.2.1

theorem either_any (K : Carr gc lbc I Ok len R step val) (kd : Nat) (hk : kd < 4) (no yes : Int) (X : Nat) (T : TypeId) (o : Nat) (f : Bool) (cs0 : Array Value) (s0 : σ) (pn pf py pk : Nat) (w : World)
    (hs0 : I s0 w) (ok : Ok X) (hT : plain T = true) (hX : Blk w X T cs0) (hf : cs0[o]? = some (.bool f)) (hR : len s0 + wid kd ≤ R)
    (hpn : Blk w pn 3 #[.int .i64 no]) (hpf : Blk w pf 98 #[.pointer (some ⟨X, o, none⟩)]) (hpy : Blk w py 3 #[.int .i64 yes]) (hpk : Blk w pk 93 #[.int .i64 (kd : Nat)])
    (nn : pn ≠ X) (ny : py ≠ X) :
    Calls Try.prog 61 #[.func (.func gc) #[] lbc, .pointer (some ⟨pn, 0, none⟩), .pointer (some ⟨pf, 0, none⟩), .pointer (some ⟨py, 0, none⟩), .pointer (some ⟨pk, 0, none⟩)] w (Ran I w X T (eithRun step val kd no yes o (if f then yes else no) s0 cs0)) := by
  cases f
  · exact either_no K kd hk no yes X T o cs0 s0 pn pf py pk w hs0 ok hT hX hf hR hpn hpf hpy hpk nn ny
  · exact either_yes K kd hk no yes X T o cs0 s0 pn pf py pk w hs0 ok hT hX hf hR hpn hpf hpy hpk nn ny

/-- What a field beside a flag comes to, where the field is free. -/
def condRun (step : Nat → σ → Int → σ) (f : Bool) (n : Nat) (s : σ) (cs : Array Value) : Bool × σ × Array Value := (true, if f then freeRun step n s else s, cs)
set_option maxRecDepth 100000 in
theorem where_any (K : Carr gc lbc I Ok len R step val) (X : Nat) (T : TypeId) (n o : Nat) (f : Bool) (cs0 : Array Value) (s0 : σ) (pn pf pv : Nat) (w : World)
    (hs0 : I s0 w) (hT : plain T = true) (hX : Blk w X T cs0) (hf : cs0[o]? = some (.bool f)) (hR : len s0 + n ≤ R) (hn : n ≤ 1099511627776)
    (hpn : Blk w pn 3 #[.int .i64 (n : Nat)]) (hpf : Blk w pf 98 #[.pointer (some ⟨X, o, none⟩)]) (hpv : Blk w pv 91 #[.func (.func 59) #[] #[.pointer (some ⟨pn, 0, none⟩)]]) :
    Calls Try.prog 69 #[.func (.func gc) #[] lbc, .pointer (some ⟨pf, 0, none⟩), .pointer (some ⟨pv, 0, none⟩)] w (Ran I w X T (condRun step f n s0 cs0)) := by
  have C := free_any K X T n cs0 s0 pn w hs0 hT hX hR hn hpn
  have b2 : w.cell? ⟨pf, 0, none⟩ = some (.pointer (some ⟨X, o, none⟩)) := hpf.cell 0
  have b3 : w.cell? ⟨X, o, none⟩ = some (.bool f) := (hX.cell o).trans hf
  have b4 : w.cell? ⟨pv, 0, none⟩ = some (.func (.func 59) #[] #[.pointer (some ⟨pn, 0, none⟩)]) := hpv.cell 0
  have HE : Ran I w X T (true, s0, cs0) (.returned (.bool true)) w := ⟨rfl, hs0, hX, Keeps.refl _ _⟩
  have HE := Lib.hid HE
  clear hs0 hX hpn hpf hpv hf hR
  unfold condRun
  cases f with
  | false =>
    clear C
    go_enter Try.func69, Try.ntmps69
    go_wp2
    go_ret
    exact HE.out
  | true =>
    go_enter Try.func69, Try.ntmps69
    go_wp2_with (go_at_call 59; ((with_reducible refine (C).mono ?_); rintro e w1 ⟨rfl, hq⟩))
    go_ret
    exact ⟨rfl, hq⟩
end

end Go.Proofs.Ytbomgaacahaofaa
