/- Part 4 of the proof: Rd1, Rd2, Rd3, Rd4, Rn, Rs, From, Into. -/
import Derived.Lib.Hide
import Derived.LoopTactic
import Derived.WalkSpells
import Derived.Test.YtbomgaacahaofaaCP2

namespace Go.Proofs.Ytbomgaacahaofaa
open Go Go.RowKit

theorem isBad_low (p n c i : Nat) (A : Option Addr) (bad : Bool) (w : World) (hb : Blk w p 114 #[.slice A n c, .int .i64 (i : Nat), .bool bad]) :
    Calls Try.prog 68 #[.pointer (some ⟨p, 0, none⟩)] w fun e w' => e = .returned (.bool bad) ∧ w = w' := by
  have F := hb.kb; simp only [KB, CellsAt, Nat.zero_add, Nat.reduceAdd, and_true] at F
  clear hb
  go_enter Try.func68, Try.ntmps68
  go_wp2
  go_ret
  exact ⟨rfl, rfl⟩

theorem left_low (p n c i : Nat) (A : Option Addr) (w : World) (hb : Blk w p 114 #[.slice A n c, .int .i64 (i : Nat), .bool false]) (hn : n ≤ 4611686018427387904) (hi : i ≤ n) :
    Calls Try.prog 75 #[.pointer (some ⟨p, 0, none⟩)] w fun e w' => e = .returned (.int .i64 ((n - i : Nat) : Int)) ∧ Below w.heap.size w w' := by
  have C := isBad_low p n c i A false w hb
  have HK : ∀ w', Below w.heap.size w w' → KB w' [(p, [.slice A n c, .int .i64 (i : Nat), .bool false])] := fun w' hS => (hb.below hS).kb
  have s1 : IntKind.i64.wrap ((n : Int) - (i : Int)) = (n : Int) - (i : Int) := IntWalk.i64_in _ (by omega)
  go_enter Try.func75, Try.ntmps75
  go_wp2_with (first | (go_at_call 68; ((with_reducible refine (C).mono ?_); rintro e w' ⟨rfl, rfl⟩)))
  refine wp_region_plan (fun w' => Below w.heap.size w w') _ rfl (by kernel_rfl) (by kernel_rfl) ((Below.refl _ _).drew) ?_
  repeat (first
    | (refine PlanL.skip (by rfl) ?_; simp only [Act.put, List.setIfInBounds_toArray, List.set_cons_zero, List.set_cons_succ])
    | (refine PlanL.val (v := ?_) (by rfl) ?_ ?_; rotate_left; (focus (intro w' hS; have F := HK _ hS; simp only [KB, CellsAt, Nat.zero_add, Nat.reduceAdd, and_true] at F; go_simp <;> with_reducible rfl)); try simp only [Act.put, List.setIfInBounds_toArray, List.set_cons_zero, List.set_cons_succ]))
  refine PlanL.nil ?_
  intro w' hS
  have F := HK _ hS; simp only [KB, CellsAt, Nat.zero_add, Nat.reduceAdd, and_true] at F
  clear F s1
  go_wp2
  go_ret
  exact ⟨ret_int (by omega), hS⟩


theorem rdone_low (p n c i : Nat) (A : Option Addr) (bad : Bool) (w : World) (hb : Blk w p 114 #[.slice A n c, .int .i64 (i : Nat), .bool bad]) :
    Calls Try.prog 51 #[.pointer (some ⟨p, 0, none⟩)] w fun e w' => e = .returned (.int .i64 (if bad then 30 else 0)) ∧ w = w' := by
  have C := isBad_low p n c i A bad w hb
  clear hb
  cases bad
  all_goals
    go_enter Try.func51, Try.ntmps51
    go_wp2_with (first | (go_at_call 68; ((with_reducible refine (C).mono ?_); rintro e w' ⟨rfl, rfl⟩)))
    go_ret
    exact ⟨rfl, rfl⟩

theorem addr_add_add1 (a : Addr) (i j : Nat) : (a.add i).add j = a.add (i + j) := by
  unfold Addr.add
  by_cases hi : i = 0
  · subst hi; simp
  · by_cases hj : j = 0
    · subst hj; simp [hi]
    · simp [hi, hj, Nat.add_assoc]

/-- A part of a list. -/
theorem lists_part {w : World} {B : Nat} {A : Option Addr} {xs : List Value} (h : Lists w B A xs) (i m : Nat) : Lists w B (A.map (·.add i)) ((xs.drop i).take m) := by
  refine ⟨fun ha => ?_, fun a ha j u hu => ?_, fun a ha hx => ?_⟩
  · cases A with
    | none => rw [h.nil rfl]; simp
    | some a => cases ha
  · cases A with
    | none => cases ha
    | some a0 =>
      cases ha
      rw [addr_add_add1]
      refine h.cell a0 rfl (i + j) u ?_
      rw [List.getElem?_take] at hu
      split at hu
      · rwa [List.getElem?_drop] at hu
      · cases hu
  · cases A with
    | none => cases ha
    | some a0 =>
      cases ha
      rw [addr_add_block]
      exact h.lt a0 rfl (by intro e; subst e; simp at hx)

/-- A slice that reads as xs, of just its capacity. -/
def GavePart (w : World) (xs : List Value) (e : Ending) (w' : World) : Prop := ∃ A, e = .returned (.slice A xs.length xs.length) ∧ Lists w w.heap.size A xs ∧ w = w'

theorem part_any (A : Option Addr) (n c i m : Nat) (xs : List Value) (w : World) (hx : xs.length = n) (hl : Lists w w.heap.size A xs) (hc : n ≤ c) (hc2 : c ≤ 9223372036854775807) (him : i + m ≤ n) :
    Calls Try.prog 76 #[.slice A n c, .int .i64 (i : Nat), .int .i64 (m : Nat)] w fun e w' => GavePart w ((xs.drop i).take m) e w' := by
  have hlen : ((xs.drop i).take m).length = m := by simp only [List.length_take, List.length_drop]; omega
  have hp := lists_part hl i m
  have h1 : (0 : Int) ≤ (i : Int) := by omega
  have h2 : (0 : Int) ≤ (m : Int) := by omega
  have h3 : (i : Int) + (m : Int) ≤ (c : Int) := by omega
  have s1 : wrap64 ((i : Int) + (m : Int)) = (i : Int) + (m : Int) := by unfold wrap64; omega
  have hfin : ∀ (A' : Option Addr) (k : Nat), k = m → (A' = A.map (·.add i) ∨ (A' = A ∧ m = 0)) → GavePart w ((xs.drop i).take m) (.returned (.slice A' k k)) w := fun A' k hk h => by
    subst hk
    refine ⟨A', by rw [hlen], ?_, rfl⟩
    rcases h with rfl | ⟨rfl, h0⟩
    · exact hp
    · rw [h0, List.take_zero]; exact Lists.empty _ _ _
  have HF := Lib.hid hfin
  clear hfin hp hl hlen hx
  by_cases hm0 : m = 0
  · subst hm0
    go_enter Try.func76, Try.ntmps76
    go_wp2
    all_goals go_ret
    all_goals exact HF.out A _ (by first | rfl | trivial | omega) (.inr ⟨rfl, (by trivial)⟩)
  · have hm1 : 0 < m := by omega
    have hm2 : ¬ i + m = i := by omega
    go_enter Try.func76, Try.ntmps76
    go_wp2
    all_goals go_ret
    all_goals exact HF.out _ _ (by omega) (.inl rfl)

end Go.Proofs.Ytbomgaacahaofaa

namespace Go.Proofs.Ytbomgaacahaofaa
open Go Go.RowKit
variable {q : Nat → Prop}

/-- A reader at block p: its bytes, where it stands, whether it is bad. -/
def Rd (q : Nat → Prop) (w : World) (p : Nat) (bs : List Value) (i : Nat) (bad : Bool) : Prop :=
  ∃ (A : Option Addr) (c : Nat), Blk w p 114 #[.slice A bs.length c, .int .i64 (i : Nat), .bool bad] ∧ Lists w w.heap.size A bs ∧ Bytes8 bs ∧ i ≤ bs.length ∧ bs.length ≤ c ∧ c ≤ 9223372036854775807 ∧ ∀ a, A = some a → bs ≠ [] → a.block ≠ p ∧ q a.block

theorem Rd.lt {w : World} {p i : Nat} {bs : List Value} {bad : Bool} (h : Rd q w p bs i bad) : p < w.heap.size := by
  obtain ⟨_, _, hb, _⟩ := h
  exact hb.lt
theorem Rd.below {w w1 : World} {p i : Nat} {bs : List Value} {bad : Bool} (h : Rd q w p bs i bad) (k : Below w.heap.size w w1) : Rd q w1 p bs i bad := by
  obtain ⟨A, c, hb, hl, h1⟩ := h
  exact ⟨A, c, hb.below k, (hl.below k).more k.size, h1⟩
/-- The reader moved on, or went bad: nothing else has turned. -/
theorem Rd.move {w w1 : World} {p : Nat} {bs : List Value} {A : Option Addr} {c j : Nat} {bad1 : Bool} (hl : Lists w w.heap.size A bs) (h8 : Bytes8 bs) (hc : bs.length ≤ c) (hc2 : c ≤ 9223372036854775807) (hne : ∀ a, A = some a → bs ≠ [] → a.block ≠ p ∧ q a.block)
    (hb : Blk w1 p 114 #[.slice A bs.length c, .int .i64 (j : Nat), .bool bad1]) (o : Only w w1 [p]) (hj : j ≤ bs.length) : Rd q w1 p bs j bad1 :=
  ⟨A, c, hb, (lists_only hl (Nat.le_refl _) o (fun a ha hx e => by simp at e; exact (hne a ha hx).1 e)).more o.size, h8, hj, hc, hc2, hne⟩

/-- A reader stays where other blocks are changed. -/
theorem Rd.only {w w1 : World} {p i : Nat} {bs : List Value} {bad : Bool} {fp : List Nat} (h : Rd q w p bs i bad) (k : Only w w1 fp) (hp : p ∉ fp) (hq : ∀ b ∈ fp, ¬ q b) : Rd q w1 p bs i bad := by
  obtain ⟨A, c, hb, hl, h8, hi, hc, hc2, hne⟩ := h
  exact ⟨A, c, hb.only k hp, (lists_only hl (Nat.le_refl _) k (fun a ha hx e => hq _ e (hne a ha hx).2)).more k.size, h8, hi, hc, hc2, hne⟩
theorem Rd.weaken {w : World} {p i : Nat} {bs : List Value} {bad : Bool} {q1 : Nat → Prop} (h : Rd q w p bs i bad) (hq : ∀ b, q b → q1 b) : Rd q1 w p bs i bad := by
  obtain ⟨A, c, hb, hl, h8, hi, hc, hc2, hne⟩ := h
  exact ⟨A, c, hb, hl, h8, hi, hc, hc2, fun a ha hx => ⟨(hne a ha hx).1, hq _ (hne a ha hx).2⟩⟩
/-- What next answers: the next bytes. -/
def GaveNext (q : Nat → Prop) (w : World) (p : Nat) (bs : List Value) (i m : Nat) (e : Ending) (w' : World) : Prop :=
  ∃ A, e = .returned (.slice A m m) ∧ Lists w' w'.heap.size A ((bs.drop i).take m) ∧ Rd q w' p bs (i + m) false ∧ Only w w' [p]

set_option maxRecDepth 100000 in
theorem next_ok (p : Nat) (bs : List Value) (i m : Nat) (w : World) (h : Rd q w p bs i false) (hL : bs.length ≤ 4611686018427387904) (him : i + m ≤ bs.length) :
    Calls Try.prog 73 #[.pointer (some ⟨p, 0, none⟩), .int .i64 (m : Nat)] w fun e w' => GaveNext q w p bs i m e w' := by
  obtain ⟨A, c, hb, hl, h8, hi, hc, hc2, hne⟩ := id h
  have C1 := isBad_low p bs.length c i A false w hb
  have C2 := left_low p bs.length c i A w hb hL hi
  have HL1 := Lib.hid hl
  have H8 := Lib.hid h8
  have HNE := Lib.hid hne
  have m0 : ¬ (m : Int) < 0 := by omega
  have m1 : decide (((bs.length - i : Nat) : Int) < (m : Int)) = false := by simp; omega
  have s1 : IntKind.i64.wrap ((i : Int) + (m : Int)) = (i : Int) + (m : Int) := IntWalk.i64_in _ (by omega)
  have s2 : wrap64 ((i : Int) + (m : Int)) = (i : Int) + (m : Int) := by unfold wrap64; omega
  have F := hb.kb; simp only [KB, CellsAt, Nat.zero_add, Nat.reduceAdd, and_true] at F
  have hlen : ((bs.drop i).take m).length = m := by simp only [List.length_take, List.length_drop]; omega
  have HLEN := Lib.hid hlen
  have hI : (0 : Int) ≤ (i : Int) := by omega
  have hS : ∀ w1, Below w.heap.size w w1 → Only w (w1.setCell ⟨p, 1, none⟩ (.int .i64 ((i : Int) + (m : Int)))) [p] := fun w1 b1 => (Only.of_below b1 [p]).set (.inl (by simp)) _
  have HLS := fun w1 (b1 : Below w.heap.size w w1) => (lists_only hl (Nat.le_refl _) (hS w1 b1) (fun a ha hx e => by simp at e; exact (hne a ha hx).1 e)).more (hS w1 b1).size
  clear h hl h8 hne hlen
  go_enter Try.func73, Try.ntmps73
  go_wp2_with (first | (go_at_call 68; ((with_reducible refine (C1).mono ?_); rintro e w' ⟨rfl, rfl⟩)) | (go_at_call 75; ((with_reducible refine (C2).mono ?_); rintro e w1 ⟨rfl, b1⟩; have hb1 := hb.below b1; have F1 := hb1.kb; simp only [KB, CellsAt, Nat.zero_add, Nat.reduceAdd, and_true] at F1)) | (go_at_call 76; ((refine (part_any A bs.length c i m bs _ rfl (HLS _ b1) hc hc2 him).mono ?_); rintro e w2 ⟨A2, rfl, l2, rfl⟩; rw [HLEN.out])))
  go_ret
  refine ⟨A2, rfl, l2, Rd.move HL1.out H8.out hc hc2 HNE.out ?_ (hS _ b1) him, hS _ b1⟩
  have hb2 := hb1.set 1 (.int .i64 ((i : Int) + (m : Int)))
  rw [show ((i + m : Nat) : Int) = (i : Int) + (m : Int) by omega]
  exact hb2

set_option maxRecDepth 100000 in
theorem next_short (p : Nat) (bs : List Value) (i : Nat) (m : Int) (w : World) (h : Rd q w p bs i false) (hL : bs.length ≤ 4611686018427387904) (him : m < 0 ∨ ((bs.length - i : Nat) : Int) < m) :
    Calls Try.prog 73 #[.pointer (some ⟨p, 0, none⟩), .int .i64 m] w fun e w' => e = .returned (.slice none 0 0) ∧ Rd q w' p bs i true ∧ Only w w' [p] := by
  obtain ⟨A, c, hb, hl, h8, hi, hc, hc2, hne⟩ := id h
  have C1 := isBad_low p bs.length c i A false w hb
  have C2 := left_low p bs.length c i A w hb hL hi
  have HL1 := Lib.hid hl
  have H8 := Lib.hid h8
  have HNE := Lib.hid hne
  have F := hb.kb; simp only [KB, CellsAt, Nat.zero_add, Nat.reduceAdd, and_true] at F
  clear h hl h8 hne
  by_cases m0 : m < 0
  · go_enter Try.func73, Try.ntmps73
    go_wp2_with (first | (go_at_call 68; ((with_reducible refine (C1).mono ?_); rintro e w' ⟨rfl, rfl⟩)))
    go_ret
    have o : Only w (w.setCell ⟨p, 2, none⟩ (.bool true)) [p] := (Only.refl w [p]).set (.inl (by simp)) _
    exact ⟨rfl, Rd.move HL1.out H8.out hc hc2 HNE.out (hb.set 2 (.bool true)) o hi, o⟩
  · have hm : ((bs.length - i : Nat) : Int) < m := him.resolve_left m0
    have m1 : decide (((bs.length - i : Nat) : Int) < m) = true := by simpa using hm
    clear him
    go_enter Try.func73, Try.ntmps73
    go_wp2_with (first | (go_at_call 68; ((with_reducible refine (C1).mono ?_); rintro e w' ⟨rfl, rfl⟩)) | (go_at_call 75; ((with_reducible refine (C2).mono ?_); rintro e w1 ⟨rfl, b1⟩; have hb1 := hb.below b1; have F1 := hb1.kb; simp only [KB, CellsAt, Nat.zero_add, Nat.reduceAdd, and_true] at F1)))
    go_ret
    have o : Only w (w1.setCell ⟨p, 2, none⟩ (.bool true)) [p] := (Only.of_below b1 [p]).set (.inl (by simp)) _
    exact ⟨rfl, Rd.move HL1.out H8.out hc hc2 HNE.out (hb1.set 2 (.bool true)) o hi, o⟩

theorem next_bad (p : Nat) (bs : List Value) (i : Nat) (m : Int) (w : World) (h : Rd q w p bs i true) :
    Calls Try.prog 73 #[.pointer (some ⟨p, 0, none⟩), .int .i64 m] w fun e w' => e = .returned (.slice none 0 0) ∧ w = w' := by
  obtain ⟨A, c, hb, _⟩ := h
  have C1 := isBad_low p bs.length c i A true w hb
  clear hb
  go_enter Try.func73, Try.ntmps73
  go_wp2_with (first | (go_at_call 68; ((with_reducible refine (C1).mono ?_); rintro e w' ⟨rfl, rfl⟩)))
  go_ret
  exact ⟨rfl, rfl⟩

end Go.Proofs.Ytbomgaacahaofaa

namespace Go.Proofs.Ytbomgaacahaofaa
open Go Go.RowKit
variable {q : Nat → Prop}

theorem or_nat (a b : Nat) (ha : a < 4611686018427387904) (hb : b < 4611686018427387904) : bits .or .i64 (a : Int) (b : Int) = ((a ||| b : Nat) : Int) := by
  have hx : a ||| b < 2 ^ 62 := Nat.or_lt_two_pow (by omega) (by omega)
  have h1 : (BitVec.ofInt 64 (a : Int)).toNat = a := by
    rw [BitVec.ofInt_natCast, BitVec.toNat_ofNat]; exact Nat.mod_eq_of_lt (by omega)
  have h2 : (BitVec.ofInt 64 (b : Int)).toNat = b := by
    rw [BitVec.ofInt_natCast, BitVec.toNat_ofNat]; exact Nat.mod_eq_of_lt (by omega)
  show IntKind.i64.wrap ((BitVec.ofInt 64 (a : Int) ||| BitVec.ofInt 64 (b : Int)).toNat : Int) = _
  rw [BitVec.toNat_or, h1, h2]
  exact IntWalk.i64_in _ (by omega)
theorem or_first (x : Nat) (hx : x < 256) : bits .or .i64 0 (x : Int) = (x : Int) := by
  have := or_nat 0 x (by omega) (by omega)
  rwa [Nat.zero_or] at this
theorem or_next (a x : Nat) (ha : a < 1099511627776) (hx : x < 256) : bits .or .i64 (wrap64 ((a : Int) * 256)) (x : Int) = ((a * 256 + x : Nat) : Int) := by
  have e1 : wrap64 ((a : Int) * 256) = ((a * 256 : Nat) : Int) := by unfold wrap64; omega
  rw [e1, or_nat (a * 256) x (by omega) (by omega), show a * 256 = 2 ^ 8 * a by omega, ← Nat.two_pow_add_eq_or_of_lt (by omega)]

set_option maxRecDepth 100000 in
theorem number1_ok (p : Nat) (bs : List Value) (i x0 : Nat) (w : World) (h : Rd q w p bs i false) (hL : bs.length ≤ 4611686018427387904) (him : i + 1 ≤ bs.length) (h0 : bs[i]? = some (.int .u8 (x0 : Nat))) (l0 : x0 < 256) :
    Calls Try.prog 71 #[.pointer (some ⟨p, 0, none⟩), .int .i64 1] w fun e w' => e = .returned (.int .i64 (x0 : Nat)) ∧ Rd q w' p bs (i + 1) false ∧ Only w w' [p] := by
  have C := next_ok p bs i 1 w h hL him
  have e : (bs.drop i).take 1 = [.int .u8 (x0 : Nat)] := by
    apply List.ext_getElem?
    intro j
    rw [List.getElem?_take, List.getElem?_drop]
    match j with
    | 0 => simpa using h0
    | j + 1 => simp <;> omega
  clear h h0
  have E := Lib.hid e
  clear e
  go_enter Try.func71, Try.ntmps71
  go_wp2_with (first | (go_at_call 73; ((refine C.mono ?_); rintro e w2 ⟨A2, rfl, ll, hr, o2⟩; rw [E.out] at ll; obtain ⟨b, o, rfl, hb, hc⟩ := ll.plain (by simp); have c0 := hc 0 _ rfl; rw [Nat.add_zero] at c0; clear hc)))
  refine wp_loop_rounds 2 ?_
  rw [rounds_succ]
  go_wp2
  rw [rounds_succ]
  go_wp2
  go_ret
  exact ⟨ret_int (by rw [or_first x0 l0]), hr, o2⟩

set_option maxRecDepth 100000 in
theorem number2_ok (p : Nat) (bs : List Value) (i x0 x1 : Nat) (w : World) (h : Rd q w p bs i false) (hL : bs.length ≤ 4611686018427387904) (him : i + 2 ≤ bs.length) (h0 : bs[i]? = some (.int .u8 (x0 : Nat))) (h1 : bs[i + 1]? = some (.int .u8 (x1 : Nat))) (l0 : x0 < 256) (l1 : x1 < 256) :
    Calls Try.prog 71 #[.pointer (some ⟨p, 0, none⟩), .int .i64 2] w fun e w' => e = .returned (.int .i64 ((x0 * 256 + x1) : Nat)) ∧ Rd q w' p bs (i + 2) false ∧ Only w w' [p] := by
  have C := next_ok p bs i 2 w h hL him
  have e : (bs.drop i).take 2 = [.int .u8 (x0 : Nat), .int .u8 (x1 : Nat)] := by
    apply List.ext_getElem?
    intro j
    rw [List.getElem?_take, List.getElem?_drop]
    match j with
    | 0 => simpa using h0
    | 1 => simpa using h1
    | j + 2 => simp <;> omega
  clear h h0 h1
  have E := Lib.hid e
  clear e
  go_enter Try.func71, Try.ntmps71
  go_wp2_with (first | (go_at_call 73; ((refine C.mono ?_); rintro e w2 ⟨A2, rfl, ll, hr, o2⟩; rw [E.out] at ll; obtain ⟨b, o, rfl, hb, hc⟩ := ll.plain (by simp); have c0 := hc 0 _ rfl; have c1 := hc 1 _ rfl; rw [Nat.add_zero] at c0; clear hc)))
  refine wp_loop_rounds 3 ?_
  rw [rounds_succ]
  go_wp2
  rw [rounds_succ]
  go_wp2
  rw [rounds_succ]
  go_wp2
  go_ret
  exact ⟨ret_int (by rw [or_first x0 l0, or_next x0 x1 (by omega) l1]), hr, o2⟩

set_option maxRecDepth 100000 in
theorem number4_ok (p : Nat) (bs : List Value) (i x0 x1 x2 x3 : Nat) (w : World) (h : Rd q w p bs i false) (hL : bs.length ≤ 4611686018427387904) (him : i + 4 ≤ bs.length) (h0 : bs[i]? = some (.int .u8 (x0 : Nat))) (h1 : bs[i + 1]? = some (.int .u8 (x1 : Nat))) (h2 : bs[i + 2]? = some (.int .u8 (x2 : Nat))) (h3 : bs[i + 3]? = some (.int .u8 (x3 : Nat))) (l0 : x0 < 256) (l1 : x1 < 256) (l2 : x2 < 256) (l3 : x3 < 256) :
    Calls Try.prog 71 #[.pointer (some ⟨p, 0, none⟩), .int .i64 4] w fun e w' => e = .returned (.int .i64 ((((x0 * 256 + x1) * 256 + x2) * 256 + x3) : Nat)) ∧ Rd q w' p bs (i + 4) false ∧ Only w w' [p] := by
  have C := next_ok p bs i 4 w h hL him
  have e : (bs.drop i).take 4 = [.int .u8 (x0 : Nat), .int .u8 (x1 : Nat), .int .u8 (x2 : Nat), .int .u8 (x3 : Nat)] := by
    apply List.ext_getElem?
    intro j
    rw [List.getElem?_take, List.getElem?_drop]
    match j with
    | 0 => simpa using h0
    | 1 => simpa using h1
    | 2 => simpa using h2
    | 3 => simpa using h3
    | j + 4 => simp <;> omega
  clear h h0 h1 h2 h3
  have E := Lib.hid e
  clear e
  go_enter Try.func71, Try.ntmps71
  go_wp2_with (first | (go_at_call 73; ((refine C.mono ?_); rintro e w2 ⟨A2, rfl, ll, hr, o2⟩; rw [E.out] at ll; obtain ⟨b, o, rfl, hb, hc⟩ := ll.plain (by simp); have c0 := hc 0 _ rfl; have c1 := hc 1 _ rfl; have c2 := hc 2 _ rfl; have c3 := hc 3 _ rfl; rw [Nat.add_zero] at c0; clear hc)))
  refine wp_loop_rounds 5 ?_
  rw [rounds_succ]
  go_wp2
  rw [rounds_succ]
  go_wp2
  rw [rounds_succ]
  go_wp2
  rw [rounds_succ]
  go_wp2
  rw [rounds_succ]
  go_wp2
  go_ret
  exact ⟨ret_int (by rw [or_first x0 l0, or_next x0 x1 (by omega) l1, or_next (x0 * 256 + x1) x2 (by omega) l2, or_next ((x0 * 256 + x1) * 256 + x2) x3 (by omega) l3]), hr, o2⟩


theorem number_bad (p : Nat) (bs : List Value) (i : Nat) (m : Int) (w : World) (h : Rd q w p bs i true) :
    Calls Try.prog 71 #[.pointer (some ⟨p, 0, none⟩), .int .i64 m] w fun e w' => e = .returned (.int .i64 0) ∧ w = w' := by
  have C := next_bad p bs i m w h
  go_enter Try.func71, Try.ntmps71
  go_wp2_with (first | (go_at_call 73; ((refine C.mono ?_); rintro e w2 ⟨rfl, rfl⟩)))
  refine wp_loop_rounds 1 ?_
  rw [rounds_succ]
  go_wp2
  go_ret
  exact ⟨rfl, rfl⟩
theorem number_short (p : Nat) (bs : List Value) (i : Nat) (m : Int) (w : World) (h : Rd q w p bs i false) (hL : bs.length ≤ 4611686018427387904) (him : m < 0 ∨ ((bs.length - i : Nat) : Int) < m) :
    Calls Try.prog 71 #[.pointer (some ⟨p, 0, none⟩), .int .i64 m] w fun e w' => e = .returned (.int .i64 0) ∧ Rd q w' p bs i true ∧ Only w w' [p] := by
  have C := next_short p bs i m w h hL him
  clear h him
  go_enter Try.func71, Try.ntmps71
  go_wp2_with (first | (go_at_call 73; ((refine C.mono ?_); rintro e w2 ⟨rfl, hr, o2⟩)))
  refine wp_loop_rounds 1 ?_
  rw [rounds_succ]
  go_wp2
  go_ret
  exact ⟨rfl, hr, o2⟩

end Go.Proofs.Ytbomgaacahaofaa

namespace Go.Proofs.Ytbomgaacahaofaa
open Go Go.RowKit
variable {q : Nat → Prop}

/-- A copy in new memory. -/
def GaveClone (w : World) (E : List Value) (e : Ending) (w' : World) : Prop := ∃ A c, e = .returned (.slice A E.length c) ∧ Lists w' w'.heap.size A E ∧ E.length ≤ c ∧ c ≤ 9223372036854775807 ∧ Below w.heap.size w w' ∧ (∀ a, A = some a → w.heap.size ≤ a.block)

set_option maxRecDepth 100000 in
theorem clone_any (A : Option Addr) (n c : Nat) (E : List Value) (w : World) (hE : Lists w w.heap.size A E) (hn : E.length = n) (h8 : Bytes8 E) (hm : n ≤ 140737488355328) :
    Calls Try.prog 62 #[.slice A n c] w fun e w' => GaveClone w E e w' := by
  have q1 := fun w => Lib.run_eql_slice_nil (P := Try.prog) w 26 5 A n c 0 0 Try.underlying26
  cases A with
  | none =>
    obtain rfl : E = [] := hE.nil rfl
    obtain rfl : n = 0 := hn.symm
    have hq : GaveClone w [] (.returned (.slice none 0 0)) w := ⟨none, 0, rfl, Lists.empty _ _ _, Nat.le_refl _, by omega, Below.refl _ _, fun a h => (nomatch h)⟩
    go_enter Try.func62, Try.ntmps62
    go_wp2
    all_goals go_ret
    all_goals exact hq
  | some a =>
    obtain ⟨i0, hi, hz0, hz1, hz2⟩ := info_parts u8Info
    have HN := Lib.hid hn
    clear hn
    go_enter Try.func62, Try.ntmps62
    go_wp2_with (first | (at_builtin; refine wpList_append_src _ rfl (.tmp 5) (.tmp 6) 26 rfl w.heap.size 5 i0 (.int .u8 0) 1 1 Try.underlying26 hi hz0 hz1 hz2 rfl (by decide) (.slice (some ⟨w.heap.size, 0, none⟩) 0 0) 0 [] rfl ⟨rfl, .inr ⟨w.heap.size, 0, #[], rfl, Nat.le_refl _, heap_alloc_new w _, Nat.le_refl _, Nat.zero_le _, rfl, rfl⟩⟩ w.heap.size (some a) n c E rfl (hE.alloc (Nat.le_refl _) _) (by rw [HN.out, Nat.mul_one]) h8.one (by simp only [maxLen]; omega) (by omega) (by simp) ?_; intro v1 w1 hown hg hat; rw [Nat.zero_add, List.nil_append] at hown))
    go_ret
    have hb : Below w.heap.size w w1 := ((Below.refl _ _).alloc (Nat.le_refl _) _).grown hg (by simp) (fun j hj => by cases hj; exact Nat.le_refl _)
    obtain ⟨A2, c2, hv, hl, hc2⟩ := own_lists hown
    have hcm : c2 ≤ maxLen := by
      rcases hown.2 with ⟨h, _⟩ | ⟨g, cap, cur, h, _, _, _, h7, _⟩
      · rw [hv] at h; injection h with _ _ h; omega
      · rw [hv] at h; injection h with _ _ h; omega
    have hlow : ∀ a, A2 = some a → w.heap.size ≤ a.block := by
      rcases hown.2 with ⟨h, _⟩ | ⟨g, cap, cur, h, h1, _⟩
      · rw [hv] at h; injection h with h; intro a ha; rw [h] at ha; cases ha
      · rw [hv] at h; injection h with h; intro a ha; rw [h] at ha; cases ha; exact h1
    unfold maxLen at hcm
    exact ⟨A2, c2, by rw [HN.out]; exact congrArg _ hv, hl, by rw [HN.out]; exact hc2, by omega, hb, hlow⟩

/-- A new reader was answered. -/
def MadeRd (w : World) (E : List Value) (e : Ending) (w' : World) : Prop := ∃ p, e = .returned (.pointer (some ⟨p, 0, none⟩)) ∧ Rd (fun b => w.heap.size ≤ b ∧ b < w'.heap.size) w' p E 0 false ∧ Below w.heap.size w w' ∧ w.heap.size ≤ p

theorem new_any (A : Option Addr) (n c : Nat) (E : List Value) (w : World) (hE : Lists w w.heap.size A E) (hn : E.length = n) (h8 : Bytes8 E) (hm : n ≤ 140737488355328) :
    Calls Try.prog 49 #[.slice A n c] w fun e w' => MadeRd w E e w' := by
  have C := clone_any A n c E w hE hn h8 hm
  clear hE hn
  go_enter Try.func49, Try.ntmps49
  go_wp2_with (first | (go_at_call 62; ((refine C.mono ?_); rintro e w1 ⟨A1, c1, rfl, hl, hc, hc2, hb, hlow⟩)))
  go_ret
  refine ⟨w1.heap.size, rfl, ⟨A1, c1, Blk.new w1 _ _, (hl.alloc (Nat.le_refl _) _).more (by simp), h8, Nat.zero_le _, hc, hc2, fun a ha hx => ?_⟩, hb.alloc hb.size _, hb.size⟩
  have := hl.lt a ha hx
  exact ⟨by omega, hlow a ha, by simp <;> omega⟩

theorem rU16_ok (p : Nat) (bs : List Value) (i x0 x1 : Nat) (w : World) (h : Rd q w p bs i false) (hL : bs.length ≤ 4611686018427387904) (him : i + 2 ≤ bs.length) (h0 : bs[i]? = some (.int .u8 (x0 : Nat))) (h1 : bs[i + 1]? = some (.int .u8 (x1 : Nat))) (l0 : x0 < 256) (l1 : x1 < 256) :
    Calls Try.prog 65 #[.pointer (some ⟨p, 0, none⟩)] w fun e w' => e = .returned (.int .i64 (x0 * 256 + x1 : Nat)) ∧ Rd q w' p bs (i + 2) false ∧ Only w w' [p] := by
  have C := number2_ok p bs i x0 x1 w h hL him h0 h1 l0 l1
  clear h h0 h1
  go_enter Try.func65, Try.ntmps65
  go_wp2_with (first | (go_at_call 71; ((refine C.mono ?_); rintro e w2 ⟨rfl, hr, o2⟩)))
  go_ret
  exact ⟨rfl, hr, o2⟩
theorem rU16_short (p : Nat) (bs : List Value) (i : Nat) (w : World) (h : Rd q w p bs i false) (hL : bs.length ≤ 4611686018427387904) (him : bs.length - i < 2) :
    Calls Try.prog 65 #[.pointer (some ⟨p, 0, none⟩)] w fun e w' => e = .returned (.int .i64 0) ∧ Rd q w' p bs i true ∧ Only w w' [p] := by
  have C := number_short p bs i 2 w h hL (.inr (by omega))
  clear h
  go_enter Try.func65, Try.ntmps65
  go_wp2_with (first | (go_at_call 71; ((refine C.mono ?_); rintro e w2 ⟨rfl, hr, o2⟩)))
  go_ret
  exact ⟨rfl, hr, o2⟩

end Go.Proofs.Ytbomgaacahaofaa

namespace Go.Proofs.Ytbomgaacahaofaa
open Go Go.RowKit

variable {q : Nat → Prop}
theorem Rd.bytes {w : World} {p i : Nat} {bs : List Value} {bad : Bool} (h : Rd q w p bs i bad) : Bytes8 bs := by
  obtain ⟨_, _, _, _, h8, _⟩ := h
  exact h8
/-- A number was read: x; the reader stands at i. -/
def ReadN (q : Nat → Prop) (w : World) (p : Nat) (bs : List Value) (i : Nat) (x : Int) (e : Ending) (w' : World) : Prop := e = .returned (.int .i64 x) ∧ Rd q w' p bs i false ∧ Only w w' [p]
theorem rdNum2 (p : Nat) (bs : List Value) (i : Nat) (w : World) (h : Rd q w p bs i false) (hL : bs.length ≤ 4611686018427387904) (him : i + 2 ≤ bs.length) :
    Calls Try.prog 71 #[.pointer (some ⟨p, 0, none⟩), .int .i64 2] w (ReadN q w p bs (i + 2) (rd2 bs i : Nat)) :=
  number2_ok p bs i (byteAt bs i) (byteAt bs (i + 1)) w h hL him (byteAt_get h.bytes (by omega)) (byteAt_get h.bytes (by omega)) (byteAt_lt h.bytes _) (byteAt_lt h.bytes _)
theorem rdNum4 (p : Nat) (bs : List Value) (i : Nat) (w : World) (h : Rd q w p bs i false) (hL : bs.length ≤ 4611686018427387904) (him : i + 4 ≤ bs.length) :
    Calls Try.prog 71 #[.pointer (some ⟨p, 0, none⟩), .int .i64 4] w (ReadN q w p bs (i + 4) (rd4 bs i : Nat)) :=
  number4_ok p bs i (byteAt bs i) (byteAt bs (i + 1)) (byteAt bs (i + 2)) (byteAt bs (i + 3)) w h hL him (byteAt_get h.bytes (by omega)) (byteAt_get h.bytes (by omega)) (byteAt_get h.bytes (by omega)) (byteAt_get h.bytes (by omega)) (byteAt_lt h.bytes _) (byteAt_lt h.bytes _) (byteAt_lt h.bytes _) (byteAt_lt h.bytes _)
theorem rdU16 (p : Nat) (bs : List Value) (i : Nat) (w : World) (h : Rd q w p bs i false) (hL : bs.length ≤ 4611686018427387904) (him : i + 2 ≤ bs.length) :
    Calls Try.prog 65 #[.pointer (some ⟨p, 0, none⟩)] w (ReadN q w p bs (i + 2) (rd2 bs i : Nat)) := by
  have C := rdNum2 p bs i w h hL him
  clear h
  go_enter Try.func65, Try.ntmps65
  go_wp2_with (first | (go_at_call 71; ((refine C.mono ?_); rintro e w2 ⟨rfl, hr, o2⟩)))
  go_ret
  exact ⟨rfl, hr, o2⟩
theorem rdU32 (p : Nat) (bs : List Value) (i : Nat) (w : World) (h : Rd q w p bs i false) (hL : bs.length ≤ 4611686018427387904) (him : i + 4 ≤ bs.length) :
    Calls Try.prog 67 #[.pointer (some ⟨p, 0, none⟩)] w (ReadN q w p bs (i + 4) (rd4 bs i : Nat)) := by
  have C := rdNum4 p bs i w h hL him
  clear h
  go_enter Try.func67, Try.ntmps67
  go_wp2_with (first | (go_at_call 71; ((refine C.mono ?_); rintro e w2 ⟨rfl, hr, o2⟩)))
  go_ret
  exact ⟨rfl, hr, o2⟩
theorem s16_wrap (x : Nat) (h : x < 65536) : wrap64 (IntKind.i16.wrap (x : Int)) = s16 x := by
  have e : IntKind.i16.wrap (x : Int) = s16 x := by
    unfold s16
    by_cases h1 : x < 32768
    · rw [if_pos h1]; exact IntWalk.i16_in _ (by omega)
    · rw [if_neg h1]
      have h2 : (x : Int) % 65536 = x := by omega
      simp only [IntKind.wrap, IntKind.bits, IntKind.signed, Bool.true_and]
      have h3 : (if decide ((x : Int) % 65536 ≥ 32768) = true then (x : Int) % 65536 - 65536 else (x : Int) % 65536) = (x : Int) - 65536 := by rw [h2, if_pos (by simp; omega)]
      exact h3
  rw [e]
  unfold wrap64 s16
  split <;> omega
theorem rdI16 (p : Nat) (bs : List Value) (i : Nat) (w : World) (h : Rd q w p bs i false) (hL : bs.length ≤ 4611686018427387904) (him : i + 2 ≤ bs.length) :
    Calls Try.prog 66 #[.pointer (some ⟨p, 0, none⟩)] w (ReadN q w p bs (i + 2) (s16 (rd2 bs i))) := by
  have C := rdNum2 p bs i w h hL him
  have hlt := rd2_lt h.bytes i
  clear h
  generalize rd2 bs i = x at *
  go_enter Try.func66, Try.ntmps66
  go_wp2_with (first | (go_at_call 71; ((refine C.mono ?_); rintro e w2 ⟨rfl, hr, o2⟩)))
  go_ret
  exact ⟨ret_int (s16_wrap x hlt), hr, o2⟩

end Go.Proofs.Ytbomgaacahaofaa

namespace Go.Proofs.Ytbomgaacahaofaa
open Go Go.RowKit

variable {q : Nat → Prop}
def RS (q : Nat → Prop) (w : World) (p : Nat) (bs : List Value) (k : Nat) : Prop := (k ≤ bs.length ∧ Rd q w p bs k false) ∨ (bs.length < k ∧ ∃ i, Rd q w p bs i true)
theorem RS.below {w w1 : World} {p k : Nat} {bs : List Value} (h : RS q w p bs k) (b : Below w.heap.size w w1) : RS q w1 p bs k :=
  h.imp (fun ⟨h1, h2⟩ => ⟨h1, h2.below b⟩) (fun ⟨h1, i, h2⟩ => ⟨h1, i, h2.below b⟩)
theorem RS.only {w w1 : World} {p k : Nat} {bs : List Value} {fp : List Nat} (h : RS q w p bs k) (o : Only w w1 fp) (hp : p ∉ fp) (hq : ∀ b ∈ fp, ¬ q b) : RS q w1 p bs k :=
  h.imp (fun ⟨h1, h2⟩ => ⟨h1, h2.only o hp hq⟩) (fun ⟨h1, i, h2⟩ => ⟨h1, i, h2.only o hp hq⟩)
theorem RS.bytes {w : World} {p k : Nat} {bs : List Value} (h : RS q w p bs k) : Bytes8 bs := h.elim (fun h => h.2.bytes) fun ⟨_, _, h⟩ => h.bytes

/-- The number of m bytes at k: 0 where they are not all there. -/
def rsn (bs : List Value) (m k : Nat) (x : Nat) : Nat := if k + m ≤ bs.length then x else 0
theorem rsn_lt {bs : List Value} {m k x B : Nat} (h : x < B) : rsn bs m k x < B := by unfold rsn; split <;> omega
/-- A number was read by a reader that may have come to its end. -/
def ReadS (q : Nat → Prop) (w : World) (p : Nat) (bs : List Value) (k : Nat) (x : Int) (e : Ending) (w' : World) : Prop := e = .returned (.int .i64 x) ∧ RS q w' p bs k ∧ Only w w' [p]

theorem rs_num (p : Nat) (bs : List Value) (k m x : Nat) (w : World) (h : RS q w p bs k) (hL : bs.length ≤ 4611686018427387904) (hm : 0 < m)
    (C : k + m ≤ bs.length → Rd q w p bs k false → Calls Try.prog 71 #[.pointer (some ⟨p, 0, none⟩), .int .i64 (m : Nat)] w fun e w' => e = .returned (.int .i64 (x : Nat)) ∧ Rd q w' p bs (k + m) false ∧ Only w w' [p]) :
    Calls Try.prog 71 #[.pointer (some ⟨p, 0, none⟩), .int .i64 (m : Nat)] w (ReadS q w p bs (k + m) (rsn bs m k x : Nat)) := by
  unfold rsn
  rcases h with ⟨h1, h2⟩ | ⟨h1, i, h2⟩
  · by_cases hk : k + m ≤ bs.length
    · rw [if_pos hk]
      exact (C hk h2).mono fun e w' ⟨a, b, c⟩ => ⟨a, .inl ⟨hk, b⟩, c⟩
    · rw [if_neg hk]
      exact (number_short p bs k (m : Nat) w h2 hL (.inr (by omega))).mono fun e w' ⟨a, b, c⟩ => ⟨a, .inr ⟨by omega, k, b⟩, c⟩
  · rw [if_neg (by omega)]
    exact (number_bad p bs i (m : Nat) w h2).mono fun e w' ⟨a, b⟩ => ⟨a, .inr ⟨by omega, i, b ▸ h2⟩, b ▸ Only.refl _ _⟩
theorem rsNum1 (p : Nat) (bs : List Value) (k : Nat) (w : World) (h : RS q w p bs k) (hL : bs.length ≤ 4611686018427387904) :
    Calls Try.prog 71 #[.pointer (some ⟨p, 0, none⟩), .int .i64 1] w (ReadS q w p bs (k + 1) (rsn bs 1 k (byteAt bs k) : Nat)) :=
  rs_num p bs k 1 _ w h hL (by decide) fun hk hR => number1_ok p bs k (byteAt bs k) w hR hL hk (byteAt_get hR.bytes (by omega)) (byteAt_lt hR.bytes _)
theorem rsNum2 (p : Nat) (bs : List Value) (k : Nat) (w : World) (h : RS q w p bs k) (hL : bs.length ≤ 4611686018427387904) :
    Calls Try.prog 71 #[.pointer (some ⟨p, 0, none⟩), .int .i64 2] w (ReadS q w p bs (k + 2) (rsn bs 2 k (rd2 bs k) : Nat)) :=
  rs_num p bs k 2 _ w h hL (by decide) fun hk hR => rdNum2 p bs k w hR hL hk
theorem rsNum4 (p : Nat) (bs : List Value) (k : Nat) (w : World) (h : RS q w p bs k) (hL : bs.length ≤ 4611686018427387904) :
    Calls Try.prog 71 #[.pointer (some ⟨p, 0, none⟩), .int .i64 4] w (ReadS q w p bs (k + 4) (rsn bs 4 k (rd4 bs k) : Nat)) :=
  rs_num p bs k 4 _ w h hL (by decide) fun hk hR => rdNum4 p bs k w hR hL hk

theorem rsU8 (p : Nat) (bs : List Value) (k : Nat) (w : World) (h : RS q w p bs k) (hL : bs.length ≤ 4611686018427387904) :
    Calls Try.prog 64 #[.pointer (some ⟨p, 0, none⟩)] w (ReadS q w p bs (k + 1) (rsn bs 1 k (byteAt bs k) : Nat)) := by
  have C := rsNum1 p bs k w h hL
  clear h
  go_enter Try.func64, Try.ntmps64
  go_wp2_with (first | (go_at_call 71; ((refine C.mono ?_); rintro e w2 ⟨rfl, hr, o2⟩)))
  go_ret
  exact ⟨rfl, hr, o2⟩
theorem rsU16 (p : Nat) (bs : List Value) (k : Nat) (w : World) (h : RS q w p bs k) (hL : bs.length ≤ 4611686018427387904) :
    Calls Try.prog 65 #[.pointer (some ⟨p, 0, none⟩)] w (ReadS q w p bs (k + 2) (rsn bs 2 k (rd2 bs k) : Nat)) := by
  have C := rsNum2 p bs k w h hL
  clear h
  go_enter Try.func65, Try.ntmps65
  go_wp2_with (first | (go_at_call 71; ((refine C.mono ?_); rintro e w2 ⟨rfl, hr, o2⟩)))
  go_ret
  exact ⟨rfl, hr, o2⟩
theorem rsU32 (p : Nat) (bs : List Value) (k : Nat) (w : World) (h : RS q w p bs k) (hL : bs.length ≤ 4611686018427387904) :
    Calls Try.prog 67 #[.pointer (some ⟨p, 0, none⟩)] w (ReadS q w p bs (k + 4) (rsn bs 4 k (rd4 bs k) : Nat)) := by
  have C := rsNum4 p bs k w h hL
  clear h
  go_enter Try.func67, Try.ntmps67
  go_wp2_with (first | (go_at_call 71; ((refine C.mono ?_); rintro e w2 ⟨rfl, hr, o2⟩)))
  go_ret
  exact ⟨rfl, hr, o2⟩
theorem rsI16 (p : Nat) (bs : List Value) (k : Nat) (w : World) (h : RS q w p bs k) (hL : bs.length ≤ 4611686018427387904) :
    Calls Try.prog 66 #[.pointer (some ⟨p, 0, none⟩)] w (ReadS q w p bs (k + 2) (s16 (rsn bs 2 k (rd2 bs k)))) := by
  have C := rsNum2 p bs k w h hL
  have hlt : rsn bs 2 k (rd2 bs k) < 65536 := rsn_lt (rd2_lt h.bytes k)
  clear h
  generalize rsn bs 2 k (rd2 bs k) = x at *
  go_enter Try.func66, Try.ntmps66
  go_wp2_with (first | (go_at_call 71; ((refine C.mono ?_); rintro e w2 ⟨rfl, hr, o2⟩)))
  go_ret
  exact ⟨ret_int (s16_wrap x hlt), hr, o2⟩

end Go.Proofs.Ytbomgaacahaofaa

namespace Go.Proofs.Ytbomgaacahaofaa
open Go Go.RowKit

variable {q : Nat → Prop}
/-- How many bytes a number of a kind has. -/
def wid : Nat → Nat
  | 0 => 1
  | 3 => 4
  | _ => 2
/-- The number of a kind that is read at k. -/
def rdk (bs : List Value) (kd k : Nat) : Int :=
  match kd with
  | 0 => (rsn bs 1 k (byteAt bs k) : Nat)
  | 1 => (rsn bs 2 k (rd2 bs k) : Nat)
  | 2 => s16 (rsn bs 2 k (rd2 bs k))
  | _ => (rsn bs 4 k (rd4 bs k) : Nat)
/-- A place had a number brought. -/
def Came (q : Nat → Prop) (w : World) (p : Nat) (bs : List Value) (k b : Nat) (T : TypeId) (cs : Array Value) (o : Nat) (x : Int) (e : Ending) (w' : World) : Prop :=
  e = .returned (.tuple #[]) ∧ RS q w' p bs k ∧ Blk w' b T (cs.setIfInBounds o (.int .i64 x)) ∧ Only w w' [p, b]

set_option maxRecDepth 100000 in
theorem from_U8 (r p b o k : Nat) (bs : List Value) (T : TypeId) (cs : Array Value) (w : World) (hr : Blk w r 99 #[.pointer (some ⟨p, 0, none⟩)]) (h : RS q w p bs k) (hL : bs.length ≤ 4611686018427387904) (hb : Blk w b T cs) (ho : o < cs.size)
    (n2 : b ≠ p) (n4 : ¬ q b) :
    Calls Try.prog 63 #[.int .i64 0, .pointer (some ⟨b, o, none⟩), .pointer (some ⟨r, 0, none⟩)] w (Came q w p bs (k + 1) b T cs o (rdk bs 0 k)) := by
  have C := rsU8 p bs k w h hL
  have g0 : w.cell? ⟨r, 0, none⟩ = some (.pointer (some ⟨p, 0, none⟩)) := hr.cell 0
  clear h
  go_enter Try.func63, Try.ntmps63
  go_wp2_with (first | (go_at_call 64; ((refine C.mono ?_); rintro e w1 ⟨rfl, hs, o1⟩; have hb1 : Blk w1 b T cs := hb.only o1 (by simpa using n2); have g1 : w1.cell? ⟨b, o, none⟩ = some (cs[o]'ho) := (hb1.cell o).trans (Array.getElem?_eq_getElem ho); have z1 : w1.frozen? ⟨b, o, none⟩ = false := hb1.frozen o)))
  go_end0
  have o2 : Only w (w1.setCell ⟨b, o, none⟩ (.int .i64 (rdk bs 0 k))) [p, b] := (o1.more (by simp)).set (.inl (by simp)) _
  exact ⟨rfl, hs.only ((Only.refl w1 [b]).set (.inl (by simp)) _) (by simpa using n2.symm) (by simpa using n4), hb1.set o _, o2⟩
set_option maxRecDepth 100000 in
theorem from_U16 (r p b o k : Nat) (bs : List Value) (T : TypeId) (cs : Array Value) (w : World) (hr : Blk w r 99 #[.pointer (some ⟨p, 0, none⟩)]) (h : RS q w p bs k) (hL : bs.length ≤ 4611686018427387904) (hb : Blk w b T cs) (ho : o < cs.size)
    (n2 : b ≠ p) (n4 : ¬ q b) :
    Calls Try.prog 63 #[.int .i64 1, .pointer (some ⟨b, o, none⟩), .pointer (some ⟨r, 0, none⟩)] w (Came q w p bs (k + 2) b T cs o (rdk bs 1 k)) := by
  have C := rsU16 p bs k w h hL
  have g0 : w.cell? ⟨r, 0, none⟩ = some (.pointer (some ⟨p, 0, none⟩)) := hr.cell 0
  clear h
  go_enter Try.func63, Try.ntmps63
  go_wp2_with (first | (go_at_call 65; ((refine C.mono ?_); rintro e w1 ⟨rfl, hs, o1⟩; have hb1 : Blk w1 b T cs := hb.only o1 (by simpa using n2); have g1 : w1.cell? ⟨b, o, none⟩ = some (cs[o]'ho) := (hb1.cell o).trans (Array.getElem?_eq_getElem ho); have z1 : w1.frozen? ⟨b, o, none⟩ = false := hb1.frozen o)))
  go_end0
  have o2 : Only w (w1.setCell ⟨b, o, none⟩ (.int .i64 (rdk bs 1 k))) [p, b] := (o1.more (by simp)).set (.inl (by simp)) _
  exact ⟨rfl, hs.only ((Only.refl w1 [b]).set (.inl (by simp)) _) (by simpa using n2.symm) (by simpa using n4), hb1.set o _, o2⟩
set_option maxRecDepth 100000 in
theorem from_I16 (r p b o k : Nat) (bs : List Value) (T : TypeId) (cs : Array Value) (w : World) (hr : Blk w r 99 #[.pointer (some ⟨p, 0, none⟩)]) (h : RS q w p bs k) (hL : bs.length ≤ 4611686018427387904) (hb : Blk w b T cs) (ho : o < cs.size)
    (n2 : b ≠ p) (n4 : ¬ q b) :
    Calls Try.prog 63 #[.int .i64 2, .pointer (some ⟨b, o, none⟩), .pointer (some ⟨r, 0, none⟩)] w (Came q w p bs (k + 2) b T cs o (rdk bs 2 k)) := by
  have C := rsI16 p bs k w h hL
  have g0 : w.cell? ⟨r, 0, none⟩ = some (.pointer (some ⟨p, 0, none⟩)) := hr.cell 0
  clear h
  go_enter Try.func63, Try.ntmps63
  go_wp2_with (first | (go_at_call 66; ((refine C.mono ?_); rintro e w1 ⟨rfl, hs, o1⟩; have hb1 : Blk w1 b T cs := hb.only o1 (by simpa using n2); have g1 : w1.cell? ⟨b, o, none⟩ = some (cs[o]'ho) := (hb1.cell o).trans (Array.getElem?_eq_getElem ho); have z1 : w1.frozen? ⟨b, o, none⟩ = false := hb1.frozen o)))
  go_end0
  have o2 : Only w (w1.setCell ⟨b, o, none⟩ (.int .i64 (rdk bs 2 k))) [p, b] := (o1.more (by simp)).set (.inl (by simp)) _
  exact ⟨rfl, hs.only ((Only.refl w1 [b]).set (.inl (by simp)) _) (by simpa using n2.symm) (by simpa using n4), hb1.set o _, o2⟩
set_option maxRecDepth 100000 in
theorem from_U32 (r p b o k : Nat) (bs : List Value) (T : TypeId) (cs : Array Value) (w : World) (hr : Blk w r 99 #[.pointer (some ⟨p, 0, none⟩)]) (h : RS q w p bs k) (hL : bs.length ≤ 4611686018427387904) (hb : Blk w b T cs) (ho : o < cs.size)
    (n2 : b ≠ p) (n4 : ¬ q b) :
    Calls Try.prog 63 #[.int .i64 3, .pointer (some ⟨b, o, none⟩), .pointer (some ⟨r, 0, none⟩)] w (Came q w p bs (k + 4) b T cs o (rdk bs 3 k)) := by
  have C := rsU32 p bs k w h hL
  have g0 : w.cell? ⟨r, 0, none⟩ = some (.pointer (some ⟨p, 0, none⟩)) := hr.cell 0
  clear h
  go_enter Try.func63, Try.ntmps63
  go_wp2_with (first | (go_at_call 67; ((refine C.mono ?_); rintro e w1 ⟨rfl, hs, o1⟩; have hb1 : Blk w1 b T cs := hb.only o1 (by simpa using n2); have g1 : w1.cell? ⟨b, o, none⟩ = some (cs[o]'ho) := (hb1.cell o).trans (Array.getElem?_eq_getElem ho); have z1 : w1.frozen? ⟨b, o, none⟩ = false := hb1.frozen o)))
  go_end0
  have o2 : Only w (w1.setCell ⟨b, o, none⟩ (.int .i64 (rdk bs 3 k))) [p, b] := (o1.more (by simp)).set (.inl (by simp)) _
  exact ⟨rfl, hs.only ((Only.refl w1 [b]).set (.inl (by simp)) _) (by simpa using n2.symm) (by simpa using n4), hb1.set o _, o2⟩

theorem from_any (kd : Nat) (hk : kd < 4) (r p b o k : Nat) (bs : List Value) (T : TypeId) (cs : Array Value) (w : World) (hr : Blk w r 99 #[.pointer (some ⟨p, 0, none⟩)]) (h : RS q w p bs k) (hL : bs.length ≤ 4611686018427387904) (hb : Blk w b T cs) (ho : o < cs.size)
    (n2 : b ≠ p) (n4 : ¬ q b) :
    Calls Try.prog 63 #[.int .i64 (kd : Nat), .pointer (some ⟨b, o, none⟩), .pointer (some ⟨r, 0, none⟩)] w (Came q w p bs (k + wid kd) b T cs o (rdk bs kd k)) := by
  rcases kd with _ | _ | _ | _ | kd
  · exact from_U8 r p b o k bs T cs w hr h hL hb ho n2 n4
  · exact from_U16 r p b o k bs T cs w hr h hL hb ho n2 n4
  · exact from_I16 r p b o k bs T cs w hr h hL hb ho n2 n4
  · exact from_U32 r p b o k bs T cs w hr h hL hb ho n2 n4
  · omega

end Go.Proofs.Ytbomgaacahaofaa

namespace Go.Proofs.Ytbomgaacahaofaa
open Go Go.RowKit

/-- The bytes of a number of a kind. -/
def bek (kd : Nat) (x : Int) : List Value :=
  match kd with
  | 0 => be1 x
  | 3 => be4 x
  | _ => be2 x
theorem bek_length (kd : Nat) (hk : kd < 4) (x : Int) : (bek kd x).length = wid kd := by
  rcases kd with _ | _ | _ | _ | kd
  · rfl
  · rfl
  · rfl
  · rfl
  · omega
/-- A number was put. -/
def Went (w0 w : World) (p R : Nat) (L E : List Value) (e : Ending) (w' : World) : Prop := e = .returned (.tuple #[]) ∧ WS w0 w' p R (L ++ E) ∧ Safe w w' ∧ w.heap.size ≤ w'.heap.size

set_option maxRecDepth 100000 in
theorem into_U8 (w0 : World) (r p b o R : Nat) (L : List Value) (x : Int) (T : TypeId) (cs : Array Value) (w : World) (hr : Blk w r 81 #[.pointer (some ⟨p, 0, none⟩)]) (h : WS w0 w p R L) (hR : R ≤ 1099511627776) (hL : L.length + 1 ≤ R) (hb : Blk w b T cs) (ho : cs[o]? = some (.int .i64 x))
    (n1 : T ≠ 5) (n2 : T ≠ 110) (n3 : T ≠ 108) :
    Calls Try.prog 53 #[.int .i64 0, .pointer (some ⟨b, o, none⟩), .pointer (some ⟨r, 0, none⟩)] w (Went w0 w p R L (bek 0 x)) := by
  have hI : ∀ w1, Safe w w1 → w1.cell? ⟨r, 0, none⟩ = some (.pointer (some ⟨p, 0, none⟩)) ∧ w1.cell? ⟨b, o, none⟩ = some (.int .i64 x) :=
    fun w1 hs => ⟨(hs r _ _ (by decide) (by decide) (by decide) hr).cell 0, ((hs b T cs n1 n2 n3 hb).cell o).trans ho⟩
  have hS : Safe w w.drew := fun q T cs _ _ _ hq => hq.below ((Below.refl _ _).drew)
  go_enter Try.func53, Try.ntmps53
  go_wp2
  refine wp_region_chain (fun w' => w'.cell? ⟨r, 0, none⟩ = some (.pointer (some ⟨p, 0, none⟩)) ∧ w'.cell? ⟨b, o, none⟩ = some (.int .i64 x)) [(0, false), (1, false), (2, false), (3, false), (4, true)] (by kernel_rfl) (by kernel_rfl) (hI _ hS) ?_
  repeat (first
    | (refine ChainL.skip (o := ?_) ?_ ?_ ?_; rotate_left; (focus (first | (simp only [List.getElem?_toArray, List.getElem?_cons_succ, List.getElem?_cons_zero]; with_reducible rfl) | (simp only [List.getElem?_toArray, List.getElem?_cons_zero]; with_reducible rfl))); (focus rfl); simp only [Act.put, List.setIfInBounds_toArray, List.set_cons_zero, List.set_cons_succ])
    | (refine ChainL.val (o := ?_) (v := ?_) ?_ ?_ ?_ ?_ ?_; rotate_left 2; (focus (first | (simp only [List.getElem?_toArray, List.getElem?_cons_succ, List.getElem?_cons_zero]; with_reducible rfl) | (simp only [List.getElem?_toArray, List.getElem?_cons_zero]; with_reducible rfl))); (focus (intro _ _ h; cases h)); (focus rfl); (focus (intro w' hI; obtain ⟨g0, g1⟩ := hI; go_simp <;> with_reducible rfl)); simp only [Act.put, List.setIfInBounds_toArray, List.set_cons_zero, List.set_cons_succ]))
  refine ChainL.call (o := ?_) (f := ?_) (args := ?_) ?_ ?_ ?_ ?_
  rotate_left 3
  (focus (simp only [List.getElem?_toArray, List.getElem?_cons_succ, List.getElem?_cons_zero]; with_reducible rfl))
  (focus rfl)
  (focus (go_simp; (constructor <;> with_reducible rfl)))
  refine (wsU8 w0 _ p R L x (h.below ((Below.refl _ _).drew)) hL hR).mono ?_
  rintro e w2 ⟨rfl, hw, hs, hz⟩
  have hs2 : Safe w w2 := fun q T cs m1 m2 m3 hq => hs q T cs m1 m2 m3 (hS q T cs m1 m2 m3 hq)
  refine ⟨_, rfl, hI _ hs2, ?_⟩
  simp only [Act.put, List.setIfInBounds_toArray, List.set_cons_zero, List.set_cons_succ]
  refine ChainL.nil ?_
  go_wp2
  go_end0
  exact ⟨rfl, hw, hs2, hz⟩
set_option maxRecDepth 100000 in
theorem into_U16 (w0 : World) (r p b o R : Nat) (L : List Value) (x : Int) (T : TypeId) (cs : Array Value) (w : World) (hr : Blk w r 81 #[.pointer (some ⟨p, 0, none⟩)]) (h : WS w0 w p R L) (hR : R ≤ 1099511627776) (hL : L.length + 2 ≤ R) (hb : Blk w b T cs) (ho : cs[o]? = some (.int .i64 x))
    (n1 : T ≠ 5) (n2 : T ≠ 110) (n3 : T ≠ 108) :
    Calls Try.prog 53 #[.int .i64 1, .pointer (some ⟨b, o, none⟩), .pointer (some ⟨r, 0, none⟩)] w (Went w0 w p R L (bek 1 x)) := by
  have hI : ∀ w1, Safe w w1 → w1.cell? ⟨r, 0, none⟩ = some (.pointer (some ⟨p, 0, none⟩)) ∧ w1.cell? ⟨b, o, none⟩ = some (.int .i64 x) :=
    fun w1 hs => ⟨(hs r _ _ (by decide) (by decide) (by decide) hr).cell 0, ((hs b T cs n1 n2 n3 hb).cell o).trans ho⟩
  have hS : Safe w w.drew := fun q T cs _ _ _ hq => hq.below ((Below.refl _ _).drew)
  go_enter Try.func53, Try.ntmps53
  go_wp2
  refine wp_region_chain (fun w' => w'.cell? ⟨r, 0, none⟩ = some (.pointer (some ⟨p, 0, none⟩)) ∧ w'.cell? ⟨b, o, none⟩ = some (.int .i64 x)) [(0, false), (1, false), (2, false), (3, false), (4, true)] (by kernel_rfl) (by kernel_rfl) (hI _ hS) ?_
  repeat (first
    | (refine ChainL.skip (o := ?_) ?_ ?_ ?_; rotate_left; (focus (first | (simp only [List.getElem?_toArray, List.getElem?_cons_succ, List.getElem?_cons_zero]; with_reducible rfl) | (simp only [List.getElem?_toArray, List.getElem?_cons_zero]; with_reducible rfl))); (focus rfl); simp only [Act.put, List.setIfInBounds_toArray, List.set_cons_zero, List.set_cons_succ])
    | (refine ChainL.val (o := ?_) (v := ?_) ?_ ?_ ?_ ?_ ?_; rotate_left 2; (focus (first | (simp only [List.getElem?_toArray, List.getElem?_cons_succ, List.getElem?_cons_zero]; with_reducible rfl) | (simp only [List.getElem?_toArray, List.getElem?_cons_zero]; with_reducible rfl))); (focus (intro _ _ h; cases h)); (focus rfl); (focus (intro w' hI; obtain ⟨g0, g1⟩ := hI; go_simp <;> with_reducible rfl)); simp only [Act.put, List.setIfInBounds_toArray, List.set_cons_zero, List.set_cons_succ]))
  refine ChainL.call (o := ?_) (f := ?_) (args := ?_) ?_ ?_ ?_ ?_
  rotate_left 3
  (focus (simp only [List.getElem?_toArray, List.getElem?_cons_succ, List.getElem?_cons_zero]; with_reducible rfl))
  (focus rfl)
  (focus (go_simp; (constructor <;> with_reducible rfl)))
  refine (wsU16 w0 _ p R L x (h.below ((Below.refl _ _).drew)) hL hR).mono ?_
  rintro e w2 ⟨rfl, hw, hs, hz⟩
  have hs2 : Safe w w2 := fun q T cs m1 m2 m3 hq => hs q T cs m1 m2 m3 (hS q T cs m1 m2 m3 hq)
  refine ⟨_, rfl, hI _ hs2, ?_⟩
  simp only [Act.put, List.setIfInBounds_toArray, List.set_cons_zero, List.set_cons_succ]
  refine ChainL.nil ?_
  go_wp2
  go_end0
  exact ⟨rfl, hw, hs2, hz⟩
set_option maxRecDepth 100000 in
theorem into_I16 (w0 : World) (r p b o R : Nat) (L : List Value) (x : Int) (T : TypeId) (cs : Array Value) (w : World) (hr : Blk w r 81 #[.pointer (some ⟨p, 0, none⟩)]) (h : WS w0 w p R L) (hR : R ≤ 1099511627776) (hL : L.length + 2 ≤ R) (hb : Blk w b T cs) (ho : cs[o]? = some (.int .i64 x))
    (n1 : T ≠ 5) (n2 : T ≠ 110) (n3 : T ≠ 108) :
    Calls Try.prog 53 #[.int .i64 2, .pointer (some ⟨b, o, none⟩), .pointer (some ⟨r, 0, none⟩)] w (Went w0 w p R L (bek 2 x)) := by
  have hI : ∀ w1, Safe w w1 → w1.cell? ⟨r, 0, none⟩ = some (.pointer (some ⟨p, 0, none⟩)) ∧ w1.cell? ⟨b, o, none⟩ = some (.int .i64 x) :=
    fun w1 hs => ⟨(hs r _ _ (by decide) (by decide) (by decide) hr).cell 0, ((hs b T cs n1 n2 n3 hb).cell o).trans ho⟩
  have hS : Safe w w.drew := fun q T cs _ _ _ hq => hq.below ((Below.refl _ _).drew)
  go_enter Try.func53, Try.ntmps53
  go_wp2
  refine wp_region_chain (fun w' => w'.cell? ⟨r, 0, none⟩ = some (.pointer (some ⟨p, 0, none⟩)) ∧ w'.cell? ⟨b, o, none⟩ = some (.int .i64 x)) [(0, false), (1, false), (2, false), (3, false), (4, true)] (by kernel_rfl) (by kernel_rfl) (hI _ hS) ?_
  repeat (first
    | (refine ChainL.skip (o := ?_) ?_ ?_ ?_; rotate_left; (focus (first | (simp only [List.getElem?_toArray, List.getElem?_cons_succ, List.getElem?_cons_zero]; with_reducible rfl) | (simp only [List.getElem?_toArray, List.getElem?_cons_zero]; with_reducible rfl))); (focus rfl); simp only [Act.put, List.setIfInBounds_toArray, List.set_cons_zero, List.set_cons_succ])
    | (refine ChainL.val (o := ?_) (v := ?_) ?_ ?_ ?_ ?_ ?_; rotate_left 2; (focus (first | (simp only [List.getElem?_toArray, List.getElem?_cons_succ, List.getElem?_cons_zero]; with_reducible rfl) | (simp only [List.getElem?_toArray, List.getElem?_cons_zero]; with_reducible rfl))); (focus (intro _ _ h; cases h)); (focus rfl); (focus (intro w' hI; obtain ⟨g0, g1⟩ := hI; go_simp <;> with_reducible rfl)); simp only [Act.put, List.setIfInBounds_toArray, List.set_cons_zero, List.set_cons_succ]))
  refine ChainL.call (o := ?_) (f := ?_) (args := ?_) ?_ ?_ ?_ ?_
  rotate_left 3
  (focus (simp only [List.getElem?_toArray, List.getElem?_cons_succ, List.getElem?_cons_zero]; with_reducible rfl))
  (focus rfl)
  (focus (go_simp; (constructor <;> with_reducible rfl)))
  refine (wsI16 w0 _ p R L x (h.below ((Below.refl _ _).drew)) hL hR).mono ?_
  rintro e w2 ⟨rfl, hw, hs, hz⟩
  have hs2 : Safe w w2 := fun q T cs m1 m2 m3 hq => hs q T cs m1 m2 m3 (hS q T cs m1 m2 m3 hq)
  refine ⟨_, rfl, hI _ hs2, ?_⟩
  simp only [Act.put, List.setIfInBounds_toArray, List.set_cons_zero, List.set_cons_succ]
  refine ChainL.nil ?_
  go_wp2
  go_end0
  exact ⟨rfl, hw, hs2, hz⟩
set_option maxRecDepth 100000 in
theorem into_U32 (w0 : World) (r p b o R : Nat) (L : List Value) (x : Int) (T : TypeId) (cs : Array Value) (w : World) (hr : Blk w r 81 #[.pointer (some ⟨p, 0, none⟩)]) (h : WS w0 w p R L) (hR : R ≤ 1099511627776) (hL : L.length + 4 ≤ R) (hb : Blk w b T cs) (ho : cs[o]? = some (.int .i64 x))
    (n1 : T ≠ 5) (n2 : T ≠ 110) (n3 : T ≠ 108) :
    Calls Try.prog 53 #[.int .i64 3, .pointer (some ⟨b, o, none⟩), .pointer (some ⟨r, 0, none⟩)] w (Went w0 w p R L (bek 3 x)) := by
  have hI : ∀ w1, Safe w w1 → w1.cell? ⟨r, 0, none⟩ = some (.pointer (some ⟨p, 0, none⟩)) ∧ w1.cell? ⟨b, o, none⟩ = some (.int .i64 x) :=
    fun w1 hs => ⟨(hs r _ _ (by decide) (by decide) (by decide) hr).cell 0, ((hs b T cs n1 n2 n3 hb).cell o).trans ho⟩
  have hS : Safe w w.drew := fun q T cs _ _ _ hq => hq.below ((Below.refl _ _).drew)
  go_enter Try.func53, Try.ntmps53
  go_wp2
  refine wp_region_chain (fun w' => w'.cell? ⟨r, 0, none⟩ = some (.pointer (some ⟨p, 0, none⟩)) ∧ w'.cell? ⟨b, o, none⟩ = some (.int .i64 x)) [(0, false), (1, false), (2, false), (3, false), (4, true)] (by kernel_rfl) (by kernel_rfl) (hI _ hS) ?_
  repeat (first
    | (refine ChainL.skip (o := ?_) ?_ ?_ ?_; rotate_left; (focus (first | (simp only [List.getElem?_toArray, List.getElem?_cons_succ, List.getElem?_cons_zero]; with_reducible rfl) | (simp only [List.getElem?_toArray, List.getElem?_cons_zero]; with_reducible rfl))); (focus rfl); simp only [Act.put, List.setIfInBounds_toArray, List.set_cons_zero, List.set_cons_succ])
    | (refine ChainL.val (o := ?_) (v := ?_) ?_ ?_ ?_ ?_ ?_; rotate_left 2; (focus (first | (simp only [List.getElem?_toArray, List.getElem?_cons_succ, List.getElem?_cons_zero]; with_reducible rfl) | (simp only [List.getElem?_toArray, List.getElem?_cons_zero]; with_reducible rfl))); (focus (intro _ _ h; cases h)); (focus rfl); (focus (intro w' hI; obtain ⟨g0, g1⟩ := hI; go_simp <;> with_reducible rfl)); simp only [Act.put, List.setIfInBounds_toArray, List.set_cons_zero, List.set_cons_succ]))
  refine ChainL.call (o := ?_) (f := ?_) (args := ?_) ?_ ?_ ?_ ?_
  rotate_left 3
  (focus (simp only [List.getElem?_toArray, List.getElem?_cons_succ, List.getElem?_cons_zero]; with_reducible rfl))
  (focus rfl)
  (focus (go_simp; (constructor <;> with_reducible rfl)))
  refine (wsU32 w0 _ p R L x (h.below ((Below.refl _ _).drew)) hL hR).mono ?_
  rintro e w2 ⟨rfl, hw, hs, hz⟩
  have hs2 : Safe w w2 := fun q T cs m1 m2 m3 hq => hs q T cs m1 m2 m3 (hS q T cs m1 m2 m3 hq)
  refine ⟨_, rfl, hI _ hs2, ?_⟩
  simp only [Act.put, List.setIfInBounds_toArray, List.set_cons_zero, List.set_cons_succ]
  refine ChainL.nil ?_
  go_wp2
  go_end0
  exact ⟨rfl, hw, hs2, hz⟩

theorem into_any (kd : Nat) (hk : kd < 4) (w0 : World) (r p b o R : Nat) (L : List Value) (x : Int) (T : TypeId) (cs : Array Value) (w : World) (hr : Blk w r 81 #[.pointer (some ⟨p, 0, none⟩)]) (h : WS w0 w p R L) (hR : R ≤ 1099511627776) (hL : L.length + wid kd ≤ R) (hb : Blk w b T cs) (ho : cs[o]? = some (.int .i64 x))
    (n1 : T ≠ 5) (n2 : T ≠ 110) (n3 : T ≠ 108) :
    Calls Try.prog 53 #[.int .i64 (kd : Nat), .pointer (some ⟨b, o, none⟩), .pointer (some ⟨r, 0, none⟩)] w (Went w0 w p R L (bek kd x)) := by
  rcases kd with _ | _ | _ | _ | kd
  · exact into_U8 w0 r p b o R L x T cs w hr h hR hL hb ho n1 n2 n3
  · exact into_U16 w0 r p b o R L x T cs w hr h hR hL hb ho n1 n2 n3
  · exact into_I16 w0 r p b o R L x T cs w hr h hR hL hb ho n1 n2 n3
  · exact into_U32 w0 r p b o R L x T cs w hr h hR hL hb ho n1 n2 n3
  · omega

end Go.Proofs.Ytbomgaacahaofaa
