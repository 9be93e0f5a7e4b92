/- A reader's numbers. -/
import Derived.Test.YtdbhfigdojkceaaRd2
import Derived.LoopTactic
namespace Go.Proofs.Ytdbhfigdojkceaa
open Go Go.RowKit
variable {q : Nat → Prop}

theorem or_nat (a b : Nat) (ha : a < 4611686018427387904) (hb : b < 4611686018427387904) : bits .or .i64 (a : Int) (b : Int) = ((a ||| b : Nat) : Int) := by
  have hx : a ||| b < 2 ^ 62 := Nat.or_lt_two_pow (by omega) (by omega)
  have h1 : (BitVec.ofInt 64 (a : Int)).toNat = a := by
    rw [BitVec.ofInt_natCast, BitVec.toNat_ofNat]; exact Nat.mod_eq_of_lt (by omega)
  have h2 : (BitVec.ofInt 64 (b : Int)).toNat = b := by
    rw [BitVec.ofInt_natCast, BitVec.toNat_ofNat]; exact Nat.mod_eq_of_lt (by omega)
  show IntKind.i64.wrap ((BitVec.ofInt 64 (a : Int) ||| BitVec.ofInt 64 (b : Int)).toNat : Int) = _
  rw [BitVec.toNat_or, h1, h2]
  exact IntWalk.i64_in _ (by omega)
theorem or_first (x : Nat) (hx : x < 256) : bits .or .i64 0 (x : Int) = (x : Int) := by
  have := or_nat 0 x (by omega) (by omega)
  rwa [Nat.zero_or] at this
theorem or_next (a x : Nat) (ha : a < 1099511627776) (hx : x < 256) : bits .or .i64 (wrap64 ((a : Int) * 256)) (x : Int) = ((a * 256 + x : Nat) : Int) := by
  have e1 : wrap64 ((a : Int) * 256) = ((a * 256 : Nat) : Int) := by unfold wrap64; omega
  rw [e1, or_nat (a * 256) x (by omega) (by omega), show a * 256 = 2 ^ 8 * a by omega, ← Nat.two_pow_add_eq_or_of_lt (by omega)]

set_option maxRecDepth 100000 in
theorem number1_ok (p : Nat) (bs : List Value) (i x0 : Nat) (w : World) (h : Rd q w p bs i false) (hL : bs.length ≤ 4611686018427387904) (him : i + 1 ≤ bs.length) (h0 : bs[i]? = some (.int .u8 (x0 : Nat))) (l0 : x0 < 256) :
    Calls Try.prog 51 #[.pointer (some ⟨p, 0, none⟩), .int .i64 1] w fun e w' => e = .returned (.int .i64 (x0 : Nat)) ∧ Rd q w' p bs (i + 1) false ∧ Only w w' [p] := by
  have C := next_ok p bs i 1 w h hL him
  have e : (bs.drop i).take 1 = [.int .u8 (x0 : Nat)] := by
    apply List.ext_getElem?
    intro j
    rw [List.getElem?_take, List.getElem?_drop]
    match j with
    | 0 => simpa using h0
    | j + 1 => simp <;> omega
  clear h h0
  have E := Lib.hid e
  clear e
  go_enter Try.func51, Try.ntmps51
  go_wp2_with (first | (go_at_call 60; ((refine C.mono ?_); rintro e w2 ⟨A2, rfl, ll, hr, o2⟩; rw [E.out] at ll; obtain ⟨b, o, rfl, hb, hc⟩ := ll.plain (by simp); have c0 := hc 0 _ rfl; rw [Nat.add_zero] at c0; clear hc)))
  refine wp_loop_rounds 2 ?_
  rw [rounds_succ]
  go_wp2
  rw [rounds_succ]
  go_wp2
  go_ret
  exact ⟨ret_int (by rw [or_first x0 l0]), hr, o2⟩

set_option maxRecDepth 100000 in
theorem number2_ok (p : Nat) (bs : List Value) (i x0 x1 : Nat) (w : World) (h : Rd q w p bs i false) (hL : bs.length ≤ 4611686018427387904) (him : i + 2 ≤ bs.length) (h0 : bs[i]? = some (.int .u8 (x0 : Nat))) (h1 : bs[i + 1]? = some (.int .u8 (x1 : Nat))) (l0 : x0 < 256) (l1 : x1 < 256) :
    Calls Try.prog 51 #[.pointer (some ⟨p, 0, none⟩), .int .i64 2] w fun e w' => e = .returned (.int .i64 ((x0 * 256 + x1) : Nat)) ∧ Rd q w' p bs (i + 2) false ∧ Only w w' [p] := by
  have C := next_ok p bs i 2 w h hL him
  have e : (bs.drop i).take 2 = [.int .u8 (x0 : Nat), .int .u8 (x1 : Nat)] := by
    apply List.ext_getElem?
    intro j
    rw [List.getElem?_take, List.getElem?_drop]
    match j with
    | 0 => simpa using h0
    | 1 => simpa using h1
    | j + 2 => simp <;> omega
  clear h h0 h1
  have E := Lib.hid e
  clear e
  go_enter Try.func51, Try.ntmps51
  go_wp2_with (first | (go_at_call 60; ((refine C.mono ?_); rintro e w2 ⟨A2, rfl, ll, hr, o2⟩; rw [E.out] at ll; obtain ⟨b, o, rfl, hb, hc⟩ := ll.plain (by simp); have c0 := hc 0 _ rfl; have c1 := hc 1 _ rfl; rw [Nat.add_zero] at c0; clear hc)))
  refine wp_loop_rounds 3 ?_
  rw [rounds_succ]
  go_wp2
  rw [rounds_succ]
  go_wp2
  rw [rounds_succ]
  go_wp2
  go_ret
  exact ⟨ret_int (by rw [or_first x0 l0, or_next x0 x1 (by omega) l1]), hr, o2⟩

set_option maxRecDepth 100000 in
theorem number4_ok (p : Nat) (bs : List Value) (i x0 x1 x2 x3 : Nat) (w : World) (h : Rd q w p bs i false) (hL : bs.length ≤ 4611686018427387904) (him : i + 4 ≤ bs.length) (h0 : bs[i]? = some (.int .u8 (x0 : Nat))) (h1 : bs[i + 1]? = some (.int .u8 (x1 : Nat))) (h2 : bs[i + 2]? = some (.int .u8 (x2 : Nat))) (h3 : bs[i + 3]? = some (.int .u8 (x3 : Nat))) (l0 : x0 < 256) (l1 : x1 < 256) (l2 : x2 < 256) (l3 : x3 < 256) :
    Calls Try.prog 51 #[.pointer (some ⟨p, 0, none⟩), .int .i64 4] w fun e w' => e = .returned (.int .i64 ((((x0 * 256 + x1) * 256 + x2) * 256 + x3) : Nat)) ∧ Rd q w' p bs (i + 4) false ∧ Only w w' [p] := by
  have C := next_ok p bs i 4 w h hL him
  have e : (bs.drop i).take 4 = [.int .u8 (x0 : Nat), .int .u8 (x1 : Nat), .int .u8 (x2 : Nat), .int .u8 (x3 : Nat)] := by
    apply List.ext_getElem?
    intro j
    rw [List.getElem?_take, List.getElem?_drop]
    match j with
    | 0 => simpa using h0
    | 1 => simpa using h1
    | 2 => simpa using h2
    | 3 => simpa using h3
    | j + 4 => simp <;> omega
  clear h h0 h1 h2 h3
  have E := Lib.hid e
  clear e
  go_enter Try.func51, Try.ntmps51
  go_wp2_with (first | (go_at_call 60; ((refine C.mono ?_); rintro e w2 ⟨A2, rfl, ll, hr, o2⟩; rw [E.out] at ll; obtain ⟨b, o, rfl, hb, hc⟩ := ll.plain (by simp); have c0 := hc 0 _ rfl; have c1 := hc 1 _ rfl; have c2 := hc 2 _ rfl; have c3 := hc 3 _ rfl; rw [Nat.add_zero] at c0; clear hc)))
  refine wp_loop_rounds 5 ?_
  rw [rounds_succ]
  go_wp2
  rw [rounds_succ]
  go_wp2
  rw [rounds_succ]
  go_wp2
  rw [rounds_succ]
  go_wp2
  rw [rounds_succ]
  go_wp2
  go_ret
  exact ⟨ret_int (by rw [or_first x0 l0, or_next x0 x1 (by omega) l1, or_next (x0 * 256 + x1) x2 (by omega) l2, or_next ((x0 * 256 + x1) * 256 + x2) x3 (by omega) l3]), hr, o2⟩


theorem number_bad (p : Nat) (bs : List Value) (i : Nat) (m : Int) (w : World) (h : Rd q w p bs i true) :
    Calls Try.prog 51 #[.pointer (some ⟨p, 0, none⟩), .int .i64 m] w fun e w' => e = .returned (.int .i64 0) ∧ w = w' := by
  have C := next_bad p bs i m w h
  go_enter Try.func51, Try.ntmps51
  go_wp2_with (first | (go_at_call 60; ((refine C.mono ?_); rintro e w2 ⟨rfl, rfl⟩)))
  refine wp_loop_rounds 1 ?_
  rw [rounds_succ]
  go_wp2
  go_ret
  exact ⟨rfl, rfl⟩
theorem number_short (p : Nat) (bs : List Value) (i : Nat) (m : Int) (w : World) (h : Rd q w p bs i false) (hL : bs.length ≤ 4611686018427387904) (him : m < 0 ∨ ((bs.length - i : Nat) : Int) < m) :
    Calls Try.prog 51 #[.pointer (some ⟨p, 0, none⟩), .int .i64 m] w fun e w' => e = .returned (.int .i64 0) ∧ Rd q w' p bs i true ∧ Only w w' [p] := by
  have C := next_short p bs i m w h hL him
  clear h him
  go_enter Try.func51, Try.ntmps51
  go_wp2_with (first | (go_at_call 60; ((refine C.mono ?_); rintro e w2 ⟨rfl, hr, o2⟩)))
  refine wp_loop_rounds 1 ?_
  rw [rounds_succ]
  go_wp2
  go_ret
  exact ⟨rfl, hr, o2⟩

end Go.Proofs.Ytdbhfigdojkceaa
