/- Part 3 of the proof: MetM, Rn, Rs, From, CmM, Flat, Fix2, Fix3, May, Fix4, SpA. -/
import Derived.Deep.MidRow
import Derived.Laws.ResultCell
import Derived.Laws.Rows
import Derived.Laws.Tables
import Derived.Laws.CopyOwn
import Derived.Test.YtelhckckcilpaaaCSp1

namespace Go.Proofs.Ytelhckckcilpaaa
open Go Go.RowKit

/-- A byte's number. -/
def nb : Value → Nat
  | .int _ x => x.toNat
  | _ => 0
def byteAt (bs : List Value) (i : Nat) : Nat := nb (bs.getD i (.int .u8 0))
def rd2 (bs : List Value) (i : Nat) : Nat := byteAt bs i * 256 + byteAt bs (i + 1)
def rd4 (bs : List Value) (i : Nat) : Nat := ((byteAt bs i * 256 + byteAt bs (i + 1)) * 256 + byteAt bs (i + 2)) * 256 + byteAt bs (i + 3)
/-- A number of two bytes with its sign. -/
def s16 (x : Nat) : Int := if x < 32768 then (x : Int) else (x : Int) - 65536

theorem byteAt_lt {bs : List Value} (h : Bytes8 bs) (i : Nat) : byteAt bs i < 256 := by
  unfold byteAt
  rcases Nat.lt_or_ge i bs.length with hi | hi
  · obtain ⟨x, hx, he⟩ := h bs[i] (List.getElem_mem hi)
    rw [List.getD_eq_getElem?_getD, List.getElem?_eq_getElem hi, Option.getD_some, he]
    simp [nb]; exact hx
  · rw [List.getD_eq_getElem?_getD, List.getElem?_eq_none hi, Option.getD_none]
    simp [nb]
theorem byteAt_get {bs : List Value} (h : Bytes8 bs) {i : Nat} (hi : i < bs.length) : bs[i]? = some (.int .u8 (byteAt bs i : Nat)) := by
  obtain ⟨x, hx, he⟩ := h bs[i] (List.getElem_mem hi)
  rw [List.getElem?_eq_getElem hi, he]
  unfold byteAt
  rw [List.getD_eq_getElem?_getD, List.getElem?_eq_getElem hi, Option.getD_some, he]
  simp [nb]
theorem rd2_lt {bs : List Value} (h : Bytes8 bs) (i : Nat) : rd2 bs i < 65536 := by
  have := byteAt_lt h i; have := byteAt_lt h (i + 1); unfold rd2; omega
theorem rd4_lt {bs : List Value} (h : Bytes8 bs) (i : Nat) : rd4 bs i < 4294967296 := by
  have := byteAt_lt h i; have := byteAt_lt h (i + 1); have := byteAt_lt h (i + 2); have := byteAt_lt h (i + 3); unfold rd4; omega
theorem byteAt_append_left {a b : List Value} {i : Nat} (h : i < a.length) : byteAt (a ++ b) i = byteAt a i := by
  unfold byteAt; rw [List.getD_eq_getElem?_getD, List.getD_eq_getElem?_getD, List.getElem?_append_left h]
theorem byteAt_append_right {a b : List Value} (i : Nat) : byteAt (a ++ b) (a.length + i) = byteAt b i := by
  unfold byteAt; rw [List.getD_eq_getElem?_getD, List.getD_eq_getElem?_getD, List.getElem?_append_right (by omega)]; simp
theorem byteAt_take {a : List Value} {i n : Nat} (h : i < n) : byteAt (a.take n) i = byteAt a i := by
  unfold byteAt; rw [List.getD_eq_getElem?_getD, List.getD_eq_getElem?_getD, List.getElem?_take, if_pos h]
theorem rd2_take {a : List Value} {i n : Nat} (h : i + 1 < n) : rd2 (a.take n) i = rd2 a i := by
  unfold rd2; rw [byteAt_take (by omega), byteAt_take h]
theorem rd4_take {a : List Value} {i n : Nat} (h : i + 3 < n) : rd4 (a.take n) i = rd4 a i := by
  unfold rd4; rw [byteAt_take (by omega), byteAt_take (by omega), byteAt_take (by omega), byteAt_take h]
theorem rd2_right {a b : List Value} (i j : Nat) (h : j = a.length + i) : rd2 (a ++ b) j = rd2 b i := by
  subst h; unfold rd2; rw [byteAt_append_right, Nat.add_assoc, byteAt_append_right]
theorem rd4_right {a b : List Value} (i j : Nat) (h : j = a.length + i) : rd4 (a ++ b) j = rd4 b i := by
  subst h; unfold rd4; rw [byteAt_append_right, Nat.add_assoc, byteAt_append_right, Nat.add_assoc, byteAt_append_right, Nat.add_assoc, byteAt_append_right]
theorem rd2_be2 (x : Int) (b : List Value) : (rd2 (be2 x ++ b) 0 : Int) = x % 65536 := by
  have e : rd2 (be2 x ++ b) 0 = (x / 256 % 256).toNat * 256 + (x % 256).toNat := rfl
  rw [e]; omega
theorem rd4_be4 (x : Int) (b : List Value) : (rd4 (be4 x ++ b) 0 : Int) = x % 4294967296 := by
  have e : rd4 (be4 x ++ b) 0 = (((x / 16777216 % 256).toNat * 256 + (x / 65536 % 256).toNat) * 256 + (x / 256 % 256).toNat) * 256 + (x % 256).toNat := rfl
  rw [e]; omega
theorem s16_of (n : Nat) (x : Int) (h : (n : Int) = x % 65536) (h1 : -32768 ≤ x) (h2 : x ≤ 32767) : s16 n = x := by
  unfold s16; split <;> omega

/-- Where the numbers of glyph k begin, m glyphs having an advance. -/
def posM (m k : Nat) : Nat := 2 * min k m + 2 * k
def bearPos (m k : Nat) : Nat := posM m k + if k < m then 2 else 0
def advAt (bs : List Value) (m k : Nat) : Int := (rd2 bs (posM m k) : Nat)
def bearAt (bs : List Value) (m k : Nat) : Int := s16 (rd2 bs (bearPos m k))
/-- Glyph k's metric. -/
def metAt (bs : List Value) (m k : Nat) : Int × Int := (advAt bs m (min k (m - 1)), bearAt bs m k)
theorem posM_succ (m k : Nat) : posM m (k + 1) = bearPos m k + 2 := by unfold posM bearPos posM; split <;> omega

/-- The bytes of metrics. -/
def putM : List (Int × Int) → Nat → List Value
  | [], _ => []
  | (a, b) :: r, m + 1 => be2 a ++ be2 b ++ putM r m
  | (_, b) :: r, 0 => be2 b ++ putM r 0
theorem putM_snoc : ∀ (l : List (Int × Int)) (m : Nat) (a b : Int), putM (l ++ [(a, b)]) m = putM l m ++ (if l.length < m then be2 a ++ be2 b else be2 b)
  | [], 0, a, b => by simp [putM]
  | [], m + 1, a, b => by simp [putM]
  | (x, y) :: r, 0, a, b => by simp [putM, putM_snoc r 0 a b]
  | (x, y) :: r, m + 1, a, b => by simp [putM, putM_snoc r m a b]
theorem putM_len : ∀ (l : List (Int × Int)) (m : Nat), (putM l m).length = posM m l.length
  | [], _ => by simp [putM, posM]
  | (x, y) :: r, 0 => by simp [putM, putM_len r 0, be2, posM]; omega
  | (x, y) :: r, m + 1 => by simp [putM, putM_len r m, be2, posM]; omega
theorem putM_bytes : ∀ (l : List (Int × Int)) (m : Nat), Bytes8 (putM l m)
  | [], _ => fun _ h => (nomatch h)
  | (_, y) :: r, 0 => (be2_bytes y).append (putM_bytes r 0)
  | (x, y) :: r, m + 1 => ((be2_bytes x).append (be2_bytes y)).append (putM_bytes r m)

theorem putM_adv : ∀ (l : List (Int × Int)) (m k : Nat) (X : List Value) (a b : Int), l[k]? = some (a, b) → k < m → advAt (putM l m ++ X) m k = a % 65536
  | [], m, k, X, a, b, h, _ => by simp at h
  | (x, y) :: r, 0, k, X, a, b, h, hk => by omega
  | (x, y) :: r, m + 1, 0, X, a, b, h, _ => by
    simp at h
    obtain ⟨rfl, rfl⟩ := h
    unfold advAt
    rw [show posM (m + 1) 0 = 0 by simp [posM]]
    simp only [putM, List.append_assoc]
    exact rd2_be2 _ _
  | (x, y) :: r, m + 1, k + 1, X, a, b, h, hk => by
    have ih := putM_adv r m k X a b (by simpa using h) (by omega)
    unfold advAt at *
    simp only [putM, List.append_assoc]
    rw [← List.append_assoc, rd2_right (posM m k) _ (by simp [be2, posM]; omega)]
    exact ih
theorem putM_bear : ∀ (l : List (Int × Int)) (m k : Nat) (X : List Value) (a b : Int), l[k]? = some (a, b) → (rd2 (putM l m ++ X) (bearPos m k) : Int) = b % 65536
  | [], m, k, X, a, b, h => by simp at h
  | (x, y) :: r, 0, 0, X, a, b, h => by
    simp at h
    obtain ⟨rfl, rfl⟩ := h
    rw [show bearPos 0 0 = 0 by simp [bearPos, posM]]
    simp only [putM, List.append_assoc]
    exact rd2_be2 _ _
  | (x, y) :: r, m + 1, 0, X, a, b, h => by
    simp at h
    obtain ⟨rfl, rfl⟩ := h
    simp only [putM, List.append_assoc]
    rw [rd2_right 0 _ (by simp [bearPos, posM, be2])]
    exact rd2_be2 _ _
  | (x, y) :: r, 0, k + 1, X, a, b, h => by
    have ih := putM_bear r 0 k X a b (by simpa using h)
    simp only [putM, List.append_assoc]
    rw [rd2_right (bearPos 0 k) _ (by simp [be2, bearPos, posM]; omega)]
    exact ih
  | (x, y) :: r, m + 1, k + 1, X, a, b, h => by
    have ih := putM_bear r m k X a b (by simpa using h)
    simp only [putM, List.append_assoc]
    rw [← List.append_assoc, rd2_right (bearPos m k) _ (by simp only [be2, bearPos, posM, List.length_append, List.length_cons, List.length_nil]; split <;> split <;> omega)]
    exact ih

/-- Metrics that may be put: m have an advance of their own. -/
def okMet (q : Int × Int) : Bool := decide (0 ≤ q.1) && decide (q.1 ≤ 65535) && decide (-32768 ≤ q.2) && decide (q.2 ≤ 32767)
def lastAdv (l : List (Int × Int)) (m : Nat) : Int := (l.getD (m - 1) (0, 0)).1
def mayPut (l : List (Int × Int)) (m : Nat) : Bool := l.all okMet && (l.drop m).all fun q => q.1 == lastAdv l m
/-- What was put is read again. -/
theorem met_back (l : List (Int × Int)) (m k : Nat) (X : List Value) (q : Int × Int) (hm : 1 ≤ m) (hml : m ≤ l.length) (hp : mayPut l m = true) (hk : l[k]? = some q) : metAt (putM l m ++ X) m k = q := by
  obtain ⟨a, b⟩ := q
  unfold mayPut at hp
  rw [Bool.and_eq_true, List.all_eq_true, List.all_eq_true] at hp
  obtain ⟨h1, h2⟩ := hp
  have ok : ∀ j (p : Int × Int), l[j]? = some p → 0 ≤ p.1 ∧ p.1 ≤ 65535 ∧ -32768 ≤ p.2 ∧ p.2 ≤ 32767 := fun j p hj => by
    have := h1 p (List.mem_of_getElem? hj)
    simp only [okMet, Bool.and_eq_true, decide_eq_true_eq] at this
    omega
  have hb := ok k _ hk
  have e2 : bearAt (putM l m ++ X) m k = b := s16_of _ _ (putM_bear l m k X a b hk) hb.2.2.1 hb.2.2.2
  have e1 : advAt (putM l m ++ X) m (min k (m - 1)) = a := by
    rcases Nat.lt_or_ge k m with hkm | hkm
    · rw [show min k (m - 1) = k by omega, putM_adv l m k X a b hk hkm]
      simp only at hb; omega
    · rw [show min k (m - 1) = m - 1 by omega]
      obtain ⟨⟨a', b'⟩, hp'⟩ : ∃ p, l[m - 1]? = some p := ⟨l[m - 1]'(by omega), List.getElem?_eq_getElem _⟩
      rw [putM_adv l m (m - 1) X a' b' hp' (by omega)]
      have h3 := h2 (a, b) (List.mem_iff_getElem?.2 ⟨k - m, by rw [List.getElem?_drop, show m + (k - m) = k by omega]; exact hk⟩)
      unfold lastAdv at h3
      rw [List.getD_eq_getElem?_getD, hp', Option.getD_some] at h3
      have h3 : a = a' := by simpa using h3
      have := ok _ _ hp'
      simp only at this
      omega
  unfold metAt
  rw [e1, e2]

/-- Places as bytes. -/
def beP (long : Bool) (x : Int) : List Value := if long then be4 x else be2 (x / 2)
def putP (long : Bool) : List Int → List Value
  | [] => []
  | x :: r => beP long x ++ putP long r
def szP (long : Bool) : Nat := if long then 4 else 2
def offAt (long : Bool) (bs : List Value) (k : Nat) : Nat := if long then rd4 bs (k * 4) else 2 * rd2 bs (k * 2)
theorem beP_len (long : Bool) (x : Int) : (beP long x).length = szP long := by cases long <;> rfl
theorem beP_bytes (long : Bool) (x : Int) : Bytes8 (beP long x) := by
  cases long
  · exact be2_bytes _
  · exact be4_bytes _
theorem putP_snoc (long : Bool) (x : Int) : ∀ l, putP long (l ++ [x]) = putP long l ++ beP long x
  | [] => by simp [putP]
  | y :: r => by simp [putP, putP_snoc long x r]
theorem putP_len (long : Bool) : ∀ l, (putP long l).length = l.length * szP long
  | [] => by simp [putP]
  | y :: r => by simp only [putP, List.length_append, beP_len, putP_len long r, List.length_cons]; rw [Nat.succ_mul]; omega
theorem putP_bytes (long : Bool) : ∀ l, Bytes8 (putP long l)
  | [] => fun _ h => (nomatch h)
  | y :: r => (beP_bytes long y).append (putP_bytes long r)
def okOff (long : Bool) (x : Int) : Bool := long || (x % 2 == 0 && decide (x ≤ 131070))
/-- Offsets do not fall, are from last, and none above most. -/
def rises (most : Int) : Int → List Int → Bool
  | _, [] => true
  | last, x :: r => decide (last ≤ x) && decide (x ≤ most) && rises most x r
theorem rises_snoc (most : Int) : ∀ (last : Int) (l : List Int) (x : Int), rises most last (l ++ [x]) = (rises most last l && (decide (l.getLastD last ≤ x) && decide (x ≤ most)))
  | last, [], x => by simp [rises]
  | last, y :: r, x => by
    simp only [List.cons_append, rises, rises_snoc most y r x]
    rw [show (y :: r).getLastD last = r.getLastD y by cases r <;> simp [List.getLastD]]
    simp only [Bool.and_assoc]
theorem rises_ge (most : Int) : ∀ (l : List Int) (last : Int), rises most last l = true → ∀ x ∈ l, last ≤ x ∧ x ≤ most
  | [], _, _, x, hx => (nomatch hx)
  | y :: r, last, h, x, hx => by
    simp only [rises, Bool.and_eq_true, decide_eq_true_eq] at h
    rcases List.mem_cons.1 hx with rfl | hx
    · omega
    · have := rises_ge most r y h.2 x hx
      omega
theorem off_back (long : Bool) : ∀ (l : List Int) (k : Nat) (X : List Value) (x : Int), (∀ y ∈ l, 0 ≤ y ∧ y ≤ 1048576 ∧ okOff long y = true) → l[k]? = some x → (offAt long (putP long l ++ X) k : Int) = x
  | [], k, X, x, _, h => by simp at h
  | y :: r, 0, X, x, hl, h => by
    simp at h
    subst h
    have := hl y (by simp)
    cases long
    · simp only [offAt, putP, beP, List.append_assoc, okOff, Bool.false_or, Bool.and_eq_true, decide_eq_true_eq, beq_iff_eq] at *
      have e := rd2_be2 (y / 2) (putP false r ++ X)
      simp only [Bool.false_eq_true, if_false, Nat.zero_mul]
      omega
    · simp only [offAt, putP, beP, List.append_assoc] at *
      have e := rd4_be4 y (putP true r ++ X)
      simp only [if_true, Nat.zero_mul]
      omega
  | y :: r, k + 1, X, x, hl, h => by
    have ih := off_back long r k X x (fun z hz => hl z (by simp [hz])) (by simpa using h)
    rw [← ih]
    cases long
    · simp only [offAt, putP, List.append_assoc, Bool.false_eq_true, if_false]
      rw [rd2_right (k * 2) _ (by rw [beP_len]; simp only [szP, Bool.false_eq_true, if_false]; omega)]
    · simp only [offAt, putP, List.append_assoc, if_true]
      rw [rd4_right (k * 4) _ (by rw [beP_len]; simp only [szP, if_true]; omega)]

end Go.Proofs.Ytelhckckcilpaaa

namespace Go.Proofs.Ytelhckckcilpaaa
open Go Go.RowKit

variable {q : Nat → Prop}
theorem Rd.bytes {w : World} {p i : Nat} {bs : List Value} {bad : Bool} (h : Rd q w p bs i bad) : Bytes8 bs := by
  obtain ⟨_, _, _, _, h8, _⟩ := h
  exact h8
/-- A number was read: x; the reader stands at i. -/
def ReadN (q : Nat → Prop) (w : World) (p : Nat) (bs : List Value) (i : Nat) (x : Int) (e : Ending) (w' : World) : Prop := e = .returned (.int .i64 x) ∧ Rd q w' p bs i false ∧ Only w w' [p]
theorem rdNum2 (p : Nat) (bs : List Value) (i : Nat) (w : World) (h : Rd q w p bs i false) (hL : bs.length ≤ 4611686018427387904) (him : i + 2 ≤ bs.length) :
    Calls Try.prog 57 #[.pointer (some ⟨p, 0, none⟩), .int .i64 2] w (ReadN q w p bs (i + 2) (rd2 bs i : Nat)) :=
  number2_ok p bs i (byteAt bs i) (byteAt bs (i + 1)) w h hL him (byteAt_get h.bytes (by omega)) (byteAt_get h.bytes (by omega)) (byteAt_lt h.bytes _) (byteAt_lt h.bytes _)
theorem rdNum4 (p : Nat) (bs : List Value) (i : Nat) (w : World) (h : Rd q w p bs i false) (hL : bs.length ≤ 4611686018427387904) (him : i + 4 ≤ bs.length) :
    Calls Try.prog 57 #[.pointer (some ⟨p, 0, none⟩), .int .i64 4] w (ReadN q w p bs (i + 4) (rd4 bs i : Nat)) :=
  number4_ok p bs i (byteAt bs i) (byteAt bs (i + 1)) (byteAt bs (i + 2)) (byteAt bs (i + 3)) w h hL him (byteAt_get h.bytes (by omega)) (byteAt_get h.bytes (by omega)) (byteAt_get h.bytes (by omega)) (byteAt_get h.bytes (by omega)) (byteAt_lt h.bytes _) (byteAt_lt h.bytes _) (byteAt_lt h.bytes _) (byteAt_lt h.bytes _)
theorem rdU16 (p : Nat) (bs : List Value) (i : Nat) (w : World) (h : Rd q w p bs i false) (hL : bs.length ≤ 4611686018427387904) (him : i + 2 ≤ bs.length) :
    Calls Try.prog 19 #[.pointer (some ⟨p, 0, none⟩)] w (ReadN q w p bs (i + 2) (rd2 bs i : Nat)) := by
  have C := rdNum2 p bs i w h hL him
  clear h
  go_enter Try.func19, Try.ntmps19
  go_wp2_with (first | (go_at_call 57; ((refine C.mono ?_); rintro e w2 ⟨rfl, hr, o2⟩)))
  go_ret
  exact ⟨rfl, hr, o2⟩
theorem s16_wrap (x : Nat) (h : x < 65536) : wrap64 (IntKind.i16.wrap (x : Int)) = s16 x := by
  have e : IntKind.i16.wrap (x : Int) = s16 x := by
    unfold s16
    by_cases h1 : x < 32768
    · rw [if_pos h1]; exact IntWalk.i16_in _ (by omega)
    · rw [if_neg h1]
      have h2 : (x : Int) % 65536 = x := by omega
      simp only [IntKind.wrap, IntKind.bits, IntKind.signed, Bool.true_and]
      have h3 : (if decide ((x : Int) % 65536 ≥ 32768) = true then (x : Int) % 65536 - 65536 else (x : Int) % 65536) = (x : Int) - 65536 := by rw [h2, if_pos (by simp; omega)]
      exact h3
  rw [e]
  unfold wrap64 s16
  split <;> omega
theorem rdI16 (p : Nat) (bs : List Value) (i : Nat) (w : World) (h : Rd q w p bs i false) (hL : bs.length ≤ 4611686018427387904) (him : i + 2 ≤ bs.length) :
    Calls Try.prog 30 #[.pointer (some ⟨p, 0, none⟩)] w (ReadN q w p bs (i + 2) (s16 (rd2 bs i))) := by
  have C := rdNum2 p bs i w h hL him
  have hlt := rd2_lt h.bytes i
  clear h
  generalize rd2 bs i = x at *
  go_enter Try.func30, Try.ntmps30
  go_wp2_with (first | (go_at_call 57; ((refine C.mono ?_); rintro e w2 ⟨rfl, hr, o2⟩)))
  go_ret
  exact ⟨ret_int (s16_wrap x hlt), hr, o2⟩

end Go.Proofs.Ytelhckckcilpaaa

namespace Go.Proofs.Ytelhckckcilpaaa
open Go Go.RowKit

variable {q : Nat → Prop}
def RS (q : Nat → Prop) (w : World) (p : Nat) (bs : List Value) (k : Nat) : Prop := (k ≤ bs.length ∧ Rd q w p bs k false) ∨ (bs.length < k ∧ ∃ i, Rd q w p bs i true)
theorem RS.below {w w1 : World} {p k : Nat} {bs : List Value} (h : RS q w p bs k) (b : Below w.heap.size w w1) : RS q w1 p bs k :=
  h.imp (fun ⟨h1, h2⟩ => ⟨h1, h2.below b⟩) (fun ⟨h1, i, h2⟩ => ⟨h1, i, h2.below b⟩)
theorem RS.only {w w1 : World} {p k : Nat} {bs : List Value} {fp : List Nat} (h : RS q w p bs k) (o : Only w w1 fp) (hp : p ∉ fp) (hq : ∀ b ∈ fp, ¬ q b) : RS q w1 p bs k :=
  h.imp (fun ⟨h1, h2⟩ => ⟨h1, h2.only o hp hq⟩) (fun ⟨h1, i, h2⟩ => ⟨h1, i, h2.only o hp hq⟩)
theorem RS.bytes {w : World} {p k : Nat} {bs : List Value} (h : RS q w p bs k) : Bytes8 bs := h.elim (fun h => h.2.bytes) fun ⟨_, _, h⟩ => h.bytes

/-- The number of m bytes at k: 0 where they are not all there. -/
def rsn (bs : List Value) (m k : Nat) (x : Nat) : Nat := if k + m ≤ bs.length then x else 0
theorem rsn_lt {bs : List Value} {m k x B : Nat} (h : x < B) : rsn bs m k x < B := by unfold rsn; split <;> omega
/-- A number was read by a reader that may have come to its end. -/
def ReadS (q : Nat → Prop) (w : World) (p : Nat) (bs : List Value) (k : Nat) (x : Int) (e : Ending) (w' : World) : Prop := e = .returned (.int .i64 x) ∧ RS q w' p bs k ∧ Only w w' [p]

theorem rs_num (p : Nat) (bs : List Value) (k m x : Nat) (w : World) (h : RS q w p bs k) (hL : bs.length ≤ 4611686018427387904) (hm : 0 < m)
    (C : k + m ≤ bs.length → Rd q w p bs k false → Calls Try.prog 57 #[.pointer (some ⟨p, 0, none⟩), .int .i64 (m : Nat)] w fun e w' => e = .returned (.int .i64 (x : Nat)) ∧ Rd q w' p bs (k + m) false ∧ Only w w' [p]) :
    Calls Try.prog 57 #[.pointer (some ⟨p, 0, none⟩), .int .i64 (m : Nat)] w (ReadS q w p bs (k + m) (rsn bs m k x : Nat)) := by
  unfold rsn
  rcases h with ⟨h1, h2⟩ | ⟨h1, i, h2⟩
  · by_cases hk : k + m ≤ bs.length
    · rw [if_pos hk]
      exact (C hk h2).mono fun e w' ⟨a, b, c⟩ => ⟨a, .inl ⟨hk, b⟩, c⟩
    · rw [if_neg hk]
      exact (number_short p bs k (m : Nat) w h2 hL (.inr (by omega))).mono fun e w' ⟨a, b, c⟩ => ⟨a, .inr ⟨by omega, k, b⟩, c⟩
  · rw [if_neg (by omega)]
    exact (number_bad p bs i (m : Nat) w h2).mono fun e w' ⟨a, b⟩ => ⟨a, .inr ⟨by omega, i, b ▸ h2⟩, b ▸ Only.refl _ _⟩
theorem rsNum1 (p : Nat) (bs : List Value) (k : Nat) (w : World) (h : RS q w p bs k) (hL : bs.length ≤ 4611686018427387904) :
    Calls Try.prog 57 #[.pointer (some ⟨p, 0, none⟩), .int .i64 1] w (ReadS q w p bs (k + 1) (rsn bs 1 k (byteAt bs k) : Nat)) :=
  rs_num p bs k 1 _ w h hL (by decide) fun hk hR => number1_ok p bs k (byteAt bs k) w hR hL hk (byteAt_get hR.bytes (by omega)) (byteAt_lt hR.bytes _)
theorem rsNum2 (p : Nat) (bs : List Value) (k : Nat) (w : World) (h : RS q w p bs k) (hL : bs.length ≤ 4611686018427387904) :
    Calls Try.prog 57 #[.pointer (some ⟨p, 0, none⟩), .int .i64 2] w (ReadS q w p bs (k + 2) (rsn bs 2 k (rd2 bs k) : Nat)) :=
  rs_num p bs k 2 _ w h hL (by decide) fun hk hR => rdNum2 p bs k w hR hL hk
theorem rsNum4 (p : Nat) (bs : List Value) (k : Nat) (w : World) (h : RS q w p bs k) (hL : bs.length ≤ 4611686018427387904) :
    Calls Try.prog 57 #[.pointer (some ⟨p, 0, none⟩), .int .i64 4] w (ReadS q w p bs (k + 4) (rsn bs 4 k (rd4 bs k) : Nat)) :=
  rs_num p bs k 4 _ w h hL (by decide) fun hk hR => rdNum4 p bs k w hR hL hk

theorem rsU8 (p : Nat) (bs : List Value) (k : Nat) (w : World) (h : RS q w p bs k) (hL : bs.length ≤ 4611686018427387904) :
    Calls Try.prog 60 #[.pointer (some ⟨p, 0, none⟩)] w (ReadS q w p bs (k + 1) (rsn bs 1 k (byteAt bs k) : Nat)) := by
  have C := rsNum1 p bs k w h hL
  clear h
  go_enter Try.func60, Try.ntmps60
  go_wp2_with (first | (go_at_call 57; ((refine C.mono ?_); rintro e w2 ⟨rfl, hr, o2⟩)))
  go_ret
  exact ⟨rfl, hr, o2⟩
theorem rsU16 (p : Nat) (bs : List Value) (k : Nat) (w : World) (h : RS q w p bs k) (hL : bs.length ≤ 4611686018427387904) :
    Calls Try.prog 19 #[.pointer (some ⟨p, 0, none⟩)] w (ReadS q w p bs (k + 2) (rsn bs 2 k (rd2 bs k) : Nat)) := by
  have C := rsNum2 p bs k w h hL
  clear h
  go_enter Try.func19, Try.ntmps19
  go_wp2_with (first | (go_at_call 57; ((refine C.mono ?_); rintro e w2 ⟨rfl, hr, o2⟩)))
  go_ret
  exact ⟨rfl, hr, o2⟩
theorem rsI16 (p : Nat) (bs : List Value) (k : Nat) (w : World) (h : RS q w p bs k) (hL : bs.length ≤ 4611686018427387904) :
    Calls Try.prog 30 #[.pointer (some ⟨p, 0, none⟩)] w (ReadS q w p bs (k + 2) (s16 (rsn bs 2 k (rd2 bs k)))) := by
  have C := rsNum2 p bs k w h hL
  have hlt : rsn bs 2 k (rd2 bs k) < 65536 := rsn_lt (rd2_lt h.bytes k)
  clear h
  generalize rsn bs 2 k (rd2 bs k) = x at *
  go_enter Try.func30, Try.ntmps30
  go_wp2_with (first | (go_at_call 57; ((refine C.mono ?_); rintro e w2 ⟨rfl, hr, o2⟩)))
  go_ret
  exact ⟨ret_int (s16_wrap x hlt), hr, o2⟩

end Go.Proofs.Ytelhckckcilpaaa

namespace Go.Proofs.Ytelhckckcilpaaa
open Go Go.RowKit

variable {q : Nat → Prop}
/-- How many bytes a number of a kind has. -/
def wid : Nat → Nat
  | 0 => 1
  | 3 => 4
  | _ => 2
/-- The number of a kind that is read at k. -/
def rdk (bs : List Value) (kd k : Nat) : Int :=
  match kd with
  | 0 => (rsn bs 1 k (byteAt bs k) : Nat)
  | 1 => (rsn bs 2 k (rd2 bs k) : Nat)
  | 2 => s16 (rsn bs 2 k (rd2 bs k))
  | _ => (rsn bs 4 k (rd4 bs k) : Nat)
/-- A place had a number brought. -/
def Came (q : Nat → Prop) (w : World) (p : Nat) (bs : List Value) (k b : Nat) (T : TypeId) (cs : Array Value) (o : Nat) (x : Int) (e : Ending) (w' : World) : Prop :=
  e = .returned (.tuple #[]) ∧ RS q w' p bs k ∧ Blk w' b T (cs.setIfInBounds o (.int .i64 x)) ∧ Only w w' [p, b]

end Go.Proofs.Ytelhckckcilpaaa

namespace Go.Proofs.Ytelhckckcilpaaa
open Go Go.RowKit
set_option linter.unusedVariables false
set_option linter.unusedSimpArgs false

theorem and_nat (a b : Nat) (ha : a < 4611686018427387904) (hb : b < 4611686018427387904) : bits .and .i64 (a : Int) (b : Int) = ((a &&& b : Nat) : Int) := by
  have hx : a &&& b < 2 ^ 62 := Nat.lt_of_le_of_lt Nat.and_le_left (by omega)
  have h1 : (BitVec.ofInt 64 (a : Int)).toNat = a := by
    rw [BitVec.ofInt_natCast, BitVec.toNat_ofNat]; exact Nat.mod_eq_of_lt (by omega)
  have h2 : (BitVec.ofInt 64 (b : Int)).toNat = b := by
    rw [BitVec.ofInt_natCast, BitVec.toNat_ofNat]; exact Nat.mod_eq_of_lt (by omega)
  show IntKind.i64.wrap ((BitVec.ofInt 64 (a : Int) &&& BitVec.ofInt 64 (b : Int)).toNat : Int) = _
  rw [BitVec.toNat_and, h1, h2]
  exact IntWalk.i64_in _ (by omega)
/-- One bit of a number. -/
def bt (f i : Nat) : Bool := f.testBit i
theorem and_pow (f i : Nat) : f &&& 2 ^ i = if bt f i then 2 ^ i else 0 := by
  apply Nat.eq_of_testBit_eq
  intro j
  rw [Nat.testBit_and, Nat.testBit_two_pow]
  unfold bt
  by_cases h : i = j
  · subst h
    cases hb : f.testBit i <;> simp
  · cases hb : f.testBit i <;> simp [h]
theorem and_1 (f : Nat) : f &&& 1 = if bt f 0 then 1 else 0 := and_pow f 0
theorem and_2 (f : Nat) : f &&& 2 = if bt f 1 then 2 else 0 := and_pow f 1
theorem and_8 (f : Nat) : f &&& 8 = if bt f 3 then 8 else 0 := and_pow f 3
theorem and_32 (f : Nat) : f &&& 32 = if bt f 5 then 32 else 0 := and_pow f 5
theorem and_64 (f : Nat) : f &&& 64 = if bt f 6 then 64 else 0 := and_pow f 6
theorem and_128 (f : Nat) : f &&& 128 = if bt f 7 then 128 else 0 := and_pow f 7
theorem and_2048 (f : Nat) : f &&& 2048 = if bt f 11 then 2048 else 0 := and_pow f 11
theorem and_4096 (f : Nat) : f &&& 4096 = if bt f 12 then 4096 else 0 := and_pow f 12
theorem and_3 (f : Nat) : f &&& 3 = if bt f 0 then (if bt f 1 then 3 else 1) else (if bt f 1 then 2 else 0) := by
  rw [show (3 : Nat) = 1 ||| 2 from rfl, Nat.and_or_distrib_left, and_1, and_2]
  cases bt f 0 <;> cases bt f 1 <;> rfl
theorem and_6144 (f : Nat) : f &&& 6144 = if bt f 11 then (if bt f 12 then 6144 else 2048) else (if bt f 12 then 4096 else 0) := by
  rw [show (6144 : Nat) = 2048 ||| 4096 from rfl, Nat.and_or_distrib_left, and_2048, and_4096]
  cases bt f 11 <;> cases bt f 12 <;> rfl
/-- The number that the bits 3, 6 and 7 make. -/
def b200 (f : Nat) : Nat := (if bt f 3 then 8 else 0) + (if bt f 6 then 64 else 0) + (if bt f 7 then 128 else 0)
theorem and_200 (f : Nat) : f &&& 200 = b200 f := by
  rw [show (200 : Nat) = (8 ||| 64) ||| 128 from rfl, Nat.and_or_distrib_left, Nat.and_or_distrib_left, and_8, and_64, and_128]
  unfold b200
  cases bt f 3 <;> cases bt f 6 <;> cases bt f 7 <;> rfl
/-- How many numbers a matrix has, by its bits. -/
def frm (f : Nat) : Option Nat := if b200 f = 0 then some 0 else if b200 f = 8 then some 1 else if b200 f = 64 then some 2 else if b200 f = 128 then some 4 else none
def matN (f : Nat) : Nat := (frm f).getD 0
def widA (f : Nat) : Nat := if bt f 0 then 2 else 1
def s8 (x : Nat) : Int := if x < 128 then (x : Int) else (x : Int) - 256
/-- An argument's value. -/
def valA (bs : List Value) (f k : Nat) : Int := if bt f 0 then (if bt f 1 then rdk bs 2 k else rdk bs 1 k) else (if bt f 1 then s8 (rsn bs 1 k (byteAt bs k)) else rdk bs 0 k)
abbrev Mtx := Int × Int × Int × Int
def one14 : Mtx := (16384, 0, 0, 16384)
/-- A matrix that so many numbers tell. -/
def matL : List Int → Mtx
  | [a] => (a, 0, 0, a)
  | [a, b] => (a, 0, 0, b)
  | [a, b, c, d] => (a, b, c, d)
  | _ => one14
def nums2 (bs : List Value) (k n : Nat) : List Int := (List.range n).map fun i => rdk bs 2 (k + 2 * i)
abbrev Prt := Int × Mtx × Bool × Int × Int × Bool × Int × Int
def prL (p : Prt) : List Value := [.int .i64 p.1, .int .i64 p.2.1.1, .int .i64 p.2.1.2.1, .int .i64 p.2.1.2.2.1, .int .i64 p.2.1.2.2.2, .bool p.2.2.1, .int .i64 p.2.2.2.1, .int .i64 p.2.2.2.2.1, .bool p.2.2.2.2.2.1, .int .i64 p.2.2.2.2.2.2.1, .int .i64 p.2.2.2.2.2.2.2]
def prV (p : Prt) : Value := .agg (prL p).toArray
/-- The flags at a place, a number below 2^16. -/
def flgAt (bs : List Value) (k : Nat) : Nat := rsn bs 2 k (rd2 bs k)
theorem flgAt_lt {bs : List Value} (h : Bytes8 bs) (k : Nat) : flgAt bs k < 65536 := rsn_lt (rd2_lt h k)
/-- Where a part that begins at k with these flags ends. -/
def endP (f k : Nat) : Nat := k + 4 + 2 * widA f + 2 * matN f
def prtOf (bs : List Value) (f k : Nat) : Prt :=
  let g := rdk bs 1 (k + 2)
  let a := valA bs f (k + 4)
  let b := valA bs f (k + 4 + widA f)
  let m := matL (nums2 bs (k + 4 + 2 * widA f) (matN f))
  if bt f 1 then (g, m, false, a, b, bt f 11 && !bt f 12, 0, 0) else (g, m, true, 0, 0, false, a, b)
def okPrt (bs : List Value) (f k : Nat) : Bool := (frm f).isSome && decide (endP f k ≤ bs.length)
/-- The parts from k on: n more may come. -/
def decP (bs : List Value) : Nat → Nat → List Prt → List Prt × Int
  | 0, _, _ => ([], 120)
  | n + 1, k, acc =>
    if okPrt bs (flgAt bs k) k then
      if bt (flgAt bs k) 5 then decP bs n (endP (flgAt bs k) k) (acc ++ [prtOf bs (flgAt bs k) k]) else (acc ++ [prtOf bs (flgAt bs k) k], 0)
    else ([], 110)
theorem frm_cases (f : Nat) : (b200 f = 0 ∧ frm f = some 0) ∨ (b200 f = 8 ∧ frm f = some 1) ∨ (b200 f = 64 ∧ frm f = some 2) ∨ (b200 f = 128 ∧ frm f = some 4) ∨ (b200 f ≠ 0 ∧ b200 f ≠ 8 ∧ b200 f ≠ 64 ∧ b200 f ≠ 128 ∧ frm f = none) := by
  unfold frm
  by_cases h0 : b200 f = 0
  · exact .inl ⟨h0, if_pos h0⟩
  · by_cases h1 : b200 f = 8
    · exact .inr (.inl ⟨h1, by rw [if_neg h0, if_pos h1]⟩)
    · by_cases h2 : b200 f = 64
      · exact .inr (.inr (.inl ⟨h2, by rw [if_neg h0, if_neg h1, if_pos h2]⟩))
      · by_cases h3 : b200 f = 128
        · exact .inr (.inr (.inr (.inl ⟨h3, by rw [if_neg h0, if_neg h1, if_neg h2, if_pos h3]⟩)))
        · exact .inr (.inr (.inr (.inr ⟨h0, h1, h2, h3, by rw [if_neg h0, if_neg h1, if_neg h2, if_neg h3]⟩)))
theorem b200_lt (f : Nat) : b200 f ≤ 200 := by unfold b200; split <;> split <;> split <;> omega
end Go.Proofs.Ytelhckckcilpaaa

namespace Go.Proofs.Ytelhckckcilpaaa
open Go Go.RowKit
set_option linter.unusedVariables false
set_option linter.unusedSimpArgs false

theorem flat_at {α : Type} {f : α → List Value} {sz : Nat} (hf : ∀ x, (f x).length = sz) : ∀ (L : List α) (k : Nat) (x : α), L[k]? = some x → ∀ j v, (f x)[j]? = some v → (L.flatMap f)[k * sz + j]? = some v
  | [], k, x, h, j, v, hv => by simp at h
  | y :: L, 0, x, h, j, v, hv => by
    obtain rfl : y = x := by simpa using h
    have hj := (List.getElem?_eq_some_iff.1 hv).1
    rw [List.flatMap_cons, Nat.zero_mul, Nat.zero_add, List.getElem?_append_left hj]
    exact hv
  | y :: L, k + 1, x, h, j, v, hv => by
    have := flat_at hf L k x (by simpa using h) j v hv
    rw [List.flatMap_cons, List.getElem?_append_right (by rw [hf, Nat.add_mul]; omega), hf, show (k + 1) * sz + j - sz = k * sz + j by rw [Nat.add_mul]; omega]
    exact this
theorem flat_len {α : Type} {f : α → List Value} {sz : Nat} (hf : ∀ x, (f x).length = sz) : ∀ L : List α, (L.flatMap f).length = L.length * sz
  | [] => by simp
  | x :: L => by rw [List.flatMap_cons, List.length_append, hf, flat_len hf L, List.length_cons, Nat.add_mul, Nat.one_mul, Nat.add_comm]
theorem lists_flat {α : Type} {f : α → List Value} {sz : Nat} (hf : ∀ x, (f x).length = sz) (hs : 0 < sz) {w : World} {B : Nat} {A : Option Addr} {L : List α} (h : Lists w B A (L.flatMap f)) {k : Nat} {x : α} (hk : L[k]? = some x) :
    ∃ b o, A = some ⟨b, o, none⟩ ∧ b < B ∧ w.rangeAt b (o + k * sz) (f x) := by
  have h0 : (f x)[0]? = some ((f x)[0]'(by rw [hf]; exact hs)) := List.getElem?_eq_getElem _
  have h1 := flat_at hf L k x hk 0 _ h0
  obtain ⟨b, o, rfl, hb, hc⟩ := h.plain (by intro e; rw [e] at h1; simp at h1)
  exact ⟨b, o, rfl, hb, fun j v hv => by rw [Nat.add_assoc]; exact hc _ _ (flat_at hf L k x hk j v hv)⟩
theorem flat_snoc {α : Type} (f : α → List Value) (L : List α) (x : α) : (L ++ [x]).flatMap f = L.flatMap f ++ f x := by simp
theorem range_below {w w1 : World} {B b o : Nat} {cs : List Value} (h : w.rangeAt b o cs) (hb : b < B) (k : Below B w w1) : w1.rangeAt b o cs := fun j v hv => (k.cell (p := ⟨b, o + j, none⟩) hb).trans (h j v hv)
theorem range_blk {w : World} {p : Nat} {T : TypeId} {cs : List Value} (h : Blk w p T cs.toArray) : w.rangeAt p 0 cs := fun j v hv => by rw [Nat.zero_add, h.cell j, List.getElem?_toArray]; exact hv
theorem blk_row {w : World} {p : Nat} {T : TypeId} {cs : Array Value} (h : Blk w p T cs) (cs1 : Array Value) : Blk (w.setRow p cs1) p T cs1 := setRow_heap w p cs cs1 T (0, 0) h
theorem exec_store_row {P : Program} {ρ : Operand → Value} {o : Oper} {w : World} (ty : TypeId) (x y : Operand) (ho : o.op = .store ty x y)
    (g : Nat) (cells : Array Value) (hx : ρ x = .pointer (some ⟨g, 0, none⟩)) (hy : ρ y = .agg cells)
    (t : TypeId) (old : Array Value) (hg : Blk w g t old) (hi : (P.info? ty).map (·.size) = some cells.size)
    (hold : old.size = cells.size) (h1 : cells.all (·.oneCell') = true) : (execOp ρ o).run P w = .ok .skip (w.setRow g cells) := by
  unfold execOp
  simp only [ho, hx, hy, Instr.storeAt, Instr.sureAddr, Sem.run_bind, Sem.run_pure, Result.andThen_ok, run_storeVar_row w g t ty old cells hg hi hold h1]
theorem exec_load {P : Program} {ρ : Operand → Value} {o : Oper} {w : World} {ty : TypeId} {x : Operand} {p v : Value} (h : (Instr.loadAt ty p).run P w = .ok v w) (ho : o.op = .load ty x) (hx : ρ x = p) : (execOp ρ o).run P w = .ok (.value v) w := by
  unfold execOp
  simp only [ho, hx, Sem.run_bind, h, Result.andThen_ok, Sem.run_pure]
theorem load_blk {P : Program} {w : World} {p : Nat} {T ty : TypeId} {cs : Array Value} {d : TypeDesc} (h : Blk w p T cs) (hu : P.underlying ty = some d) (hd : d.isRow = true) (hi : (P.info? ty).map (·.size) = some cs.size) : (Instr.loadAt ty (.pointer (some ⟨p, 0, none⟩))).run P w = .ok (.agg cs) w := by
  have h1 : w.rangeAt p 0 cs.toList := fun j v hv => by rw [Nat.zero_add, h.cell j]; simpa using hv
  have := run_loadAt_mid (P := P) w p 0 ty cs.toList d h1 hu hd (by simpa using hi)
  simpa using this
theorem only_row {w a : World} {fp : List Nat} (h : Only w a fp) {g : Nat} (hg : g ∈ fp ∨ w.heap.size ≤ g) (cs : Array Value) : Only w (a.setRow g cs) fp :=
  ⟨h.os, h.tape, h.output, by rw [size_setRow]; exact h.size, fun b hb hf => (setRow_other a g b cs (fun e => by subst e; rcases hg with hg | hg; exact hf hg; omega)).trans (h.block b hb hf)⟩
theorem lists_takeF {w : World} {B : Nat} {A : Option Addr} {xs : List Value} (h : Lists w B A xs) (k : Nat) : Lists w B A (xs.take k) :=
  ⟨fun ha => by rw [h.nil ha]; simp, fun a ha j u hu => h.cell a ha j u (by
    rw [List.getElem?_take] at hu
    split at hu
    · exact hu
    · cases hu), fun a ha hx => h.lt a ha (fun e => hx (by rw [e]; simp))⟩
theorem lists_row (w : World) (cs : List Value) (T : TypeId) : Lists (w.alloc (.cells cs.toArray T)) (w.heap.size + 1) (some ⟨w.heap.size, 0, none⟩) cs :=
  ⟨fun ha => (nomatch ha), fun a ha j u hu => by
    cases ha
    rw [addr_plain, World.cell?_alloc_new, Nat.zero_add, ← hu]
    rw [List.getElem?_toArray], fun a ha _ => by cases ha; simp⟩
theorem lists_row_at (w : World) (cs : List Value) (T : TypeId) (k : Nat) (hk : k = w.heap.size) : Lists (w.alloc (.cells cs.toArray T)) (k + 1) (some ⟨k, 0, none⟩) cs := hk ▸ lists_row w cs T
theorem results_row_tmp {P : Program} {fn : Func} {p u : Tmp} {ty : TypeId} (h : fn.results = #[.cell p ty, .tmp u]) (tmps : Array Value) (w : World) (g : Nat) (t : TypeId) (cs : Array Value) (fr : Nat × Nat) (d : TypeDesc) (v : Value)
    (hp : tmps.getD p undef = .pointer (some ⟨g, 0, none⟩)) (hv : tmps.getD u undef = v) (hg : w.heap[g]? = some (.cells cs t fr))
    (hu : P.underlying ty = some d) (hd : (match d with | .struct _ | .array _ _ => true | _ => false) = true) (hi : (P.info? ty).map (·.size) = some cs.size) :
    (results fn tmps).run P w = .ok (.tuple #[.agg cs, v]) w := by
  rw [results_cell_tmp h, hp, hv]
  simp [asAddr, Result.andThen, run_loadVar_row w g t ty cs fr d hg hu hd hi]
theorem results_row_tmp2 {P : Program} {fn : Func} {p u u2 : Tmp} {ty : TypeId} (h : fn.results = #[.cell p ty, .tmp u, .tmp u2]) (tmps : Array Value) (w : World) (g : Nat) (t : TypeId) (cs : Array Value) (fr : Nat × Nat) (d : TypeDesc) (v v2 : Value)
    (hp : tmps.getD p undef = .pointer (some ⟨g, 0, none⟩)) (hv : tmps.getD u undef = v) (hv2 : tmps.getD u2 undef = v2) (hg : w.heap[g]? = some (.cells cs t fr))
    (hu : P.underlying ty = some d) (hd : (match d with | .struct _ | .array _ _ => true | _ => false) = true) (hi : (P.info? ty).map (·.size) = some cs.size) :
    (results fn tmps).run P w = .ok (.tuple #[.agg cs, v, v2]) w := by
  have hp' : tmps[p]?.getD undef = .pointer (some ⟨g, 0, none⟩) := by simpa using hp
  have hv' : tmps[u]?.getD undef = v := by simpa using hv
  have hv2' : tmps[u2]?.getD undef = v2 := by simpa using hv2
  simp [results, h, hp', hv', hv2', Sem.run_bind, asAddr, Result.andThen, run_loadVar_row w g t ty cs fr d hg hu hd hi]
end Go.Proofs.Ytelhckckcilpaaa

namespace Go.Proofs.Ytelhckckcilpaaa
open Go.RowKit

theorem ret_iiv {k l : IntKind} {a b a' b' : Int} {v : Value} (h : a = a') (g : b = b') : Ending.returned (.tuple #[.int k a, .int l b, v]) = .returned (.tuple #[.int k a', .int l b', v]) := by rw [h, g]

end Go.Proofs.Ytelhckckcilpaaa

namespace Go.Proofs.Ytelhckckcilpaaa
open Go.RowKit

theorem ret_ii {k l : IntKind} {a b a' b' : Int} (h : a = a') (g : b = b') : Ending.returned (.tuple #[.int k a, .int l b]) = .returned (.tuple #[.int k a', .int l b']) := by rw [h, g]

end Go.Proofs.Ytelhckckcilpaaa

namespace Go.Proofs.Ytelhckckcilpaaa
open Go.RowKit

theorem all_take_snoc (f : Int → Bool) (zs : List Int) (k : Nat) (h : k < zs.length) : (zs.take (k + 1)).all f = ((zs.take k).all f && f (zs.getD k 0)) := by
  rw [List.take_succ_eq_append_getElem h, List.all_append]; simp [List.getD, h]

theorem all_false_of_take (f : Int → Bool) (zs : List Int) (k : Nat) (h : (zs.take k).all f = false) : zs.all f = false := by
  have e := List.take_append_drop k zs
  rw [← e, List.all_append, h, Bool.false_and]

theorem allMay_affine (b off len cap : Nat) (zs : List Int) (w : World) (hl : len = zs.length) (hm : len ≤ 9223372036854775807)
    (hc : ∀ j, j < zs.length → w.cell? ⟨b, off + j, none⟩ = some (.int .i64 (zs.getD j 0))) :
    Calls Try.prog 92 #[.slice (some ⟨b, off, none⟩) len cap] w fun e w' => e = .returned (.bool (zs.all mayB)) ∧ w = w' := by
  have HL : Hid (len = zs.length) := hl
  have HC : Hid (∀ j, j < zs.length → w.cell? ⟨b, off + j, none⟩ = some (.int .i64 (zs.getD j 0))) := hc
  clear hl hc
  go_enter Try.func92, Try.ntmps92
  go_wp2
  go_loop [4, 7] (fun _ i => ∃ k : Nat, k ≤ len ∧ i = .int .i64 k ∧ (zs.take k).all mayB = true) (fun _ i => len - (intOf i).toNat)
  case atStart => exact ⟨0, Nat.zero_le _, rfl, rfl⟩
  case round =>
    obtain ⟨k, hk, rfl, hall⟩ := hrel
    have HA : Hid ((zs.take k).all mayB = true) := hall
    clear hall
    by_cases hlt : k < len
    · have hcell : w.cell? ⟨b, off + k, none⟩ = some (.int .i64 (zs.getD k 0)) := HC.out k (by have := HL.out; omega)
      have hts := Hid.out (p := _) (all_take_snoc mayB zs k (by have := HL.out; omega))
      generalize hz : zs.getD k 0 = z at hcell hts
      have HT : Hid ((zs.take (k + 1)).all mayB = ((zs.take k).all mayB && mayB z)) := hts
      clear hts hz
      by_cases hmz : mayB z = true
      · go_wp2_with (go_at_call 89; refine (may_any z _).mono ?_; rintro e w' ⟨rfl, rfl⟩)
        go_round
        case rel => exact ⟨k + 1, by omega, by go_num, by rw [HT.out, HA.out, hmz]; rfl⟩
        case measure => simp [intOf]; omega
      · have hmf : mayB z = false := by simpa using hmz
        clear hmz
        go_wp2_with (go_at_call 89; refine (may_any z _).mono ?_; rintro e w' ⟨rfl, rfl⟩)
        go_ret
        refine ⟨?_, rfl⟩
        have := all_false_of_take mayB zs (k + 1) (by rw [HT.out, hmf, Bool.and_false])
        rw [this]; rfl
    · go_wp2
      go_ret
      refine ⟨?_, rfl⟩
      have : zs.all mayB = true := by rw [← HA.out, List.take_of_length_le (by have := HL.out; omega)]
      rw [this]; rfl

theorem allMay_nil_affine (cap : Nat) (a : Option Addr) (w : World) :
    Calls Try.prog 92 #[.slice a 0 cap] w fun e w' => e = .returned (.bool true) ∧ w = w' := by
  go_enter Try.func92, Try.ntmps92
  go_wp2
  refine wp_loop_rounds 1 ?_
  rw [rounds_succ]
  go_wp2
  go_ret
  exact ⟨rfl, rfl⟩

end Go.Proofs.Ytelhckckcilpaaa

namespace Go.Proofs.Ytelhckckcilpaaa
open Go.RowKit

theorem cells2 (w0 : World) (b : Nat) (hb : w0.heap.size = b) (x y : Int) (t : TypeId) (j : Nat) (hj : j < [x, y].length) :
    (w0.alloc (.cells #[.int .i64 x, .int .i64 y] t)).cell? ⟨b, 0 + j, none⟩ = some (.int .i64 ([x, y].getD j 0)) := by
  rw [World.cell?_alloc_at _ _ _ _ hb.symm]
  match j, hj with
  | 0, _ => rfl
  | 1, _ => rfl

theorem cells3 (w0 : World) (b : Nat) (hb : w0.heap.size = b) (x y z : Int) (t : TypeId) (j : Nat) (hj : j < [x, y, z].length) :
    (w0.alloc (.cells #[.int .i64 x, .int .i64 y, .int .i64 z] t)).cell? ⟨b, 0 + j, none⟩ = some (.int .i64 ([x, y, z].getD j 0)) := by
  rw [World.cell?_alloc_at _ _ _ _ hb.symm]
  match j, hj with
  | 0, _ => rfl
  | 1, _ => rfl
  | 2, _ => rfl

theorem all2 (x y : Int) : [x, y].all mayB = (mayB x && mayB y) := by simp
theorem all3 (x y z : Int) : [x, y, z].all mayB = (mayB x && mayB y && mayB z) := by simp [Bool.and_assoc]

/-- a result, if it may be -/
def outR (x : Int) : Int := if mayB x then x else 0
def outE (x : Int) : Int := if mayB x then 0 else 10

theorem mayB_lo {x : Int} (h : mayB x = true) : -2147483648 ≤ x := by unfold mayB at h; simp at h; exact h.1
theorem mayB_hi {x : Int} (h : mayB x = true) : x ≤ 2147483648 := by unfold mayB at h; simp at h; exact h.2

theorem below_next {w w1 w2 : World} (h : Below w.heap.size w w1) (g : Below w1.heap.size w1 w2) : Below w.heap.size w w2 := h.trans (g.mono h.size)
theorem below_a1 (w : World) (o : Obj) : Below w.heap.size w (w.alloc o) := (Below.refl _ _).alloc (Nat.le_refl _) o
theorem below_a2 (w : World) (o p : Obj) : Below w.heap.size w ((w.alloc o).alloc p) := (below_a1 w o).alloc (by simp) p
theorem below_a3 (w : World) (o p q : Obj) : Below w.heap.size w (((w.alloc o).alloc p).alloc q) := (below_a2 w o p).alloc (by simp; omega) q
theorem below_a4 (w : World) (o p q r : Obj) : Below w.heap.size w ((((w.alloc o).alloc p).alloc q).alloc r) := (below_a3 w o p q).alloc (by simp; omega) r
theorem below_a5 (w : World) (o p q r s : Obj) : Below w.heap.size w (((((w.alloc o).alloc p).alloc q).alloc r).alloc s) := (below_a4 w o p q r).alloc (by simp; omega) s

end Go.Proofs.Ytelhckckcilpaaa

namespace Go.Proofs.Ytelhckckcilpaaa
open Go Go.RowKit
variable {q : Nat → Prop}

def ub1 (bs : List Value) (k : Nat) : Nat := rsn bs 1 k (byteAt bs k)
def ub2 (bs : List Value) (k : Nat) : Nat := rsn bs 2 k (rd2 bs k)
def ib2 (bs : List Value) (k : Nat) : Int := s16 (ub2 bs k)
theorem u1_lt {bs : List Value} (h : Bytes8 bs) (k : Nat) : ub1 bs k < 256 := rsn_lt (byteAt_lt h k)
def ints (L : List Nat) : List Value := L.map fun x => .int .i64 (x : Nat)
theorem ints_len (L : List Nat) : (ints L).length = L.length := by simp [ints]
theorem ints_app (L M : List Nat) : ints (L ++ M) = ints L ++ ints M := by simp [ints]
theorem ints_one (L : List Nat) : ∀ u ∈ ints L, u.oneCell' = true := fun u hu => by
  obtain ⟨x, _, rfl⟩ := List.mem_map.1 hu
  rfl
theorem intInfoS : (Try.prog.info? 3).map (fun i => (i.zero, i.size, i.bytes)) = some (some (.int .i64 0), 1, 8) := by kernel_rfl
theorem info_partsS {o : Option TypeInfo} {z : Option Value} {n b : Nat} (h : o.map (fun i => (i.zero, i.size, i.bytes)) = some (z, n, b)) : ∃ i, o = some i ∧ i.zero = z ∧ i.size = n ∧ i.bytes = b := by
  cases o with
  | none => simp at h
  | some i => simp at h; exact ⟨i, rfl, h.1, h.2.1, h.2.2⟩
theorem ownS_low {w : World} {base : Nat} {e : TypeId} {size n : Nat} {v : Value} {xs : List Value} (h : w.ownsRow base e size v n xs) : ∀ b ∈ blk v, base ≤ b := by
  intro b hm
  rcases h.2 with ⟨rfl, _⟩ | ⟨g, cap, cur, rfl, h2, _⟩
  · simp [blk, Value.ownBlock] at hm
  · simp [blk, Value.ownBlock] at hm; omega
theorem ownS_stay {w w1 : World} {base : Nat} {e : TypeId} {size n : Nat} {v : Value} {xs : List Value} (h : w.ownsRow base e size v n xs) (b : Below w.heap.size w w1) : w1.ownsRow base e size v n xs :=
  own_only h (Only.of_below b []) fun _ _ hm => (nomatch hm)
/-- The flags of n points, or of more: they, and where the reader stands. -/
def flgC (bs : List Value) (n : Nat) : Nat → Nat → List Nat → List Nat × Nat
  | 0, k, acc => (acc, k)
  | j + 1, k, acc => if n ≤ acc.length then (acc, k) else
    if bt (ub1 bs k) 3 then flgC bs n j (k + 2) (acc ++ List.replicate (1 + ub1 bs (k + 1)) (ub1 bs k)) else flgC bs n j (k + 1) (acc ++ [ub1 bs k])
theorem flgC_done {bs : List Value} {n j k : Nat} {acc : List Nat} (h : n ≤ acc.length) : flgC bs n j k acc = (acc, k) := by
  cases j with
  | zero => rfl
  | succ j => unfold flgC; rw [if_pos h]
theorem flgC_more {bs : List Value} {n j k : Nat} {acc : List Nat} (h : ¬ n ≤ acc.length) (hb : bt (ub1 bs k) 3 = true) : flgC bs n (j + 1) k acc = flgC bs n j (k + 2) (acc ++ List.replicate (1 + ub1 bs (k + 1)) (ub1 bs k)) := by
  conv => lhs; unfold flgC
  rw [if_neg h, if_pos hb]
theorem flgC_one {bs : List Value} {n j k : Nat} {acc : List Nat} (h : ¬ n ≤ acc.length) (hb : bt (ub1 bs k) 3 = false) : flgC bs n (j + 1) k acc = flgC bs n j (k + 1) (acc ++ [ub1 bs k]) := by
  conv => lhs; unfold flgC
  rw [if_neg h, hb]; rfl
def sLenS : Value → Nat
  | .slice _ n _ => n
  | _ => 0
/-- Between two flags. -/
structure FQ (q : Nat → Prop) (w : World) (p : Nat) (bs : List Value) (n : Nat) (R : List Nat × Nat) (k : Nat) (acc : List Nat) (v : Value) (W : World) : Prop where
  rd : RS q W p bs k
  own : W.ownsRow w.heap.size 3 1 v acc.length (ints acc)
  on : Only w W [p]
  le : acc.length ≤ n + 256
  run : ∃ j, n ≤ acc.length + j ∧ flgC bs n j k acc = R
set_option maxRecDepth 100000 in
set_option maxHeartbeats 1000000 in
theorem rflags_any (p k n : Nat) (bs : List Value) (w : World) (h : RS q w p bs k) (hL : bs.length ≤ 4611686018427387904) (hn : n ≤ 1000000) (hp : p < w.heap.size) (hq : ∀ b, q b → b < w.heap.size) :
    Calls Try.prog 58 #[.pointer (some ⟨p, 0, none⟩), .int .i64 (n : Nat)] w fun e w' => ∃ v, e = .returned v ∧ w'.ownsRow w.heap.size 3 1 v (flgC bs n n k []).1.length (ints (flgC bs n n k []).1) ∧ RS q w' p bs (flgC bs n n k []).2 ∧ Only w w' [p] ∧ (flgC bs n n k []).1.length ≤ n + 256 := by
  obtain ⟨R, hR⟩ : ∃ R, R = flgC bs n n k [] := ⟨_, rfl⟩
  rw [← hR]
  have h8 := h.bytes
  have F0 : FQ q w p bs n R k [] (.slice none 0 0) w := ⟨h, World.ownsRow_nil _ _ _ _, Only.refl _ _, by simp, n, by simp, hR.symm⟩
  obtain ⟨i0, hi, hz0, hz1, hz2⟩ := info_partsS intInfoS
  clear h hR
  go_enter Try.func58, Try.ntmps58
  go_wp2
  go_loopw [5] (fun v wr => ∃ k acc, FQ q w p bs n R k acc v wr) (fun v _ => n - sLenS v)
  case atStart => exact ⟨_, _, F0⟩
  case round =>
    clear F0
    obtain ⟨k, acc, Q⟩ := hrel
    obtain ⟨A5, c5, rfl, l5, _⟩ := own_lists Q.own
    have hle := Q.le
    by_cases hlt : acc.length < n
    · obtain ⟨j, hj, hrun⟩ := Q.run
      obtain ⟨j, rfl⟩ : ∃ i, j = i + 1 := ⟨j - 1, by omega⟩
      have nle : ¬ n ≤ acc.length := by omega
      have CU : ∀ W kk, RS q W p bs kk → Calls Try.prog 60 #[.pointer (some ⟨p, 0, none⟩)] W (ReadS q W p bs (kk + 1) (ub1 bs kk : Nat)) := fun W kk r => rsU8 p bs kk W r hL
      have hf := u1_lt h8 k
      have hm := u1_lt h8 (k + 1)
      have H1 := Lib.hid (fun hb => (flgC_more (bs := bs) (j := j) (k := k) nle hb).symm.trans hrun)
      have H0 := Lib.hid (fun hb => (flgC_one (bs := bs) (j := j) (k := k) nle hb).symm.trans hrun)
      have e8 : bits .and .i64 ((ub1 bs k : Nat) : Int) 8 = if bt (ub1 bs k) 3 then 8 else 0 := by
        rw [show (8 : Int) = ((8 : Nat) : Int) from rfl, and_nat _ 8 (by omega) (by omega), and_8]
        cases bt (ub1 bs k) 3 <;> rfl
      have CU0 := CU wr k Q.rd
      have CU1 := fun W (r : RS q W p bs (k + 1)) => CU W (k + 1) r
      have HQ := Lib.hid Q
      have HJ := Lib.hid hj
      clear CU hrun l5 hj
      generalize ub1 bs (k + 1) = m at *
      generalize ub1 bs k = f at *
      obtain ⟨na, hna⟩ : ∃ na, na = acc.length := ⟨_, rfl⟩
      have HN := Lib.hid hna
      rw [← hna] at hlt nle hle ⊢
      clear hna
      have d1 : (na : Int) < (n : Int) := by omega
      cases hb : bt f 3
      · rw [hb] at e8
        simp only [Bool.false_eq_true, if_false] at e8
        have HR := Lib.hid (H0.out hb)
        clear H0 H1
        go_wp2_with (first | (go_at_call 60; ((with_reducible refine (CU0).mono ?_); rintro e w2 ⟨rfl, r2, o2⟩)))
        have hown2 : w2.ownsRow w.heap.size 3 1 (.slice A5 na c5) na (ints acc) := by
          have := own_only HQ.out.own o2 (fun b hb hm => by have := ownS_low HQ.out.own b hb; simp at hm; omega)
          rw [HN.out]; exact this
        have hq2 : Only w w2 [p] := HQ.out.on.trans o2 (fun b hb => .inl hb)
        go_loopw [5, 21] (fun v i wr => ∃ t : Nat, t ≤ 1 ∧ i = .int .i64 (t : Nat) ∧ wr.ownsRow w.heap.size 3 1 v (na + t) (ints (acc ++ List.replicate t f)) ∧ RS q wr p bs (k + 1) ∧ Only w wr [p]) (fun _ i _ => 1 - (intOf i).toNat)
        case atStart => exact ⟨0, by omega, rfl, by simpa using hown2, r2, hq2⟩
        case round =>
          clear hown2 r2 hq2 o2
          obtain ⟨t, ht, rfl, hown, rr, hon⟩ := hrel
          have hsz := hon.size
          by_cases htt : t < 1
          · have d3 : decide ((t : Int) < 1) = true := by simp; omega
            have HI := Lib.hid (show ints (acc ++ List.replicate (t + 1) f) = ints (acc ++ List.replicate t f) ++ [.int .i64 (f : Nat)] by rw [List.replicate_succ', ← List.append_assoc, ints_app]; rfl)
            go_wp2_with (at_builtin; refine wpList_append_src _ rfl (.tmp 23) (.tmp 25) 38 rfl w.heap.size 3 i0 (.int .i64 0) 1 8 Try.underlying38 hi hz0 hz1 hz2 rfl (by decide) _ (na + t) (ints (acc ++ List.replicate t f)) rfl (ownS_stay hown (below_a1 _ _)) (wr.heap.size + 1) (some ⟨wr.heap.size, 0, none⟩) 1 1 [.int .i64 (f : Nat)] (by rfl) (lists_row wr [.int .i64 (f : Nat)] 3) rfl (by simp [Value.oneCell']) (by simp only [maxLen]; omega) (by omega) (by simp; omega) ?_; intro v6 w6 own6 hg6 hat6)
            have hlow := ownS_low hown
            have og : Only _ w6 (blk u5) := (Only.refl _ (blk u5)).grown hg6 (fun b hb' => .inl (by have h9 : u5.ownBlock = some b := hb'; unfold blk; rw [h9]; simp))
            have o6 : Only w w6 [p] := (hon.alloc (.cells #[.int .i64 (f : Nat)] 3)).trans og (fun b hb => .inr (hlow b hb))
            have r6 := (rr.below (below_a1 wr (.cells #[.int .i64 (f : Nat)] 3))).only og (fun hm => by have := hlow p hm; omega) (fun b hb hqb => by have := hlow b hb; have := hq b hqb; omega)
            have own7 : w6.ownsRow w.heap.size 3 1 v6 (na + (t + 1)) (ints (acc ++ List.replicate (t + 1) f)) := by rw [HI.out, ← Nat.add_assoc]; exact own6
            go_roundw
            case rel => exact ⟨t + 1, by omega, by first | rfl | (go_num), own7, r6, o6⟩
            case measure => first | (simp [intOf]; done) | (simp [intOf]; omega)
          · have d3 : decide ((t : Int) < 1) = false := by simp; omega
            have htt2 : t = 1 := by omega
            rw [htt2] at hown
            have hlen : (acc ++ List.replicate (1) f).length = na + 1 := by rw [List.length_append, List.length_replicate, HN.out]
            have QN : FQ q w p bs n R (k + 1) (acc ++ List.replicate (1) f) u5 wr := ⟨rr, by rw [hlen]; exact hown, hon, by rw [hlen]; omega, j, by rw [hlen]; have := HJ.out; have := HN.out; omega, by exact HR.out⟩
            clear htt2
            obtain ⟨A9, c9, rfl, _, _⟩ := own_lists hown
            go_wp2
            go_roundw
            case rel => exact ⟨_, _, QN⟩
            case measure => simp [sLenS]; omega
      · rw [hb] at e8
        simp only [if_true] at e8
        have HR := Lib.hid (H1.out hb)
        clear H0 H1
        go_wp2_with (first | (go_at_call 60; ((with_reducible refine (CU0).mono ?_); rintro e w1 ⟨rfl, r1, o1⟩)) | (go_at_call 60; ((with_reducible refine (CU1 _ r1).mono ?_); rintro e w2 ⟨rfl, r2, o2⟩; have o2 := o1.trans o2 (fun b hb => .inl hb))))
        have hown2 : w2.ownsRow w.heap.size 3 1 (.slice A5 na c5) na (ints acc) := by
          have := own_only HQ.out.own o2 (fun b hb hm => by have := ownS_low HQ.out.own b hb; simp at hm; omega)
          rw [HN.out]; exact this
        have hq2 : Only w w2 [p] := HQ.out.on.trans o2 (fun b hb => .inl hb)
        go_loopw [5, 21] (fun v i wr => ∃ t : Nat, t ≤ (1 + m) ∧ i = .int .i64 (t : Nat) ∧ wr.ownsRow w.heap.size 3 1 v (na + t) (ints (acc ++ List.replicate t f)) ∧ RS q wr p bs (k + 1 + 1) ∧ Only w wr [p]) (fun _ i _ => (1 + m) - (intOf i).toNat)
        case atStart => exact ⟨0, by omega, rfl, by simpa using hown2, r2, hq2⟩
        case round =>
          clear hown2 r2 hq2 o2
          obtain ⟨t, ht, rfl, hown, rr, hon⟩ := hrel
          have hsz := hon.size
          by_cases htt : t < (1 + m)
          · have d3 : decide ((t : Int) < 1 + (m : Int)) = true := by simp; omega
            have HI := Lib.hid (show ints (acc ++ List.replicate (t + 1) f) = ints (acc ++ List.replicate t f) ++ [.int .i64 (f : Nat)] by rw [List.replicate_succ', ← List.append_assoc, ints_app]; rfl)
            go_wp2_with (at_builtin; refine wpList_append_src _ rfl (.tmp 23) (.tmp 25) 38 rfl w.heap.size 3 i0 (.int .i64 0) 1 8 Try.underlying38 hi hz0 hz1 hz2 rfl (by decide) _ (na + t) (ints (acc ++ List.replicate t f)) rfl (ownS_stay hown (below_a1 _ _)) (wr.heap.size + 1) (some ⟨wr.heap.size, 0, none⟩) 1 1 [.int .i64 (f : Nat)] (by rfl) (lists_row wr [.int .i64 (f : Nat)] 3) rfl (by simp [Value.oneCell']) (by simp only [maxLen]; omega) (by omega) (by simp; omega) ?_; intro v6 w6 own6 hg6 hat6)
            have hlow := ownS_low hown
            have og : Only _ w6 (blk u5) := (Only.refl _ (blk u5)).grown hg6 (fun b hb' => .inl (by have h9 : u5.ownBlock = some b := hb'; unfold blk; rw [h9]; simp))
            have o6 : Only w w6 [p] := (hon.alloc (.cells #[.int .i64 (f : Nat)] 3)).trans og (fun b hb => .inr (hlow b hb))
            have r6 := (rr.below (below_a1 wr (.cells #[.int .i64 (f : Nat)] 3))).only og (fun hm => by have := hlow p hm; omega) (fun b hb hqb => by have := hlow b hb; have := hq b hqb; omega)
            have own7 : w6.ownsRow w.heap.size 3 1 v6 (na + (t + 1)) (ints (acc ++ List.replicate (t + 1) f)) := by rw [HI.out, ← Nat.add_assoc]; exact own6
            go_roundw
            case rel => exact ⟨t + 1, by omega, by first | rfl | (go_num), own7, r6, o6⟩
            case measure => first | (simp [intOf]; done) | (simp [intOf]; omega)
          · have d3 : decide ((t : Int) < 1 + (m : Int)) = false := by simp; omega
            have htt2 : t = (1 + m) := by omega
            rw [htt2] at hown
            have hlen : (acc ++ List.replicate ((1 + m)) f).length = na + (1 + m) := by rw [List.length_append, List.length_replicate, HN.out]
            have QN : FQ q w p bs n R (k + 1 + 1) (acc ++ List.replicate ((1 + m)) f) u5 wr := ⟨rr, by rw [hlen]; exact hown, hon, by rw [hlen]; omega, j, by rw [hlen]; have := HJ.out; have := HN.out; omega, by exact HR.out⟩
            clear htt2
            obtain ⟨A9, c9, rfl, _, _⟩ := own_lists hown
            go_wp2
            go_roundw
            case rel => exact ⟨_, _, QN⟩
            case measure => simp [sLenS]; omega
    · have nle : n ≤ acc.length := by omega
      have d1 : ¬ (acc.length : Int) < (n : Int) := by omega
      obtain ⟨j, hj, hrun⟩ := Q.run
      have HR : Hid (R = (acc, k)) := Lib.hid (hrun.symm.trans (flgC_done nle))
      have HQ := Lib.hid Q
      clear l5 hrun hj
      obtain ⟨na, hna⟩ : ∃ na, na = acc.length := ⟨_, rfl⟩
      have HN := Lib.hid hna
      rw [← hna] at d1 hle ⊢
      clear hna
      go_wp2
      refine bodyPost_ret (results_tmp rfl _ _ _) rfl ⟨_, rfl, ?_, ?_, HQ.out.on, ?_⟩
      · rw [HR.out]; have := HQ.out.own; rw [HN.out]; exact this
      · rw [HR.out]; exact HQ.out.rd
      · rw [HR.out]; exact HQ.out.le
end Go.Proofs.Ytelhckckcilpaaa
