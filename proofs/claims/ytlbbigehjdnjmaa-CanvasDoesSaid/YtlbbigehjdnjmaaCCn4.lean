/- Part 5 of the proof: MetM, Ws, Rn, Rs, From, Into, Carr, Nums, Free, Eith, Fat. -/
import Derived.Shelf.Abstract
import Derived.Test.YtlbbigehjdnjmaaCCn3

namespace Go.Proofs.Ytlbbigehjdnjmaa
open Go Go.RowKit

/-- A byte's number. -/
def nb : Value → Nat
  | .int _ x => x.toNat
  | _ => 0
def byteAt (bs : List Value) (i : Nat) : Nat := nb (bs.getD i (.int .u8 0))
def rd2 (bs : List Value) (i : Nat) : Nat := byteAt bs i * 256 + byteAt bs (i + 1)
def rd4 (bs : List Value) (i : Nat) : Nat := ((byteAt bs i * 256 + byteAt bs (i + 1)) * 256 + byteAt bs (i + 2)) * 256 + byteAt bs (i + 3)
/-- A number of two bytes with its sign. -/
def s16 (x : Nat) : Int := if x < 32768 then (x : Int) else (x : Int) - 65536

theorem byteAt_lt {bs : List Value} (h : Bytes8 bs) (i : Nat) : byteAt bs i < 256 := by
  unfold byteAt
  rcases Nat.lt_or_ge i bs.length with hi | hi
  · obtain ⟨x, hx, he⟩ := h bs[i] (List.getElem_mem hi)
    rw [List.getD_eq_getElem?_getD, List.getElem?_eq_getElem hi, Option.getD_some, he]
    simp [nb]; exact hx
  · rw [List.getD_eq_getElem?_getD, List.getElem?_eq_none hi, Option.getD_none]
    simp [nb]
theorem byteAt_get {bs : List Value} (h : Bytes8 bs) {i : Nat} (hi : i < bs.length) : bs[i]? = some (.int .u8 (byteAt bs i : Nat)) := by
  obtain ⟨x, hx, he⟩ := h bs[i] (List.getElem_mem hi)
  rw [List.getElem?_eq_getElem hi, he]
  unfold byteAt
  rw [List.getD_eq_getElem?_getD, List.getElem?_eq_getElem hi, Option.getD_some, he]
  simp [nb]
theorem rd2_lt {bs : List Value} (h : Bytes8 bs) (i : Nat) : rd2 bs i < 65536 := by
  have := byteAt_lt h i; have := byteAt_lt h (i + 1); unfold rd2; omega
theorem rd4_lt {bs : List Value} (h : Bytes8 bs) (i : Nat) : rd4 bs i < 4294967296 := by
  have := byteAt_lt h i; have := byteAt_lt h (i + 1); have := byteAt_lt h (i + 2); have := byteAt_lt h (i + 3); unfold rd4; omega
theorem byteAt_append_left {a b : List Value} {i : Nat} (h : i < a.length) : byteAt (a ++ b) i = byteAt a i := by
  unfold byteAt; rw [List.getD_eq_getElem?_getD, List.getD_eq_getElem?_getD, List.getElem?_append_left h]
theorem byteAt_append_right {a b : List Value} (i : Nat) : byteAt (a ++ b) (a.length + i) = byteAt b i := by
  unfold byteAt; rw [List.getD_eq_getElem?_getD, List.getD_eq_getElem?_getD, List.getElem?_append_right (by omega)]; simp
theorem byteAt_take {a : List Value} {i n : Nat} (h : i < n) : byteAt (a.take n) i = byteAt a i := by
  unfold byteAt; rw [List.getD_eq_getElem?_getD, List.getD_eq_getElem?_getD, List.getElem?_take, if_pos h]
theorem rd2_take {a : List Value} {i n : Nat} (h : i + 1 < n) : rd2 (a.take n) i = rd2 a i := by
  unfold rd2; rw [byteAt_take (by omega), byteAt_take h]
theorem rd4_take {a : List Value} {i n : Nat} (h : i + 3 < n) : rd4 (a.take n) i = rd4 a i := by
  unfold rd4; rw [byteAt_take (by omega), byteAt_take (by omega), byteAt_take (by omega), byteAt_take h]
theorem rd2_right {a b : List Value} (i j : Nat) (h : j = a.length + i) : rd2 (a ++ b) j = rd2 b i := by
  subst h; unfold rd2; rw [byteAt_append_right, Nat.add_assoc, byteAt_append_right]
theorem rd4_right {a b : List Value} (i j : Nat) (h : j = a.length + i) : rd4 (a ++ b) j = rd4 b i := by
  subst h; unfold rd4; rw [byteAt_append_right, Nat.add_assoc, byteAt_append_right, Nat.add_assoc, byteAt_append_right, Nat.add_assoc, byteAt_append_right]
theorem rd2_be2 (x : Int) (b : List Value) : (rd2 (be2 x ++ b) 0 : Int) = x % 65536 := by
  have e : rd2 (be2 x ++ b) 0 = (x / 256 % 256).toNat * 256 + (x % 256).toNat := rfl
  rw [e]; omega
theorem rd4_be4 (x : Int) (b : List Value) : (rd4 (be4 x ++ b) 0 : Int) = x % 4294967296 := by
  have e : rd4 (be4 x ++ b) 0 = (((x / 16777216 % 256).toNat * 256 + (x / 65536 % 256).toNat) * 256 + (x / 256 % 256).toNat) * 256 + (x % 256).toNat := rfl
  rw [e]; omega
theorem s16_of (n : Nat) (x : Int) (h : (n : Int) = x % 65536) (h1 : -32768 ≤ x) (h2 : x ≤ 32767) : s16 n = x := by
  unfold s16; split <;> omega

/-- Where the numbers of glyph k begin, m glyphs having an advance. -/
def posM (m k : Nat) : Nat := 2 * min k m + 2 * k
def bearPos (m k : Nat) : Nat := posM m k + if k < m then 2 else 0
def advAt (bs : List Value) (m k : Nat) : Int := (rd2 bs (posM m k) : Nat)
def bearAt (bs : List Value) (m k : Nat) : Int := s16 (rd2 bs (bearPos m k))
/-- Glyph k's metric. -/
def metAt (bs : List Value) (m k : Nat) : Int × Int := (advAt bs m (min k (m - 1)), bearAt bs m k)
theorem posM_succ (m k : Nat) : posM m (k + 1) = bearPos m k + 2 := by unfold posM bearPos posM; split <;> omega

/-- The bytes of metrics. -/
def putM : List (Int × Int) → Nat → List Value
  | [], _ => []
  | (a, b) :: r, m + 1 => be2 a ++ be2 b ++ putM r m
  | (_, b) :: r, 0 => be2 b ++ putM r 0
theorem putM_snoc : ∀ (l : List (Int × Int)) (m : Nat) (a b : Int), putM (l ++ [(a, b)]) m = putM l m ++ (if l.length < m then be2 a ++ be2 b else be2 b)
  | [], 0, a, b => by simp [putM]
  | [], m + 1, a, b => by simp [putM]
  | (x, y) :: r, 0, a, b => by simp [putM, putM_snoc r 0 a b]
  | (x, y) :: r, m + 1, a, b => by simp [putM, putM_snoc r m a b]
theorem putM_len : ∀ (l : List (Int × Int)) (m : Nat), (putM l m).length = posM m l.length
  | [], _ => by simp [putM, posM]
  | (x, y) :: r, 0 => by simp [putM, putM_len r 0, be2, posM]; omega
  | (x, y) :: r, m + 1 => by simp [putM, putM_len r m, be2, posM]; omega
theorem putM_bytes : ∀ (l : List (Int × Int)) (m : Nat), Bytes8 (putM l m)
  | [], _ => fun _ h => (nomatch h)
  | (_, y) :: r, 0 => (be2_bytes y).append (putM_bytes r 0)
  | (x, y) :: r, m + 1 => ((be2_bytes x).append (be2_bytes y)).append (putM_bytes r m)

theorem putM_adv : ∀ (l : List (Int × Int)) (m k : Nat) (X : List Value) (a b : Int), l[k]? = some (a, b) → k < m → advAt (putM l m ++ X) m k = a % 65536
  | [], m, k, X, a, b, h, _ => by simp at h
  | (x, y) :: r, 0, k, X, a, b, h, hk => by omega
  | (x, y) :: r, m + 1, 0, X, a, b, h, _ => by
    simp at h
    obtain ⟨rfl, rfl⟩ := h
    unfold advAt
    rw [show posM (m + 1) 0 = 0 by simp [posM]]
    simp only [putM, List.append_assoc]
    exact rd2_be2 _ _
  | (x, y) :: r, m + 1, k + 1, X, a, b, h, hk => by
    have ih := putM_adv r m k X a b (by simpa using h) (by omega)
    unfold advAt at *
    simp only [putM, List.append_assoc]
    rw [← List.append_assoc, rd2_right (posM m k) _ (by simp [be2, posM]; omega)]
    exact ih
theorem putM_bear : ∀ (l : List (Int × Int)) (m k : Nat) (X : List Value) (a b : Int), l[k]? = some (a, b) → (rd2 (putM l m ++ X) (bearPos m k) : Int) = b % 65536
  | [], m, k, X, a, b, h => by simp at h
  | (x, y) :: r, 0, 0, X, a, b, h => by
    simp at h
    obtain ⟨rfl, rfl⟩ := h
    rw [show bearPos 0 0 = 0 by simp [bearPos, posM]]
    simp only [putM, List.append_assoc]
    exact rd2_be2 _ _
  | (x, y) :: r, m + 1, 0, X, a, b, h => by
    simp at h
    obtain ⟨rfl, rfl⟩ := h
    simp only [putM, List.append_assoc]
    rw [rd2_right 0 _ (by simp [bearPos, posM, be2])]
    exact rd2_be2 _ _
  | (x, y) :: r, 0, k + 1, X, a, b, h => by
    have ih := putM_bear r 0 k X a b (by simpa using h)
    simp only [putM, List.append_assoc]
    rw [rd2_right (bearPos 0 k) _ (by simp [be2, bearPos, posM]; omega)]
    exact ih
  | (x, y) :: r, m + 1, k + 1, X, a, b, h => by
    have ih := putM_bear r m k X a b (by simpa using h)
    simp only [putM, List.append_assoc]
    rw [← List.append_assoc, rd2_right (bearPos m k) _ (by simp only [be2, bearPos, posM, List.length_append, List.length_cons, List.length_nil]; split <;> split <;> omega)]
    exact ih

/-- Metrics that may be put: m have an advance of their own. -/
def okMet (q : Int × Int) : Bool := decide (0 ≤ q.1) && decide (q.1 ≤ 65535) && decide (-32768 ≤ q.2) && decide (q.2 ≤ 32767)
def lastAdv (l : List (Int × Int)) (m : Nat) : Int := (l.getD (m - 1) (0, 0)).1
def mayPut (l : List (Int × Int)) (m : Nat) : Bool := l.all okMet && (l.drop m).all fun q => q.1 == lastAdv l m
/-- What was put is read again. -/
theorem met_back (l : List (Int × Int)) (m k : Nat) (X : List Value) (q : Int × Int) (hm : 1 ≤ m) (hml : m ≤ l.length) (hp : mayPut l m = true) (hk : l[k]? = some q) : metAt (putM l m ++ X) m k = q := by
  obtain ⟨a, b⟩ := q
  unfold mayPut at hp
  rw [Bool.and_eq_true, List.all_eq_true, List.all_eq_true] at hp
  obtain ⟨h1, h2⟩ := hp
  have ok : ∀ j (p : Int × Int), l[j]? = some p → 0 ≤ p.1 ∧ p.1 ≤ 65535 ∧ -32768 ≤ p.2 ∧ p.2 ≤ 32767 := fun j p hj => by
    have := h1 p (List.mem_of_getElem? hj)
    simp only [okMet, Bool.and_eq_true, decide_eq_true_eq] at this
    omega
  have hb := ok k _ hk
  have e2 : bearAt (putM l m ++ X) m k = b := s16_of _ _ (putM_bear l m k X a b hk) hb.2.2.1 hb.2.2.2
  have e1 : advAt (putM l m ++ X) m (min k (m - 1)) = a := by
    rcases Nat.lt_or_ge k m with hkm | hkm
    · rw [show min k (m - 1) = k by omega, putM_adv l m k X a b hk hkm]
      simp only at hb; omega
    · rw [show min k (m - 1) = m - 1 by omega]
      obtain ⟨⟨a', b'⟩, hp'⟩ : ∃ p, l[m - 1]? = some p := ⟨l[m - 1]'(by omega), List.getElem?_eq_getElem _⟩
      rw [putM_adv l m (m - 1) X a' b' hp' (by omega)]
      have h3 := h2 (a, b) (List.mem_iff_getElem?.2 ⟨k - m, by rw [List.getElem?_drop, show m + (k - m) = k by omega]; exact hk⟩)
      unfold lastAdv at h3
      rw [List.getD_eq_getElem?_getD, hp', Option.getD_some] at h3
      have h3 : a = a' := by simpa using h3
      have := ok _ _ hp'
      simp only at this
      omega
  unfold metAt
  rw [e1, e2]

/-- Places as bytes. -/
def beP (long : Bool) (x : Int) : List Value := if long then be4 x else be2 (x / 2)
def putP (long : Bool) : List Int → List Value
  | [] => []
  | x :: r => beP long x ++ putP long r
def szP (long : Bool) : Nat := if long then 4 else 2
def offAt (long : Bool) (bs : List Value) (k : Nat) : Nat := if long then rd4 bs (k * 4) else 2 * rd2 bs (k * 2)
theorem beP_len (long : Bool) (x : Int) : (beP long x).length = szP long := by cases long <;> rfl
theorem beP_bytes (long : Bool) (x : Int) : Bytes8 (beP long x) := by
  cases long
  · exact be2_bytes _
  · exact be4_bytes _
theorem putP_snoc (long : Bool) (x : Int) : ∀ l, putP long (l ++ [x]) = putP long l ++ beP long x
  | [] => by simp [putP]
  | y :: r => by simp [putP, putP_snoc long x r]
theorem putP_len (long : Bool) : ∀ l, (putP long l).length = l.length * szP long
  | [] => by simp [putP]
  | y :: r => by simp only [putP, List.length_append, beP_len, putP_len long r, List.length_cons]; rw [Nat.succ_mul]; omega
theorem putP_bytes (long : Bool) : ∀ l, Bytes8 (putP long l)
  | [] => fun _ h => (nomatch h)
  | y :: r => (beP_bytes long y).append (putP_bytes long r)
def okOff (long : Bool) (x : Int) : Bool := long || (x % 2 == 0 && decide (x ≤ 131070))
/-- Offsets do not fall, are from last, and none above most. -/
def rises (most : Int) : Int → List Int → Bool
  | _, [] => true
  | last, x :: r => decide (last ≤ x) && decide (x ≤ most) && rises most x r
theorem rises_snoc (most : Int) : ∀ (last : Int) (l : List Int) (x : Int), rises most last (l ++ [x]) = (rises most last l && (decide (l.getLastD last ≤ x) && decide (x ≤ most)))
  | last, [], x => by simp [rises]
  | last, y :: r, x => by
    simp only [List.cons_append, rises, rises_snoc most y r x]
    rw [show (y :: r).getLastD last = r.getLastD y by cases r <;> simp [List.getLastD]]
    simp only [Bool.and_assoc]
theorem rises_ge (most : Int) : ∀ (l : List Int) (last : Int), rises most last l = true → ∀ x ∈ l, last ≤ x ∧ x ≤ most
  | [], _, _, x, hx => (nomatch hx)
  | y :: r, last, h, x, hx => by
    simp only [rises, Bool.and_eq_true, decide_eq_true_eq] at h
    rcases List.mem_cons.1 hx with rfl | hx
    · omega
    · have := rises_ge most r y h.2 x hx
      omega
theorem off_back (long : Bool) : ∀ (l : List Int) (k : Nat) (X : List Value) (x : Int), (∀ y ∈ l, 0 ≤ y ∧ y ≤ 1048576 ∧ okOff long y = true) → l[k]? = some x → (offAt long (putP long l ++ X) k : Int) = x
  | [], k, X, x, _, h => by simp at h
  | y :: r, 0, X, x, hl, h => by
    simp at h
    subst h
    have := hl y (by simp)
    cases long
    · simp only [offAt, putP, beP, List.append_assoc, okOff, Bool.false_or, Bool.and_eq_true, decide_eq_true_eq, beq_iff_eq] at *
      have e := rd2_be2 (y / 2) (putP false r ++ X)
      simp only [Bool.false_eq_true, if_false, Nat.zero_mul]
      omega
    · simp only [offAt, putP, beP, List.append_assoc] at *
      have e := rd4_be4 y (putP true r ++ X)
      simp only [if_true, Nat.zero_mul]
      omega
  | y :: r, k + 1, X, x, hl, h => by
    have ih := off_back long r k X x (fun z hz => hl z (by simp [hz])) (by simpa using h)
    rw [← ih]
    cases long
    · simp only [offAt, putP, List.append_assoc, Bool.false_eq_true, if_false]
      rw [rd2_right (k * 2) _ (by rw [beP_len]; simp only [szP, Bool.false_eq_true, if_false]; omega)]
    · simp only [offAt, putP, List.append_assoc, if_true]
      rw [rd4_right (k * 4) _ (by rw [beP_len]; simp only [szP, if_true]; omega)]

end Go.Proofs.Ytlbbigehjdnjmaa

namespace Go.Proofs.Ytlbbigehjdnjmaa
open Go Go.RowKit

theorem own_base {w : World} {base base1 : Nat} {e : TypeId} {size n : Nat} {v : Value} {xs : List Value} (h : w.ownsRow base e size v n xs) (hb : base1 ≤ base) : w.ownsRow base1 e size v n xs :=
  ⟨h.1, h.2.imp id fun ⟨g, cap, cur, h1, h2, h3⟩ => ⟨g, cap, cur, h1, Nat.le_trans hb h2, h3⟩⟩

end Go.Proofs.Ytlbbigehjdnjmaa

namespace Go.Proofs.Ytlbbigehjdnjmaa
open Go Go.RowKit

variable {q : Nat → Prop}
theorem s16_wrap (x : Nat) (h : x < 65536) : wrap64 (IntKind.i16.wrap (x : Int)) = s16 x := by
  have e : IntKind.i16.wrap (x : Int) = s16 x := by
    unfold s16
    by_cases h1 : x < 32768
    · rw [if_pos h1]; exact IntWalk.i16_in _ (by omega)
    · rw [if_neg h1]
      have h2 : (x : Int) % 65536 = x := by omega
      simp only [IntKind.wrap, IntKind.bits, IntKind.signed, Bool.true_and]
      have h3 : (if decide ((x : Int) % 65536 ≥ 32768) = true then (x : Int) % 65536 - 65536 else (x : Int) % 65536) = (x : Int) - 65536 := by rw [h2, if_pos (by simp; omega)]
      exact h3
  rw [e]
  unfold wrap64 s16
  split <;> omega
end Go.Proofs.Ytlbbigehjdnjmaa

namespace Go.Proofs.Ytlbbigehjdnjmaa
open Go Go.RowKit

variable {q : Nat → Prop}
/-- The number of m bytes at k: 0 where they are not all there. -/
def rsn (bs : List Value) (m k : Nat) (x : Nat) : Nat := if k + m ≤ bs.length then x else 0
theorem rsn_lt {bs : List Value} {m k x B : Nat} (h : x < B) : rsn bs m k x < B := by unfold rsn; split <;> omega
end Go.Proofs.Ytlbbigehjdnjmaa

namespace Go.Proofs.Ytlbbigehjdnjmaa
open Go Go.RowKit

variable {q : Nat → Prop}
/-- How many bytes a number of a kind has. -/
def wid : Nat → Nat
  | 0 => 1
  | 3 => 4
  | _ => 2
/-- The number of a kind that is read at k. -/
def rdk (bs : List Value) (kd k : Nat) : Int :=
  match kd with
  | 0 => (rsn bs 1 k (byteAt bs k) : Nat)
  | 1 => (rsn bs 2 k (rd2 bs k) : Nat)
  | 2 => s16 (rsn bs 2 k (rd2 bs k))
  | _ => (rsn bs 4 k (rd4 bs k) : Nat)
end Go.Proofs.Ytlbbigehjdnjmaa

namespace Go.Proofs.Ytlbbigehjdnjmaa
open Go Go.RowKit

/-- The bytes of a number of a kind. -/
def bek (kd : Nat) (x : Int) : List Value :=
  match kd with
  | 0 => be1 x
  | 3 => be4 x
  | _ => be2 x
theorem bek_length (kd : Nat) (hk : kd < 4) (x : Int) : (bek kd x).length = wid kd := by
  rcases kd with _ | _ | _ | _ | kd
  · rfl
  · rfl
  · rfl
  · rfl
  · omega
end Go.Proofs.Ytlbbigehjdnjmaa

namespace Go.Proofs.Ytlbbigehjdnjmaa
open Go Go.RowKit

theorem blk_ne {w : World} {b p : Nat} {T T1 : TypeId} {cs cs1 : Array Value} (h : Blk w b T cs) (k : Blk w p T1 cs1) (hT : T ≠ T1) : b ≠ p := by
  rintro rfl
  unfold Blk at h k
  rw [h] at k
  injection k with k
  injection k with _ e
  exact hT e
theorem set_same {cs : Array Value} {o : Nat} {v : Value} (h : cs[o]? = some v) : cs.setIfInBounds o v = cs := by
  apply Array.ext_getElem?
  intro i
  rw [Array.getElem?_setIfInBounds]
  by_cases hi : o = i
  · subst hi
    rw [if_pos rfl, h]
    have : o < cs.size := by
      rcases Nat.lt_or_ge o cs.size with h1 | h1
      · exact h1
      · rw [Array.getElem?_eq_none h1] at h; cases h
    rw [if_pos this]
  · rw [if_neg hi]
end Go.Proofs.Ytlbbigehjdnjmaa

namespace Go.Proofs.Ytlbbigehjdnjmaa
open Go Go.RowKit

/-- The number at a place. -/
def intAt (cs : Array Value) (o : Nat) : Int :=
  match cs[o]? with
  | some (.int _ x) => x
  | _ => 0
def Ints (cs : Array Value) (os : List Nat) : Prop := ∀ o ∈ os, ∃ x, cs[o]? = some (.int .i64 x)
theorem Ints.at {cs : Array Value} {os : List Nat} (h : Ints cs os) {o : Nat} (ho : o ∈ os) : cs[o]? = some (.int .i64 (intAt cs o)) := by
  obtain ⟨x, hx⟩ := h o ho
  unfold intAt
  rw [hx]
theorem Ints.set {cs : Array Value} {os : List Nat} (h : Ints cs os) (o : Nat) (v : Int) : Ints (cs.setIfInBounds o (.int .i64 v)) os := by
  intro o1 h1
  obtain ⟨x, hx⟩ := h o1 h1
  rw [Array.getElem?_setIfInBounds]
  by_cases he : o = o1
  · subst he
    have : o < cs.size := by
      rcases Nat.lt_or_ge o cs.size with h2 | h2
      · exact h2
      · rw [Array.getElem?_eq_none h2] at hx; cases hx
    rw [if_pos rfl, if_pos this]
    exact ⟨v, rfl⟩
  · rw [if_neg he]
    exact ⟨x, hx⟩

section
variable {σ : Type}
/-- What a field of numbers comes to. -/
def numRun (step : Nat → σ → Int → σ) (val : Nat → σ → Int → Int) (kd : Nat) (la lb2 : Int) : List Nat → σ → Array Value → Bool → Bool × σ × Array Value
  | [], s, cs, m => (m, s, cs)
  | o :: os, s, cs, m =>
    let v := val kd s (intAt cs o)
    numRun step val kd la lb2 os (step kd s (intAt cs o)) (cs.setIfInBounds o (.int .i64 v)) ((m && decide (la ≤ v)) && decide (v ≤ lb2))
theorem numRun_nil (step : Nat → σ → Int → σ) (val : Nat → σ → Int → Int) (kd : Nat) (la lb2 : Int) (s : σ) (cs : Array Value) (m : Bool) : numRun step val kd la lb2 [] s cs m = (m, s, cs) := rfl
theorem numRun_cons (step : Nat → σ → Int → σ) (val : Nat → σ → Int → Int) (kd : Nat) (la lb2 : Int) (o : Nat) (os : List Nat) (s : σ) (cs : Array Value) (m : Bool) :
    numRun step val kd la lb2 (o :: os) s cs m = numRun step val kd la lb2 os (step kd s (intAt cs o)) (cs.setIfInBounds o (.int .i64 (val kd s (intAt cs o)))) ((m && decide (la ≤ val kd s (intAt cs o))) && decide (val kd s (intAt cs o) ≤ lb2)) := rfl
def ptrs (X : Nat) (os : List Nat) : Array Value := (os.map fun o => Value.pointer (some ⟨X, o, none⟩)).toArray

variable {gc : FuncId} {lbc : Array Value} {I : σ → World → Prop} {Ok : Nat → Prop} {len : σ → Nat} {R : Nat} {step : Nat → σ → Int → σ} {val : Nat → σ → Int → Int}
end

end Go.Proofs.Ytlbbigehjdnjmaa

namespace Go.Proofs.Ytlbbigehjdnjmaa
open Go Go.RowKit

section
variable {σ : Type} {gc : FuncId} {lbc : Array Value} {I : σ → World → Prop} {Ok : Nat → Prop} {len : σ → Nat} {R : Nat} {step : Nat → σ → Int → σ} {val : Nat → σ → Int → Int}

/-- What free bytes come to. -/
def freeRun (step : Nat → σ → Int → σ) : Nat → σ → σ
  | 0, s => s
  | n + 1, s => freeRun step n (step 0 s 0)
theorem freeRun_succ (step : Nat → σ → Int → σ) (n : Nat) (s : σ) : freeRun step (n + 1) s = freeRun step n (step 0 s 0) := rfl

end

end Go.Proofs.Ytlbbigehjdnjmaa

namespace Go.Proofs.Ytlbbigehjdnjmaa
open Go Go.RowKit

section
variable {σ : Type} {gc : FuncId} {lbc : Array Value} {I : σ → World → Prop} {Ok : Nat → Prop} {len : σ → Nat} {R : Nat} {step : Nat → σ → Int → σ} {val : Nat → σ → Int → Int}

/-- What a flag comes to, where x is put. -/
def eithRun (step : Nat → σ → Int → σ) (val : Nat → σ → Int → Int) (kd : Nat) (no yes : Int) (o : Nat) (x : Int) (s : σ) (cs : Array Value) : Bool × σ × Array Value :=
  ((val kd s x == no) || (val kd s x == yes), step kd s x, cs.setIfInBounds o (.bool (val kd s x == yes)))

/-- What a field beside a flag comes to, where the field is free. -/
def condRun (step : Nat → σ → Int → σ) (f : Bool) (n : Nat) (s : σ) (cs : Array Value) : Bool × σ × Array Value := (true, if f then freeRun step n s else s, cs)
end

end Go.Proofs.Ytlbbigehjdnjmaa

namespace Go.Proofs.Ytlbbigehjdnjmaa
open Go Go.RowKit

inductive FD where
  | nums (kd : Nat) (la lb : Int) (os : List Nat)
  | just (kd : Nat) (x : Int)
  | free (n : Nat)
  | eith (kd : Nat) (no yes : Int) (o : Nat)
  | cond (o n : Nat)

section
variable {σ : Type} {gc : FuncId} {lbc : Array Value} {I : σ → World → Prop} {Ok : Nat → Prop} {len : σ → Nat} {R : Nat} {step : Nat → σ → Int → σ} {val : Nat → σ → Int → Int}

def boolAt (cs : Array Value) (o : Nat) : Bool :=
  match cs[o]? with
  | some (.bool f) => f
  | _ => false
/-- What a field comes to. -/
def fdRun (step : Nat → σ → Int → σ) (val : Nat → σ → Int → Int) (s : σ) (cs : Array Value) : FD → Bool × σ × Array Value
  | .nums kd la lb os => numRun step val kd la lb os s cs true
  | .just kd x => (decide (x ≤ val kd s x) && decide (val kd s x ≤ x), step kd s x, cs)
  | .free n => (true, freeRun step n s, cs)
  | .eith kd no yes o => eithRun step val kd no yes o (if boolAt cs o then yes else no) s cs
  | .cond o n => condRun step (boolAt cs o) n s cs
def fdLen : FD → Nat
  | .nums kd _ _ os => wid kd * os.length
  | .just kd _ => wid kd
  | .free n => n
  | .eith kd _ _ _ => wid kd
  | .cond _ n => n
/-- The shape of a struct: its numbers and its flags. -/
def Sh (is bs : List Nat) (cs : Array Value) : Prop := Ints cs is ∧ ∀ o ∈ bs, ∃ f, cs[o]? = some (.bool f)
def fdOk (is bs : List Nat) : FD → Prop
  | .nums kd _ _ os => kd < 4 ∧ (∀ o ∈ os, o ∈ is) ∧ os.length ≤ 1099511627776
  | .just kd _ => kd < 4
  | .free n => n ≤ 1099511627776
  | .eith kd _ _ o => kd < 4 ∧ o ∈ bs
  | .cond o n => o ∈ bs ∧ n ≤ 1099511627776
theorem Sh.flag {is bs : List Nat} {cs : Array Value} (h : Sh is bs cs) {o : Nat} (ho : o ∈ bs) : cs[o]? = some (.bool (boolAt cs o)) := by
  obtain ⟨f, hf⟩ := h.2 o ho
  unfold boolAt
  rw [hf]
theorem get_set {cs : Array Value} {o o1 : Nat} {v : Value} (h : o ≠ o1) : (cs.setIfInBounds o v)[o1]? = cs[o1]? := by rw [Array.getElem?_setIfInBounds, if_neg h]
theorem Sh.int {is bs : List Nat} {cs : Array Value} (h : Sh is bs cs) {o : Nat} (ho : o ∈ is) (hd : ∀ o ∈ is, o ∉ bs) (v : Int) : Sh is bs (cs.setIfInBounds o (.int .i64 v)) :=
  ⟨h.1.set o v, fun o1 h1 => by rw [get_set (by rintro rfl; exact hd _ ho h1)]; exact h.2 o1 h1⟩
theorem Sh.num {is bs : List Nat} (hd : ∀ o ∈ is, o ∉ bs) (kd : Nat) (la lb : Int) : ∀ (os : List Nat) (s : σ) (cs : Array Value) (m : Bool), (∀ o ∈ os, o ∈ is) → Sh is bs cs → Sh is bs (numRun step val kd la lb os s cs m).2.2
  | [], s, cs, m, _, h => h
  | o :: os, s, cs, m, ho, h => by
    rw [numRun_cons]
    exact Sh.num hd kd la lb os _ _ _ (fun x hx => ho x (by simp [hx])) (h.int (ho o (by simp)) hd _)
theorem Sh.run {is bs : List Nat} {cs : Array Value} {s : σ} {d : FD} (h : Sh is bs cs) (hd : ∀ o ∈ is, o ∉ bs) (hk : fdOk is bs d) : Sh is bs (fdRun step val s cs d).2.2 := by
  cases d with
  | nums kd la lb os => exact Sh.num hd kd la lb os s cs true hk.2.1 h
  | just kd x => exact h
  | free n => exact h
  | eith kd no yes o =>
    refine ⟨fun o1 h1 => ?_, fun o1 h1 => ?_⟩
    · show ∃ x, (cs.setIfInBounds o (.bool _))[o1]? = _
      rw [get_set (by rintro rfl; exact hd _ h1 hk.2)]
      exact h.1 o1 h1
    · show ∃ f, (cs.setIfInBounds o (.bool _))[o1]? = _
      by_cases he : o = o1
      · subst he
        obtain ⟨f, hf⟩ := h.2 o h1
        have : o < cs.size := by
          rcases Nat.lt_or_ge o cs.size with h2 | h2
          · exact h2
          · rw [Array.getElem?_eq_none h2] at hf; cases hf
        rw [Array.getElem?_setIfInBounds, if_pos rfl, if_pos this]
        exact ⟨_, rfl⟩
      · rw [get_set he]
        exact h.2 o1 h1
  | cond o n => exact h
end

end Go.Proofs.Ytlbbigehjdnjmaa
