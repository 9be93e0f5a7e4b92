/- Part 1 of the proof: Num, Fix1, Know, Mem, Sep, Bytes, Plan, Rd1. -/
import Derived.WalkKit
import Derived.Test.YtelhckckcilpaaaRows
import Derived.BigQuiet
import Derived.WalkSmall
import Derived.Deep.QuietTactic
import Derived.Maps.AppendAt
import Derived.Deep.AppendLies
import Derived.Laws.OwnMore
import Derived.OwnWalk
import Derived.Laws.Rows
import Derived.Lib.Hide

namespace Go.Proofs.Ytelhckckcilpaaa

/-- may a number be? -/
def mayB (x : Int) : Bool := decide (-2147483648 ≤ x) && decide (x ≤ 2147483648)

/-- the nearest whole number to a quotient -/
def near (a b : Int) : Int := if b < 0 then (2 * (-a) + (-b)) / (2 * (-b)) else (2 * a + b) / (2 * b)

theorem div_unique {a b q : Int} (h1 : b * q ≤ a) (h2 : a < b * q + b) : a / b = q := by
  have hb : 0 < b := by omega
  have h3 : a = b * q + (a - b * q) := by omega
  rw [h3, Int.add_comm, Int.add_mul_ediv_left _ _ (by omega : b ≠ 0), Int.ediv_eq_zero_of_lt (by omega) (by omega)]
  omega

theorem tdiv_floor {a b : Int} (hb : 0 < b) (ha : a < 0) (hm : ¬ a % b = 0) : a.tdiv b - 1 = a / b ∧ ¬ a.tmod b = 0 ∧ a.tdiv b ≤ 0 ∧ a < a.tdiv b  := by
  have hd : ¬ b ∣ a := fun h => hm (Int.emod_eq_zero_of_dvd h)
  have e := @Int.tdiv_eq_ediv a b
  rw [if_neg (by intro h; rcases h with h | h; omega; exact hd h), Int.sign_eq_one_of_pos hb] at e
  have h4 : a / b < 0 := Int.ediv_neg_of_neg_of_pos ha hb
  have h5 : a ≤ a / b := Int.le_ediv_of_mul_le hb (by have := Int.mul_le_mul_of_nonpos_left (a := a) (b := b) (c := 1) (by omega) (by omega); omega)
  exact ⟨by omega, fun h => hd (Int.dvd_of_tmod_eq_zero h), by omega, by omega⟩
theorem tdiv_whole {a b : Int} (hm : a % b = 0) : a.tdiv b = a / b ∧ a.tmod b = 0 := by
  have hd : b ∣ a := Int.dvd_of_emod_eq_zero hm
  have e := @Int.tdiv_eq_ediv a b
  rw [if_pos (.inr hd)] at e
  exact ⟨by omega, Int.tmod_eq_zero_of_dvd hd⟩

theorem near_pos {a b q : Int} (hb : 0 < b) (h1 : 2 * (b * q) ≤ 2 * a + b) (h2 : 2 * a + b < 2 * (b * q) + 2 * b) : near a b = q := by
  unfold near; rw [if_neg (by omega)]
  exact div_unique (by rw [Int.mul_assoc]; exact h1) (by rw [Int.mul_assoc]; exact h2)

theorem near_neg {a b q : Int} (hb : b < 0) (h1 : 2 * (b * q) ≥ 2 * a + b) (h2 : 2 * a + b > 2 * (b * q) + 2 * b) : near a b = q := by
  unfold near; rw [if_pos hb]
  exact div_unique (by rw [Int.mul_assoc, Int.neg_mul]; omega) (by rw [Int.mul_assoc, Int.neg_mul]; omega)

theorem near_same {a b n d : Int} (hn : max a (-a) = n) (hd : max b (-b) = d) (h0 : 0 < d) (hs : (!decide (a < 0) == decide (b < 0)) = false) :
    near a b = n / d + if d ≤ 2 * (n % d) then 1 else 0 := by
  have e := Int.mul_ediv_add_emod n d
  have r0 : 0 ≤ n % d := Int.emod_nonneg n (by omega)
  have r1 : n % d < d := Int.emod_lt_of_pos n h0
  by_cases hb : b < 0
  · have ha : a < 0 := by simp [hb] at hs; exact hs
    obtain rfl : b = -d := by omega
    obtain rfl : a = -n := by omega
    clear hn hd hs
    apply near_neg hb <;> (split <;> simp only [Int.neg_mul, Int.mul_add, Int.mul_one, Int.add_zero] <;> omega)
  · have ha : ¬ a < 0 := by simp [hb] at hs; omega
    obtain rfl : b = d := by omega
    obtain rfl : a = n := by omega
    clear hn hd hs
    apply near_pos h0 <;> (split <;> simp only [Int.mul_add, Int.mul_one, Int.add_zero] <;> omega)

theorem near_diff {a b n d : Int} (hn : max a (-a) = n) (hd : max b (-b) = d) (h0 : 0 < d) (hs : (!decide (a < 0) == decide (b < 0)) = true) :
    near a b = -(n / d + if d < 2 * (n % d) then 1 else 0) := by
  have e := Int.mul_ediv_add_emod n d
  have r0 : 0 ≤ n % d := Int.emod_nonneg n (by omega)
  have r1 : n % d < d := Int.emod_lt_of_pos n h0
  by_cases hb : b < 0
  · have ha : ¬ a < 0 := by simp [hb] at hs; omega
    obtain rfl : b = -d := by omega
    obtain rfl : a = n := by omega
    clear hn hd hs
    apply near_neg hb <;> (split <;> simp only [Int.neg_mul, Int.mul_neg, Int.neg_neg, Int.mul_add, Int.mul_one, Int.add_zero] <;> omega)
  · have ha : a < 0 := by simp [hb] at hs; omega
    obtain rfl : b = d := by omega
    obtain rfl : a = -n := by omega
    clear hn hd hs
    apply near_pos h0 <;> (split <;> simp only [Int.mul_neg, Int.mul_add, Int.mul_one, Int.add_zero] <;> omega)

theorem mul_bound {a b : Int} (A B : Nat) (h1 : -(A : Int) ≤ a) (h2 : a ≤ A) (h3 : -(B : Int) ≤ b) (h4 : b ≤ B) : -((A * B : Nat) : Int) ≤ a * b ∧ a * b ≤ ((A * B : Nat) : Int) := by
  have h : (a * b).natAbs ≤ A * B := by rw [Int.natAbs_mul]; exact Nat.mul_le_mul (by omega) (by omega)
  omega

theorem near_spec (a b : Int) (hb : 1 ≤ b) : -b ≤ 2 * (a - near a b * b) ∧ 2 * (a - near a b * b) < b := by
  unfold near
  rw [if_neg (by omega)]
  have h := Int.mul_ediv_add_emod (2 * a + b) (2 * b)
  have h1 := Int.emod_nonneg (2 * a + b) (show 2 * b ≠ 0 by omega)
  have h2 := Int.emod_lt_of_pos (2 * a + b) (show 0 < 2 * b by omega)
  rw [Int.mul_assoc, Int.mul_comm b] at h
  omega

end Go.Proofs.Ytelhckckcilpaaa

namespace Go.Proofs.Ytelhckckcilpaaa
open Go.RowKit

theorem ret_int {k : IntKind} {a b : Int} (h : a = b) : Ending.returned (.int k a) = .returned (.int k b) := by rw [h]

theorem may_ref (x : Int) (w : World) : Calls Try.prog 96 #[.int .i64 x] w fun e w' => e = .returned (.bool (mayB x)) ∧ w = w' := by
  unfold mayB
  by_cases h1 : -2147483648 ≤ x <;> by_cases h2 : x ≤ 2147483648
  all_goals
    go_enter Try.func96, Try.ntmps96
    go_wp2
    go_ret
    simp [h1, h2]

theorem may_any (x : Int) (w : World) : Calls Try.prog 89 #[.int .i64 x] w fun e w' => e = .returned (.bool (mayB x)) ∧ w = w' := by
  unfold mayB
  by_cases h1 : -2147483648 ≤ x <;> by_cases h2 : x ≤ 2147483648
  all_goals
    go_enter Try.func89, Try.ntmps89
    go_wp2
    go_ret
    simp [h1, h2]

end Go.Proofs.Ytelhckckcilpaaa

namespace Go.Proofs.Ytelhckckcilpaaa
open Go Go.RowKit

/-- Cells from o on of block b. -/
def CellsAt (w : World) (b : Nat) : Nat → List Value → Prop
  | _, [] => True
  | o, v :: vs => w.cell? ⟨b, o, none⟩ = some v ∧ CellsAt w b (o + 1) vs

/-- Blocks that stand and are not frozen, with what their first cells hold. -/
def KB (w : World) : List (Nat × List Value) → Prop
  | [] => True
  | (b, vs) :: r => b < w.heap.size ∧ (∀ o, w.frozen? ⟨b, o, none⟩ = false) ∧ CellsAt w b 0 vs ∧ KB w r

theorem CellsAt.next {w w1 : World} {b : Nat} (hb : Below w.heap.size w w1) (h : b < w.heap.size) : ∀ {vs : List Value} {o : Nat}, CellsAt w b o vs → CellsAt w1 b o vs
  | [], _, _ => trivial
  | _ :: _, o, H => ⟨(hb.cell (p := ⟨b, o, none⟩) h).trans H.1, CellsAt.next hb h H.2⟩

theorem KB.next {w w1 : World} (hb : Below w.heap.size w w1) : ∀ {l : List (Nat × List Value)}, KB w l → KB w1 l
  | [], _ => trivial
  | _ :: _, H => ⟨Nat.lt_of_lt_of_le H.1 hb.size, fun o => (hb.frozen (p := ⟨_, o, none⟩) H.1).trans (H.2.1 o), H.2.2.1.next hb H.1, H.2.2.2.next hb⟩

theorem cellsAt_new (w : World) (vs : Array Value) (T : TypeId) : ∀ (l : List Value) (o : Nat), vs.toList.drop o = l → CellsAt (w.alloc (.cells vs T)) w.heap.size o l
  | [], _, _ => trivial
  | v :: l, o, h => by
    have hv : vs[o]? = some v := by
      have h0 := congrArg (fun l => l[0]?) h
      simpa using h0
    refine ⟨?_, cellsAt_new w vs T l (o + 1) (by rw [← List.drop_drop, h]; rfl)⟩
    rw [World.cell?_alloc_new]; exact hv

/-- From w0 on nothing of what was there has turned, and this is known of blocks of w. -/
def Known (w0 w : World) (l : List (Nat × List Value)) : Prop := Below w0.heap.size w0 w ∧ KB w l

theorem Known.start (w : World) : Known w w [] := ⟨Below.refl _ _, trivial⟩
theorem Known.next {w0 w w1 : World} {l : List (Nat × List Value)} (H : Known w0 w l) (hb : Below w.heap.size w w1) : Known w0 w1 l := ⟨H.1.trans (hb.mono H.1.size), H.2.next hb⟩
theorem Known.drew {w0 w : World} {l : List (Nat × List Value)} (H : Known w0 w l) : Known w0 w.drew l := H.next ((Below.refl _ _).drew)
theorem Known.alloc {w0 w : World} {l : List (Nat × List Value)} (H : Known w0 w l) (o : Obj) : Known w0 (w.alloc o) l := H.next ((Below.refl _ _).alloc (Nat.le_refl _) o)
theorem Known.new {w0 w : World} {l : List (Nat × List Value)} (H : Known w0 w l) (vs : Array Value) (T : TypeId) : Known w0 (w.alloc (.cells vs T)) ((w.heap.size, vs.toList) :: l) :=
  ⟨(H.alloc _).1, by simp, fun o => World.frozen?_alloc_new w vs T o, cellsAt_new w vs T _ 0 rfl, (H.alloc _).2⟩
theorem Known.drop {w0 w : World} {l : List (Nat × List Value)} {x : Nat × List Value} (H : Known w0 w (x :: l)) : Known w0 w l := ⟨H.1, H.2.2.2.2⟩

/-- A store into a block that stands behind all others that are known: they stay. -/
theorem KB.below {B : Nat} {w w1 : World} (hb : Below B w w1) : ∀ {l : List (Nat × List Value)}, (∀ x ∈ l, x.1 < B) → KB w l → KB w1 l
  | [], _, _ => trivial
  | (b, vs) :: r, hl, H => by
    have h : b < B := hl (b, vs) (List.mem_cons_self)
    refine ⟨Nat.lt_of_lt_of_le H.1 hb.size, fun o => (hb.frozen (p := ⟨b, o, none⟩) h).trans (H.2.1 o), ?_, KB.below hb (fun x hx => hl x (List.mem_cons_of_mem _ hx)) H.2.2.2⟩
    have go : ∀ (vs : List Value) (o : Nat), CellsAt w b o vs → CellsAt w1 b o vs := fun vs => by
      induction vs with
      | nil => intro _ _; trivial
      | cons v vs ih => intro o H; exact ⟨(hb.cell (p := ⟨b, o, none⟩) h).trans H.1, ih _ H.2⟩
    exact go vs 0 H.2.2.1

/-- Four stores into a block. -/
theorem Known.put4 {w0 w8 wr : World} {l : List (Nat × List Value)} {b : Nat} {z0 z1 z2 z3 : Value} (I : Known w0 w8 l) (hb : w8.heap.size ≤ b) (B : Below w8.heap.size w8 wr)
    (hz : b < wr.heap.size) (hf : ∀ o, wr.frozen? ⟨b, o, none⟩ = false) (hc : CellsAt wr b 0 [z0, z1, z2, z3]) (v0 v1 v2 v3 : Value) :
    Known w0 ((((wr.setCell ⟨b, 0, none⟩ v0).setCell ⟨b, 1, none⟩ v1).setCell ⟨b, 2, none⟩ v2).setCell ⟨b, 3, none⟩ v3) ((b, [v0, v1, v2, v3]) :: l) := by
  have K := I.next ((((B.setCell (p := ⟨b, 0, none⟩) hb v0).setCell (p := ⟨b, 1, none⟩) hb v1).setCell (p := ⟨b, 2, none⟩) hb v2).setCell (p := ⟨b, 3, none⟩) hb v3)
  obtain ⟨c0, c1, c2, c3, _⟩ := hc
  simp only [Nat.zero_add, Nat.reduceAdd] at c0 c1 c2 c3
  refine ⟨K.1, ?_, fun o => ?_, ⟨?_, ?_, ?_, ?_, trivial⟩, K.2⟩
  · simpa using hz
  · simp [hf]
  all_goals go_simp

end Go.Proofs.Ytelhckckcilpaaa

namespace Go.Proofs.Ytelhckckcilpaaa
open Go Go.RowKit

/-- A slice's address A and the cells that it reads as: they lie below block B. -/
structure Lists (w : World) (B : Nat) (A : Option Addr) (xs : List Value) : Prop where
  nil : A = none → xs = []
  cell : ∀ a, A = some a → ∀ (j : Nat) (u : Value), xs[j]? = some u → w.cell? (a.add j) = some u
  lt : ∀ a, A = some a → xs ≠ [] → a.block < B

theorem addr_add_block (a : Addr) (j : Nat) : (a.add j).block = a.block := by
  unfold Addr.add
  by_cases h : j = 0 <;> simp [h]

theorem addr_plain (b o j : Nat) : (⟨b, o, none⟩ : Addr).add j = ⟨b, o + j, none⟩ := by
  unfold Addr.add
  by_cases h : j = 0 <;> simp [h]

theorem Lists.keep {w w1 : World} {B : Nat} {A : Option Addr} {xs : List Value} (h : Lists w B A xs) (hk : ∀ p : Addr, p.block < B → w1.cell? p = w.cell? p) : Lists w1 B A xs :=
  ⟨h.nil, fun a ha j u hu => (hk _ (by rw [addr_add_block]; exact h.lt a ha (by intro e; subst e; simp at hu))).trans (h.cell a ha j u hu), h.lt⟩
theorem Lists.more {w : World} {B B1 : Nat} {A : Option Addr} {xs : List Value} (h : Lists w B A xs) (hB : B ≤ B1) : Lists w B1 A xs := ⟨h.nil, h.cell, fun a ha hx => Nat.lt_of_lt_of_le (h.lt a ha hx) hB⟩
theorem Lists.below {w w1 : World} {B : Nat} {A : Option Addr} {xs : List Value} (h : Lists w B A xs) (hb : Below B w w1) : Lists w1 B A xs := h.keep fun _ hp => hb.cell hp
theorem Lists.alloc {w : World} {B : Nat} {A : Option Addr} {xs : List Value} (h : Lists w B A xs) (hB : B ≤ w.heap.size) (o : Obj) : Lists (w.alloc o) B A xs := h.below ((Below.refl _ _).alloc hB o)
theorem Lists.empty (w : World) (B : Nat) (A : Option Addr) : Lists w B A [] := ⟨fun _ => rfl, fun _ _ j u hu => by simp at hu, fun _ _ h => absurd rfl h⟩
theorem Lists.plain {w : World} {B : Nat} {A : Option Addr} {xs : List Value} (h : Lists w B A xs) (hx : xs ≠ []) : ∃ b o, A = some ⟨b, o, none⟩ ∧ b < B ∧ ∀ (j : Nat) (u : Value), xs[j]? = some u → w.cell? ⟨b, o + j, none⟩ = some u := by
  cases A with
  | none => exact absurd (h.nil rfl) hx
  | some a =>
    have hlt := h.lt a rfl hx
    have hc := h.cell a rfl
    obtain ⟨x, l, rfl⟩ : ∃ x l, xs = x :: l := by cases xs with | nil => exact absurd rfl hx | cons x l => exact ⟨x, l, rfl⟩
    obtain ⟨b, o, s⟩ := a
    have hs : s = none := by simpa [Addr.add] using World.cell?_spot (hc 0 x rfl)
    subst hs
    exact ⟨b, o, rfl, hlt, fun j u hu => by have := hc j u hu; rwa [addr_plain] at this⟩

/-- What the call owns reads so. -/
theorem own_lists {w : World} {base : Nat} {e : TypeId} {size n : Nat} {v : Value} {xs : List Value} (h : w.ownsRow base e size v n xs) : ∃ A c, v = .slice A n c ∧ Lists w w.heap.size A xs ∧ n ≤ c := by
  have hc := @World.ownsRow.cells w base e size v n xs h
  rcases h.2 with ⟨rfl, rfl⟩ | ⟨g, cap, cur, rfl, _, hh, hn, _⟩
  · exact ⟨none, 0, rfl, ⟨fun _ => List.eq_nil_of_length_eq_zero (by simpa using h.1), fun _ ha => (nomatch ha), fun _ ha => (nomatch ha)⟩, Nat.le_refl _⟩
  · refine ⟨some ⟨g, 0, none⟩, cap, rfl, ⟨fun ha => (nomatch ha), fun a ha j u hu => ?_, fun a ha _ => ?_⟩, hn⟩
    · cases ha; exact hc (g := g) rfl j u hu
    · cases ha
      rcases Nat.lt_or_ge g w.heap.size with hlt | hge
      · exact hlt
      · rw [Array.getElem?_eq_none hge] at hh; cases hh

section
variable {P : Program} (w : World)

theorem run_append_src (base : Nat) (t ty e : TypeId) (i : TypeInfo) (z : Value) (size bytes : Nat) (ht : P.underlying t = some (.slice e)) (hi : P.info? e = some i) (hz : i.zero = some z)
    (hsize : i.size = size) (hby : i.bytes = bytes) (hzs : z.cells.size = size) (hsz : 0 < size) (v : Value) (n : Nat) (xs : List Value) (hown : w.ownsRow base e size v n xs)
    (B : Nat) (A : Option Addr) (m c : Nat) (news : List Value) (hr : Lists w B A news) (hl : news.length = m * size) (h1 : ∀ u ∈ news, u.oneCell' = true)
    (h63 : n + m ≤ maxLen) (hbytes : (n + m) * bytes ≤ 140737488355328) (hbase : base ≤ w.heap.size) :
    ∃ v' w', (Builtin.append_ #[t, t] ty #[v, .slice A m c]).run P w = .ok v' w' ∧ w'.ownsRow base e size v' (n + m) (xs ++ news) ∧ w.grownBy w' v.ownBlock ∧
      (v'.ownBlock = v.ownBlock ∨ v'.ownBlock = some w.heap.size) := by
  cases A with
  | none =>
    have hn : news = [] := hr.nil rfl
    subst hn
    have hm : m = 0 := by
      have : m * size = 0 := by simpa using hl.symm
      rcases Nat.mul_eq_zero.1 this with h | h
      · exact h
      · omega
    subst hm
    refine ⟨v, w, ?_, by simpa using hown, World.grownBy.refl w _, .inl rfl⟩
    rcases hown.2 with ⟨rfl, rfl⟩ | ⟨g, cap, cur, rfl, _, _, hc, _⟩
    · simp [Builtin.append_, run_underlying ht, sizeOf, typeInfo, hi, Builtin.lenOf, Builtin.firstCells]
    · simp [Builtin.append_, run_underlying ht, sizeOf, typeInfo, hi, Builtin.lenOf, Builtin.firstCells, hc, storeCells]
  | some ad =>
    obtain ⟨v', w', hrun, h2, h3, _, h5⟩ := run_append_own_at (P := P) w base t ty e i z size bytes ht hi hz hsize hby hzs hsz v n xs hown ad m c news hl (hr.cell ad rfl) h1 h63 hbytes hbase
    exact ⟨v', w', hrun, h2, h3, h5⟩

theorem wp_append_src {o : Oper} {a : Act} {K : Act → World → Prop} {Q : Exit → Act → World → Prop} (s x : Operand) (t : TypeId)
    (ho : o.op = .call { callee := .builtin .append, args := #[s, x], argTypes := #[t, t] })
    (base : Nat) (e : TypeId) (i : TypeInfo) (z : Value) (size bytes : Nat) (ht : P.underlying t = some (.slice e)) (hi : P.info? e = some i) (hz : i.zero = some z)
    (hsize : i.size = size) (hby : i.bytes = bytes) (hzs : z.cells.size = size) (hsz : 0 < size)
    (v : Value) (n : Nat) (xs : List Value) (hs : a.eval s = v) (hown : w.ownsRow base e size v n xs)
    (B : Nat) (A : Option Addr) (m c : Nat) (news : List Value) (hx : a.eval x = .slice A m c) (hr : Lists w B A news) (hl : news.length = m * size) (h1 : ∀ u ∈ news, u.oneCell' = true)
    (h63 : n + m ≤ maxLen) (hbytes : (n + m) * bytes ≤ 140737488355328) (hbase : base ≤ w.heap.size)
    (h : ∀ v' w', w'.ownsRow base e size v' (n + m) (xs ++ news) → w.grownBy w' v.ownBlock → (v'.ownBlock = v.ownBlock ∨ v'.ownBlock = some w.heap.size) → K (a.put o.dst v') w') : o.wp P a w K Q := by
  obtain ⟨v', w', hrun, h2, h3, h4⟩ := run_append_src (P := P) w base t o.type e i z size bytes ht hi hz hsize hby hzs hsz v n xs hown B A m c news hr hl h1 h63 hbytes hbase
  unfold Oper.wp execOp
  simp only [ho, resolve, invoke, builtin, Sem.run_bind, Sem.run_pure, Result.andThen_ok, List.map_toArray, List.map_cons, List.map_nil, hs, hx, hrun]
  exact h v' w' h2 h3 h4

theorem wpList_append_src {ops : Array Oper} {rest : List Oper} {o : Oper} {a : Act} {Q : Exit → Act → World → Prop} (hgd : o.guard = none) (s x : Operand) (t : TypeId)
    (ho : o.op = .call { callee := .builtin .append, args := #[s, x], argTypes := #[t, t] })
    (base : Nat) (e : TypeId) (i : TypeInfo) (z : Value) (size bytes : Nat) (ht : P.underlying t = some (.slice e)) (hi : P.info? e = some i) (hz : i.zero = some z)
    (hsize : i.size = size) (hby : i.bytes = bytes) (hzs : z.cells.size = size) (hsz : 0 < size)
    (v : Value) (n : Nat) (xs : List Value) (hs : a.eval s = v) (hown : w.ownsRow base e size v n xs)
    (B : Nat) (A : Option Addr) (m c : Nat) (news : List Value) (hx : a.eval x = .slice A m c) (hr : Lists w B A news) (hl : news.length = m * size) (h1 : ∀ u ∈ news, u.oneCell' = true)
    (h63 : n + m ≤ maxLen) (hbytes : (n + m) * bytes ≤ 140737488355328) (hbase : base ≤ w.heap.size)
    (h : ∀ v' w', w'.ownsRow base e size v' (n + m) (xs ++ news) → w.grownBy w' v.ownBlock → (v'.ownBlock = v.ownBlock ∨ v'.ownBlock = some w.heap.size) → wpList P ops Q rest (a.put o.dst v') w') : wpList P ops Q (o :: rest) a w :=
  wpList_plain hgd fun _ hK => wp_append_src w s x t ho base e i z size bytes ht hi hz hsize hby hzs hsz v n xs hs hown B A m c news hx hr hl h1 h63 hbytes hbase fun v' w' h2 h3 h4 => hK _ _ (h v' w' h2 h3 h4)
end

/-- A list of ints as cells. -/
def intCells (zs : List Int) : List Value := zs.map (Value.int .i64)
theorem intCells_one (zs : List Int) : ∀ u ∈ intCells zs, u.oneCell' = true := by
  intro u hu
  obtain ⟨z, _, rfl⟩ := List.mem_map.1 hu
  rfl
theorem intCells_len (zs : List Int) : (intCells zs).length = zs.length := by simp [intCells]
theorem intCells_get (zs : List Int) (j : Nat) (h : j < zs.length) : (intCells zs)[j]? = some (.int .i64 (zs.getD j 0)) := by simp [intCells, h]

end Go.Proofs.Ytelhckckcilpaaa

namespace Go.Proofs.Ytelhckckcilpaaa
open Go Go.RowKit

/-- w1 is w but for the blocks of fp, and new ones. -/
structure Only (w w1 : World) (fp : List Nat) : Prop where
  os : w1.os = w.os
  tape : w1.tape = w.tape
  output : w1.output = w.output
  size : w.heap.size ≤ w1.heap.size
  block : ∀ b, b < w.heap.size → b ∉ fp → w1.heap[b]? = w.heap[b]?

theorem Only.refl (w : World) (fp : List Nat) : Only w w fp := ⟨rfl, rfl, rfl, Nat.le_refl _, fun _ _ _ => rfl⟩
theorem Only.of_below {w w1 : World} (h : Below w.heap.size w w1) (fp : List Nat) : Only w w1 fp := ⟨h.os, h.tape, h.output, h.size, fun b hb _ => h.block b hb⟩
theorem Only.to_below {w w1 : World} {fp : List Nat} (h : Only w w1 fp) {B : Nat} (hB : B ≤ w.heap.size) (hf : ∀ b ∈ fp, B ≤ b) : Below B w w1 :=
  ⟨h.os, h.tape, h.output, h.size, fun b hb => h.block b (by omega) fun hm => by have := hf b hm; omega⟩
theorem Only.nil_below {w w1 : World} (h : Only w w1 []) : Below w.heap.size w w1 := h.to_below (Nat.le_refl _) fun _ hb => (nomatch hb)
theorem Only.trans {w a c : World} {fp fp1 : List Nat} (h : Only w a fp) (k : Only a c fp1) (hf : ∀ b ∈ fp1, b ∈ fp ∨ w.heap.size ≤ b) : Only w c fp :=
  ⟨k.os.trans h.os, k.tape.trans h.tape, k.output.trans h.output, Nat.le_trans h.size k.size, fun b hb hn => (k.block b (Nat.lt_of_lt_of_le hb h.size) fun hm => by
    rcases hf b hm with h1 | h1
    · exact hn h1
    · omega).trans (h.block b hb hn)⟩
theorem Only.more {w a : World} {fp fp1 : List Nat} (h : Only w a fp) (hs : ∀ b ∈ fp, b ∈ fp1 ∨ w.heap.size ≤ b) : Only w a fp1 :=
  ⟨h.os, h.tape, h.output, h.size, fun b hb hn => h.block b hb fun hm => by
    rcases hs b hm with h1 | h1
    · exact hn h1
    · omega⟩
theorem Only.then_below {w a c : World} {fp : List Nat} (h : Only w a fp) (k : Below a.heap.size a c) : Only w c fp := h.trans (Only.of_below k []) fun _ hb => (nomatch hb)
theorem Only.alloc {w a : World} {fp : List Nat} (h : Only w a fp) (o : Obj) : Only w (a.alloc o) fp := h.then_below ((Below.refl _ _).alloc (Nat.le_refl _) o)
theorem Only.drew {w a : World} {fp : List Nat} (h : Only w a fp) : Only w a.drew fp := h.then_below ((Below.refl _ _).drew)
theorem Only.set {w a : World} {fp : List Nat} (h : Only w a fp) {p : Addr} (hp : p.block ∈ fp ∨ w.heap.size ≤ p.block) (v : Value) : Only w (a.setCell p v) fp :=
  ⟨h.os, h.tape, h.output, by simpa using h.size, fun b hb hn => by
    rw [Below.heap_setCell a p v b (fun e => by subst e; rcases hp with h1 | h1; exact hn h1; omega)]
    exact h.block b hb hn⟩
theorem Only.grown {w a c : World} {fp : List Nat} {row : Option Nat} (h : Only w a fp) (hg : a.grownBy c row) (hr : ∀ b, row = some b → b ∈ fp ∨ w.heap.size ≤ b) : Only w c fp :=
  ⟨hg.os.trans h.os, hg.tape.trans h.tape, hg.output.trans h.output, Nat.le_trans h.size hg.size, fun b hb hn => (hg.block b (Nat.lt_of_lt_of_le hb h.size) fun e => by
    rcases hr b e.symm with h1 | h1
    · exact hn h1
    · omega).trans (h.block b hb hn)⟩

/-- Block p is just these cells, none frozen. -/
def Blk (w : World) (p : Nat) (T : TypeId) (cs : Array Value) : Prop := w.heap[p]? = some (.cells cs T (0, 0))

theorem Blk.lt {w : World} {p : Nat} {T : TypeId} {cs : Array Value} (h : Blk w p T cs) : p < w.heap.size := by
  rcases Nat.lt_or_ge p w.heap.size with h1 | h1
  · exact h1
  · unfold Blk at h; rw [Array.getElem?_eq_none h1] at h; cases h
theorem Blk.cell {w : World} {p : Nat} {T : TypeId} {cs : Array Value} (h : Blk w p T cs) (j : Nat) : w.cell? ⟨p, j, none⟩ = cs[j]? := cell_of_row w p j cs T (0, 0) h
theorem Blk.frozen {w : World} {p : Nat} {T : TypeId} {cs : Array Value} (h : Blk w p T cs) (j : Nat) : w.frozen? ⟨p, j, none⟩ = false := by
  unfold Blk at h; simp [World.frozen?, h]
theorem Blk.new (w : World) (T : TypeId) (cs : Array Value) : Blk (w.alloc (.cells cs T)) w.heap.size T cs := heap_alloc_new w _
theorem Blk.only {w w1 : World} {p : Nat} {T : TypeId} {cs : Array Value} {fp : List Nat} (h : Blk w p T cs) (k : Only w w1 fp) (hn : p ∉ fp) : Blk w1 p T cs := (k.block p h.lt hn).trans h
theorem Blk.below {w w1 : World} {p : Nat} {T : TypeId} {cs : Array Value} (h : Blk w p T cs) (k : Below w.heap.size w w1) : Blk w1 p T cs := (k.block p h.lt).trans h
theorem Blk.set {w : World} {p : Nat} {T : TypeId} {cs : Array Value} (h : Blk w p T cs) (j : Nat) (v : Value) : Blk (w.setCell ⟨p, j, none⟩ v) p T (cs.setIfInBounds j v) := by
  unfold Blk at *; simp [World.setCell, Array.getElem?_modify, h]
theorem Blk.other {w : World} {p : Nat} {T : TypeId} {cs : Array Value} (h : Blk w p T cs) {q : Addr} (hq : p ≠ q.block) (v : Value) : Blk (w.setCell q v) p T cs := (Below.heap_setCell w q v p hq).trans h
theorem Blk.kb {w : World} {p : Nat} {T : TypeId} {cs : Array Value} (h : Blk w p T cs) : KB w [(p, cs.toList)] := by
  refine ⟨h.lt, fun o => h.frozen o, ?_, trivial⟩
  have go : ∀ (l : List Value) (o : Nat), cs.toList.drop o = l → CellsAt w p o l := by
    intro l
    induction l with
    | nil => intro _ _; trivial
    | cons v l ih =>
      intro o ho
      refine ⟨?_, ih (o + 1) (by rw [← List.drop_drop, ho]; rfl)⟩
      rw [h.cell]
      have h0 := congrArg (fun l => l[0]?) ho
      simpa using h0
  exact go _ 0 rfl

/-- The block of a slice that the call owns. -/
def blk (v : Value) : List Nat := v.ownBlock.toList

theorem own_only {w w1 : World} {base : Nat} {e : TypeId} {size n : Nat} {v : Value} {xs : List Value} {fp : List Nat} (h : w.ownsRow base e size v n xs) (k : Only w w1 fp) (hn : ∀ b ∈ blk v, b ∉ fp) : w1.ownsRow base e size v n xs := by
  refine ⟨h.1, ?_⟩
  have hlt := h.lt
  rcases h.2 with h1 | ⟨g, cap, cur, rfl, h2, h3, h4⟩
  · exact .inl h1
  · exact .inr ⟨g, cap, cur, rfl, h2, (k.block g (hlt g rfl).2 (hn g (by simp [blk, Value.ownBlock]))).trans h3, h4⟩

theorem lists_only {w w1 : World} {B : Nat} {A : Option Addr} {xs : List Value} {fp : List Nat} (h : Lists w B A xs) (hB : B ≤ w.heap.size) (k : Only w w1 fp) (hn : ∀ a, A = some a → xs ≠ [] → a.block ∉ fp) : Lists w1 B A xs :=
  ⟨h.nil, fun a ha j u hu => by
    have hx : xs ≠ [] := by intro e; subst e; simp at hu
    have hb : w1.heap[(a.add j).block]? = w.heap[(a.add j).block]? := by
      rw [addr_add_block]
      exact k.block _ (Nat.lt_of_lt_of_le (h.lt a ha hx) hB) (hn a ha hx)
    exact (World.cell?_of_block hb).trans (h.cell a ha j u hu), h.lt⟩

theorem blk_lt {w : World} {base : Nat} {e : TypeId} {size n : Nat} {v : Value} {xs : List Value} (h : w.ownsRow base e size v n xs) : ∀ b ∈ blk v, b < w.heap.size := by
  intro b hb
  simp only [blk, Option.mem_toList] at hb
  exact (h.lt b hb).2

end Go.Proofs.Ytelhckckcilpaaa

namespace Go.Proofs.Ytelhckckcilpaaa
open Go Go.RowKit

def zero8 : Value := .int .u8 0

/-- Data from a place on, with so many zeros ahead of each gap's place. -/
def expand (D : List Value) : Nat → List (Nat × Nat) → List Value
  | i, [] => D.drop i
  | i, (a, z) :: G => (D.drop i).take (a - i) ++ List.replicate z zero8 ++ expand D a G

/-- The gaps' places rise, and are none beyond n; none is empty. -/
def GapsOk : Nat → List (Nat × Nat) → Nat → Prop
  | i, [], n => i ≤ n
  | i, (a, z) :: G, n => i ≤ a ∧ 1 ≤ z ∧ GapsOk a G n

def gapSum (G : List (Nat × Nat)) : Nat := (G.map (·.2)).sum

theorem GapsOk.le : ∀ {G : List (Nat × Nat)} {i n : Nat}, GapsOk i G n → i ≤ n
  | [], _, _, h => h
  | _ :: _, _, _, h => Nat.le_trans h.1 h.2.2.le
theorem GapsOk.more : ∀ {G : List (Nat × Nat)} {i n m : Nat}, GapsOk i G n → n ≤ m → GapsOk i G m
  | [], _, _, _, h, hm => Nat.le_trans h hm
  | _ :: _, _, _, _, h, hm => ⟨h.1, h.2.1, h.2.2.more hm⟩
theorem GapsOk.snoc {z : Nat} (hz : 1 ≤ z) : ∀ {G : List (Nat × Nat)} {i n : Nat}, GapsOk i G n → GapsOk i (G ++ [(n, z)]) n
  | [], _, _, h => ⟨h, hz, Nat.le_refl _⟩
  | _ :: _, _, _, h => ⟨h.1, h.2.1, GapsOk.snoc hz h.2.2⟩
theorem GapsOk.count : ∀ {G : List (Nat × Nat)} {i n : Nat}, GapsOk i G n → G.length ≤ gapSum G
  | [], _, _, _ => Nat.zero_le _
  | (a, z) :: G, _, _, h => by
    have := h.2.2.count
    have h1 := h.2.1
    simp only [gapSum, List.map_cons, List.sum_cons, List.length_cons] at *
    omega

theorem expand_data (D E : List Value) : ∀ (G : List (Nat × Nat)) (i : Nat), GapsOk i G D.length → expand (D ++ E) i G = expand D i G ++ E
  | [], i, h => by simp only [expand]; rw [List.drop_append_of_le_length h]
  | (a, z) :: G, i, h => by
    have hle := h.2.2.le
    simp only [expand]
    rw [expand_data D E G a h.2.2, List.drop_append_of_le_length (by have := h.1; omega), List.take_append_of_le_length (by rw [List.length_drop]; omega)]
    simp only [List.append_assoc]

theorem expand_gap (D : List Value) (z : Nat) : ∀ (G : List (Nat × Nat)) (i : Nat), GapsOk i G D.length → expand D i (G ++ [(D.length, z)]) = expand D i G ++ List.replicate z zero8
  | [], i, h => by
    simp only [List.nil_append, expand]
    rw [List.take_of_length_le (by rw [List.length_drop]; omega), List.drop_eq_nil_of_le (Nat.le_refl _)]
    simp
  | (a, y) :: G, i, h => by
    simp only [List.cons_append, expand]
    rw [expand_gap D z G a h.2.2]
    simp only [List.append_assoc]

theorem expand_len (D : List Value) : ∀ (G : List (Nat × Nat)) (i : Nat), GapsOk i G D.length → (expand D i G).length = D.length - i + gapSum G
  | [], i, _ => by simp [expand, gapSum]
  | (a, z) :: G, i, h => by
    have hle := h.2.2.le
    have h1 := h.1
    simp only [expand, List.length_append, List.length_replicate, List.length_take, List.length_drop]
    rw [expand_len D G a h.2.2]
    simp only [gapSum, List.map_cons, List.sum_cons]
    omega

/-- The cells of gaps. -/
def gapCells : List (Nat × Nat) → List Value
  | [] => []
  | (a, z) :: G => .int .i64 (a : Int) :: .int .i64 (z : Int) :: gapCells G
theorem gapCells_len : ∀ G : List (Nat × Nat), (gapCells G).length = G.length * 2
  | [] => rfl
  | _ :: G => by simp only [gapCells, List.length_cons, gapCells_len G]; omega
theorem gapCells_snoc (a z : Nat) : ∀ G : List (Nat × Nat), gapCells (G ++ [(a, z)]) = gapCells G ++ [.int .i64 (a : Int), .int .i64 (z : Int)]
  | [] => rfl
  | (_, _) :: G => by simp only [List.cons_append, gapCells, gapCells_snoc a z G]
theorem gapCells_at : ∀ (G : List (Nat × Nat)) (k : Nat) (a z : Nat), G[k]? = some (a, z) → (gapCells G)[k * 2]? = some (.int .i64 (a : Int)) ∧ (gapCells G)[k * 2 + 1]? = some (.int .i64 (z : Int))
  | [], k, a, z, h => by simp at h
  | (b, y) :: G, 0, a, z, h => by
    simp only [List.getElem?_cons_zero, Option.some.injEq, Prod.mk.injEq] at h
    obtain ⟨rfl, rfl⟩ := h
    exact ⟨rfl, rfl⟩
  | (b, y) :: G, k + 1, a, z, h => by
    have := gapCells_at G k a z (by simpa using h)
    rw [show (k + 1) * 2 = k * 2 + 1 + 1 by omega]
    exact this

/-- Each is a byte. -/
def Bytes8 (l : List Value) : Prop := ∀ u ∈ l, ∃ x : Nat, x < 256 ∧ u = .int .u8 (x : Int)
theorem Bytes8.one {l : List Value} (h : Bytes8 l) : ∀ u ∈ l, u.oneCell' = true := fun u hu => by
  obtain ⟨x, _, rfl⟩ := h u hu
  rfl
theorem Bytes8.append {l m : List Value} (h : Bytes8 l) (k : Bytes8 m) : Bytes8 (l ++ m) := fun u hu => by
  rcases List.mem_append.1 hu with h1 | h1
  · exact h u h1
  · exact k u h1
theorem Bytes8.zeros (n : Nat) : Bytes8 (List.replicate n zero8) := fun u hu => ⟨0, by omega, (List.mem_replicate.1 hu).2⟩

theorem own_ne {w : World} {base p : Nat} {e T : TypeId} {size n : Nat} {v : Value} {xs : List Value} {cs : Array Value} (h : w.ownsRow base e size v n xs) (hb : Blk w p T cs) (hne : e ≠ T) : p ∉ blk v := by
  intro hm
  rcases h.2 with ⟨rfl, _⟩ | ⟨g, cap, cur, rfl, _, hh, _⟩
  · simp [blk, Value.ownBlock] at hm
  · have : p = g := by simpa [blk, Value.ownBlock] using hm
    subst this
    unfold Blk at hb
    rw [hh] at hb
    injection hb with hb
    injection hb with _ ht
    exact hne ht
theorem own_own {w : World} {base base1 : Nat} {e e1 : TypeId} {size n size1 n1 : Nat} {v v1 : Value} {xs xs1 : List Value} (h : w.ownsRow base e size v n xs) (h1 : w.ownsRow base1 e1 size1 v1 n1 xs1) (hne : e ≠ e1) : ∀ b ∈ blk v, b ∉ blk v1 := by
  intro b hb hm
  rcases h.2 with ⟨rfl, _⟩ | ⟨g, cap, cur, rfl, _, hh, _⟩
  · simp [blk, Value.ownBlock] at hb
  · rcases h1.2 with ⟨rfl, _⟩ | ⟨g1, cap1, cur1, rfl, _, hh1, _⟩
    · simp [blk, Value.ownBlock] at hm
    · have e1 : b = g := by simpa [blk, Value.ownBlock] using hb
      have e2 : b = g1 := by simpa [blk, Value.ownBlock] using hm
      subst e1 e2
      rw [hh] at hh1
      injection hh1 with hh1
      injection hh1 with _ ht
      exact hne ht

end Go.Proofs.Ytelhckckcilpaaa

namespace Go.Proofs.Ytelhckckcilpaaa
open Go

section
variable {P : Program} {ops : Array Oper} {Q : Exit → Act → World → Prop} {md : Region.Mode} {S : World → Prop}

/-- No way out but the normal one. -/
def NoWay : Exit → Act → World → Prop := fun _ _ _ => False

/-- Operation i, in every act that agrees on what it looks at, in every world that meets S: it yields v, and S holds behind it. -/
def StepC (P : Program) (ops : Array Oper) (S : World → Prop) (i : Nat) (o : Oper) (v : Value) (a : Act) : Prop :=
  ∀ a' w, (∀ t ∈ o.looksAt ops, a'.tmps[t]? = a.tmps[t]?) → S w → wpOp P ops NoWay i (fun b w' => S w' ∧ b = a'.put o.dst v) a' w

theorem exec_agree (o : Oper) (hs : ∀ cs b, o.op ≠ .select cs b) {a a' : Act} (h : ∀ t ∈ o.looksAt ops, a'.tmps[t]? = a.tmps[t]?) : execOp a'.eval o = execOp a.eval o :=
  execOp_congr o hs fun x hx => by
    cases x with
    | tmp t =>
      have := h t (List.mem_append_left _ (List.mem_filterMap.2 ⟨.tmp t, by simpa using hx, rfl⟩))
      simp [Act.eval, this]
    | _ => rfl

theorem wanted_agree (o : Oper) {a a' : Act} (h : ∀ t ∈ o.looksAt ops, a'.tmps[t]? = a.tmps[t]?) : Region.wanted o (yielded ops a'.tmps) = Region.wanted o (yielded ops a.tmps) := by
  unfold Region.wanted
  cases hg : o.guard with
  | none => rfl
  | some gw =>
    obtain ⟨g, want⟩ := gw
    have hy : yielded ops a'.tmps g = yielded ops a.tmps g := by
      unfold yielded
      cases ht : (ops[g]?).bind (·.dst) with
      | none => rfl
      | some t => simp [h t (by simp [Oper.looksAt, hg, ht])]
    simp only [hy]

/-- The walk in one order; it serves for all. 'last': an operation that waits for all others (none, if there is no such number). -/
inductive Plan (P : Program) (md : Region.Mode) (ops : Array Oper) (Q : Exit → Act → World → Prop) (S : World → Prop) (last : Nat) : Nat → Array Bool → Act → Prop
  | done {n : Nat} {listed : Array Bool} {a : Act} (hr : Region.ready md ops listed = []) (h : ∀ w, S w → Q .normal a w) : Plan P md ops Q S last n listed a
  | stop {n : Nat} {listed : Array Bool} {a : Act} (hr : Region.ready md ops listed = [last]) (hf : Region.ready md ops (listed.setIfInBounds last true) = [])
      (h : ∀ w, S w → wpOp P ops Q last (Q .normal) a w) : Plan P md ops Q S last (n + 1) listed a
  | take {n : Nat} {listed : Array Bool} {a : Act} (i : Nat) (o : Oper) (v : Value) (hi : ops[i]? = some o) (hne : i ≠ last) (hf : Region.free md ops listed i = true) (hr : i ∈ Region.ready md ops listed)
      (hs : StepC P ops S i o v a) (h : Plan P md ops Q S last n (listed.setIfInBounds i true) (a.put o.dst v)) : Plan P md ops Q S last (n + 1) listed a

theorem put_agree {o : Oper} {dst : Option Tmp} (h : ∀ d, dst = some d → d ∉ o.looksAt ops) (a : Act) (v : Value) : ∀ t ∈ o.looksAt ops, (a.put dst v).tmps[t]? = a.tmps[t]? := by
  intro t ht
  cases dst with
  | none => rfl
  | some d =>
    have hne : d ≠ t := fun e => h d rfl (e ▸ ht)
    simp [Act.put, Array.getElem?_setIfInBounds_ne hne]

theorem free_set {i j : Nat} {listed : Array Bool} (h : Region.free md ops listed i = true) : Region.free md ops (listed.setIfInBounds j true) i = true := by
  unfold Region.free at *
  split at h
  · exact absurd h (by simp)
  · rename_i oi hoi
    simp only [List.all_eq_true, List.mem_range] at h ⊢
    intro k hk
    have := h k hk
    by_cases hjk : j = k
    · subst hjk
      by_cases hl : j < listed.size
      · simp [hl]
      · simp only [Array.setIfInBounds, hl, dite_false]; exact this
    · rw [getD_set_ne true hjk]; exact this

/-- Whatever may come up could have come up first. -/
theorem Plan.first {last n : Nat} {listed : Array Bool} {a : Act} (h : Plan P md ops Q S last n listed a) : ∀ j, j ∈ Region.ready md ops listed → j ≠ last →
    ∃ m oj u, n = m + 1 ∧ ops[j]? = some oj ∧ StepC P ops S j oj u a ∧ Plan P md ops Q S last m (listed.setIfInBounds j true) (a.put oj.dst u) := by
  induction h with
  | done hr h => intro j hj; rw [hr] at hj; cases hj
  | stop hr hf h => intro j hj hne; rw [hr] at hj; exact absurd (by simpa using hj) hne
  | @take n listed a i o v hi hne hf hr hs h ih =>
    intro j hj hjl
    by_cases hji : j = i
    · subst hji; exact ⟨_, o, v, rfl, hi, hs, h⟩
    · obtain ⟨m, oj, u, rfl, hoj, hsj, hp⟩ := ih j (ready_mono hj hji) hjl
      obtain ⟨hjun, oj', hoj', hall⟩ := mem_ready.1 hj
      obtain rfl : oj' = oj := by rw [hoj] at hoj'; exact (Option.some.inj hoj').symm
      have hnot : ∀ e ∈ oj'.after, Region.binds md e = true → e.on ≠ i := fun e he hb heq => by
        have h1 := hall e he hb
        have h0 := (mem_ready.1 hr).1
        rw [heq] at h1
        rcases Nat.lt_or_ge i listed.size with h' | h'
        · simp [h'] at h0 h1; rw [h0] at h1; cases h1
        · simp [Array.getElem?_eq_none h'] at h1
      obtain ⟨h1, h2, h3⟩ := Oper.apart_spec (Region.free_spec hi hf j oj' hoj hji hjun hnot)
      refine ⟨m + 1, oj', u, rfl, hoj, fun a' w hag hS => hsj a' w (fun t ht => (hag t ht).trans (put_agree h1 a v t ht).symm) hS, ?_⟩
      refine Plan.take i o v hi hne (free_set hf) (ready_mono hr (Ne.symm hji)) (fun a' w hag hS => hs a' w (fun t ht => (hag t ht).trans (put_agree h3 a u t ht)) hS) ?_
      rw [Array.setIfInBounds_comm _ _ hji, ← Act.put_comm a v u h2]
      exact hp

theorem wpOp_imp {i : Nat} {a : Act} {w : World} {K K' : Act → World → Prop} (hK : ∀ a w, K a w → K' a w) (h : wpOp P ops NoWay i K a w) : wpOp P ops Q i K' a w := by
  have h := wpOp_mono (P := P) (ops := ops) (Q := NoWay) hK h
  unfold wpOp at *
  split
  · simpa [*] using h
  · rename_i o ho
    simp only [ho] at h
    split
    · rename_i hw
      simp only [hw, if_true] at h
      rcases h with h | ⟨_, _, _, h⟩
      case inr => exact h.elim
      refine .inl ?_
      unfold Oper.wp at *
      generalize (execOp a.eval o).run P w = r at *
      cases r with
      | ok n w' =>
        cases n <;> simp only [Oper.upon] at h ⊢ <;> try exact h
        case enter f args =>
          refine Calls.mono h fun e w'' he => ?_
          cases e with
          | returned u => exact he
          | panicked c => exact (he : False).elim
          | outgrown => obtain ⟨_, _, he⟩ := he; exact (he : False).elim
      | halt x w' =>
        cases x <;> simp only [Oper.upon] at h ⊢
        case panic u => exact (h : False).elim
    · rename_i hw
      simp only [hw] at h
      exact h

/-- What is listed, so is all that it waits for. -/
def DC (md : Region.Mode) (ops : Array Oper) (listed : Array Bool) : Prop :=
  ∀ k o, ops[k]? = some o → listed.getD k false = true → ∀ e ∈ o.after, Region.binds md e = true → listed.getD e.on false = true

theorem DC.set {listed : Array Bool} {j : Nat} (h : DC md ops listed) (hj : j ∈ Region.ready md ops listed) : DC md ops (listed.setIfInBounds j true) := by
  intro k o hk hl e he hb
  obtain ⟨_, o', ho', hall⟩ := mem_ready.1 hj
  by_cases hjk : j = k
  · subst hjk
    obtain rfl : o' = o := by rw [ho'] at hk; exact Option.some.inj hk
    exact getD_set_true (hall e he hb)
  · rw [getD_set_ne false hjk] at hl
    exact getD_set_true (h k o hk hl e he hb)

theorem DC.none (n : Nat) : DC md ops (Array.replicate n false) := by
  intro k o _ hl
  by_cases h : k < n <;> simp [h] at hl

/-- 'last' comes up only when nothing else may. -/
def Alone (md : Region.Mode) (ops : Array Oper) (last : Nat) : Prop := ∀ listed, DC md ops listed → last ∈ Region.ready md ops listed → ∀ i ∈ Region.ready md ops listed, i = last

theorem Plan.any {last : Nat} (hL : Alone md ops last) : ∀ (fuel n : Nat) (listed : Array Bool) (a : Act), DC md ops listed → n ≤ fuel → Plan P md ops Q S last n listed a → ∀ w, S w → wpAny P md ops Q fuel listed a w
  | 0, n, listed, a, _, hn, h, w, hS => by
    cases h with
    | done hr h => exact ⟨hr, h w hS⟩
    | stop => omega
    | take => omega
  | fuel + 1, n, listed, a, hd, hn, h, w, hS => by
    refine ⟨fun hr => ?_, fun j hj => ?_⟩
    · cases h with
      | done _ h => exact h w hS
      | stop hr' => rw [hr] at hr'; cases hr'
      | take i o v hi hne hf hr' => rw [hr] at hr'; cases hr'
    · by_cases hjl : j = last
      · subst hjl
        cases h with
        | done hr => rw [hr] at hj; cases hj
        | stop hr hf h => exact wpOp_mono (fun a' w' hq => wpAny_done hf hq fuel) (h w hS)
        | take i o v hi hne hf hr' => exact absurd (hL listed hd hj i hr') hne
      · obtain ⟨m, oj, u, rfl, hoj, hsj, hp⟩ := h.first j hj hjl
        exact wpOp_imp (fun a' w' ⟨hS', he⟩ => by subst he; exact Plan.any hL fuel m _ _ (hd.set hj) (by omega) hp w' hS') (hsj a w (fun _ _ => rfl) hS)

theorem alone_none : Alone md ops ops.size := by
  intro listed _ h
  obtain ⟨_, o, ho, _⟩ := mem_ready.1 h
  simp at ho

/-- From operation k down: what those that are marked wait for is marked. -/
def markDown (md : Region.Mode) (ops : Array Oper) : Nat → Array Bool → Array Bool
  | 0, m => m
  | k + 1, m => markDown md ops k (match ops[k]? with
    | some o => if m.getD k false then (o.after.toList.filter (Region.binds md)).foldl (fun m e => m.setIfInBounds e.on true) m else m
    | none => m)

theorem markDown_spec {listed : Array Bool} (hd : DC md ops listed) : ∀ (k : Nat) (m : Array Bool), (∀ j, m.getD j false = true → listed.getD j false = true) → ∀ j, (markDown md ops k m).getD j false = true → listed.getD j false = true
  | 0, m, h => h
  | k + 1, m, h => by
    refine markDown_spec hd k _ ?_
    split
    · rename_i o ho
      split
      · rename_i hk
        have hall : ∀ e ∈ o.after.toList.filter (Region.binds md), listed.getD e.on false = true := fun e he => by
          rw [List.mem_filter] at he
          exact hd k o ho (h k hk) e (by simpa using he.1) he.2
        generalize o.after.toList.filter (Region.binds md) = es at hall
        clear hk
        induction es generalizing m with
        | nil => exact h
        | cons e es ih =>
          refine ih (m.setIfInBounds e.on true) (fun j hj => ?_) (fun e' he' => hall e' (List.mem_cons_of_mem _ he'))
          by_cases hej : e.on = j
          · subst hej; exact hall e List.mem_cons_self
          · rw [getD_set_ne false hej] at hj; exact h j hj
      · exact h
    · exact h

/-- The last operation of the text waits for all others. -/
def lastOk (md : Region.Mode) (ops : Array Oper) : Bool :=
  (List.range ops.size).all fun k => (markDown md ops ops.size ((Array.replicate ops.size false).setIfInBounds (ops.size - 1) true)).getD k false

theorem alone_last (h : lastOk md ops = true) : Alone md ops (ops.size - 1) := by
  intro listed hd hl i hi
  have hd' := hd.set hl
  have h0 : ∀ j, ((Array.replicate ops.size false).setIfInBounds (ops.size - 1) true).getD j false = true → (listed.setIfInBounds (ops.size - 1) true).getD j false = true := by
    intro j hj
    by_cases hjl : ops.size - 1 = j
    · subst hjl
      have := (mem_ready.1 hl).1
      rcases Nat.lt_or_ge (ops.size - 1) listed.size with h' | h'
      · simp [h']
      · simp [Array.getElem?_eq_none h'] at this
    · rw [getD_set_ne false hjl] at hj
      by_cases h2 : j < ops.size <;> simp [h2] at hj
  obtain ⟨hiun, o, ho, _⟩ := mem_ready.1 hi
  have hlt : i < ops.size := (Array.getElem?_eq_some_iff.1 ho).1
  unfold lastOk at h
  simp only [List.all_eq_true, List.mem_range] at h
  have := markDown_spec hd' _ _ h0 i (h i hlt)
  by_cases hil : i = ops.size - 1
  · exact hil
  · rw [getD_set_ne false (Ne.symm hil)] at this
    rcases Nat.lt_or_ge i listed.size with h' | h'
    · simp [h'] at this hiun; rw [hiun] at this; cases this
    · simp [Array.getElem?_eq_none h'] at hiun

/-- One operation at the act at hand: not wanted; or it yields v, by itself or by a call, and S holds behind it. -/
def StepV (P : Program) (ops : Array Oper) (S : World → Prop) (o : Oper) (v : Value) (a : Act) : Prop :=
  (Region.wanted o (yielded ops a.tmps) = false ∧ v = undef) ∨ (Region.wanted o (yielded ops a.tmps) = true ∧ ∀ w, S w →
    (∃ w', (execOp a.eval o).run P w = .ok (.value v) w' ∧ S w') ∨ (∃ f args w1, (execOp a.eval o).run P w = .ok (.enter f args) w1 ∧ Calls P f args w1 fun e w' => e = .returned v ∧ S w'))

theorem StepV.stepC {i : Nat} {o : Oper} {v : Value} {a : Act} (hi : ops[i]? = some o) (hns : ∀ cs b, o.op ≠ .select cs b) (h : StepV P ops S o v a) : StepC P ops S i o v a := by
  intro a' w hag hS
  unfold wpOp
  simp only [hi]
  rw [wanted_agree o hag]
  rcases h with ⟨hw, rfl⟩ | ⟨hw, h⟩
  · rw [hw]
    exact ⟨hS, rfl⟩
  · rw [hw, if_pos rfl]
    refine .inl ?_
    unfold Oper.wp
    rw [exec_agree o hns hag]
    rcases h w hS with ⟨w', h1, h2⟩ | ⟨f, args, w1, h1, h2⟩
    · rw [h1]; exact ⟨h2, rfl⟩
    · rw [h1]
      refine h2.mono fun e w' ⟨g1, g2⟩ => ?_
      subst g1
      exact ⟨g2, rfl⟩

/-- The region's text, from operation i on; E: what is asked behind it. -/
def PlanL (P : Program) (ops : Array Oper) (E : Act → World → Prop) (S : World → Prop) : List Oper → Act → Prop
  | [], a => ∀ w, S w → E a w
  | o :: os, a => ∃ v, StepV P ops S o v a ∧ PlanL P ops E S os (a.put o.dst v)

/-- The first i of n are listed. -/
def firstOf (n i : Nat) : Array Bool := (List.replicate i true ++ List.replicate (n - i) false).toArray

/-- Each of the first m operations may come up when those ahead of it in the text have, and no other one touches what it does. -/
def frontOk (md : Region.Mode) (ops : Array Oper) (m : Nat) : Bool :=
  Region.noSelect ops && (List.range m).all (fun i => Region.free md ops (firstOf ops.size i) i && (Region.ready md ops (firstOf ops.size i)).contains i)
def planOk (md : Region.Mode) (ops : Array Oper) : Bool := frontOk md ops ops.size && (Region.ready md ops (firstOf ops.size ops.size)).isEmpty
def planLastOk (md : Region.Mode) (ops : Array Oper) : Bool :=
  frontOk md ops (ops.size - 1) && (Region.ready md ops (firstOf ops.size (ops.size - 1)) == [ops.size - 1]) && (Region.ready md ops (firstOf ops.size ops.size)).isEmpty && lastOk md ops

theorem firstOf_set {n i : Nat} (h : i < n) : (firstOf n i).setIfInBounds i true = firstOf n (i + 1) := by
  unfold firstOf
  obtain ⟨m, rfl⟩ : ∃ m, n = i + 1 + m := ⟨n - (i + 1), by omega⟩
  rw [show i + 1 + m - i = m + 1 by omega, show i + 1 + m - (i + 1) = m by omega]
  rw [List.setIfInBounds_toArray]
  congr 1
  rw [List.set_append_right _ _ (by simp)]
  simp only [List.length_replicate, Nat.sub_self, List.replicate_succ, List.set_cons_zero]
  rw [show List.replicate i true ++ true :: List.replicate m false = (List.replicate i true ++ [true]) ++ List.replicate m false by simp, ← List.replicate_succ', List.replicate_succ]

theorem PlanL.plan {m last : Nat} {E : Act → World → Prop} (hok : frontOk md ops m = true) (hm : m ≤ ops.size) (hlast : m ≤ last) {k : Nat}
    (hend : ∀ a, (∀ w, S w → E a w) → Plan P md ops Q S last k (firstOf ops.size m) a) :
    ∀ (l : List Oper) (i : Nat) (a : Act), (ops.toList.take m).drop i = l → i ≤ m → PlanL P ops E S l a → Plan P md ops Q S last (m - i + k) (firstOf ops.size i) a
  | [], i, a, hl, hi, h => by
    have : m ≤ i := by
      have := congrArg List.length hl
      simp at this
      omega
    obtain rfl : i = m := by omega
    rw [Nat.sub_self, Nat.zero_add]
    exact hend a h
  | o :: os, i, a, hl, hi, h => by
    obtain ⟨v, hs, hr⟩ := h
    have hlt : i < m := by
      rcases Nat.lt_or_ge i m with h | h
      · exact h
      · rw [List.drop_eq_nil_of_le (by simp; omega)] at hl; cases hl
    have hio : ops[i]? = some o := by
      have h0 := congrArg (fun l => l[0]?) hl
      simp [hlt] at h0
      simpa using h0
    have hok' := hok
    unfold frontOk at hok'
    simp only [Bool.and_eq_true, List.all_eq_true, List.mem_range] at hok'
    have h1 := hok'.2 i hlt
    rw [show m - i + k = (m - (i + 1) + k) + 1 by omega]
    refine Plan.take i o v hio (by omega) h1.1 (by simpa using h1.2) (hs.stepC hio fun cs b => Region.noSelect_spec hok'.1 i o cs b hio) ?_
    rw [firstOf_set (by omega)]
    refine PlanL.plan hok hm hlast hend os (i + 1) _ ?_ hlt hr
    rw [← List.drop_drop, hl]; rfl

/-- THE LAW: a region that draws its order, walked in the order of its text. -/
theorem wp_region_plan {id : Nat} {a : Act} {w : World} (S : World → Prop) (l : List Oper) (hl : ops.toList = l) (hm : P.follows .mixedOrders = true) (hok : planOk .any ops = true) (hS : S w.drew)
    (h : PlanL P ops (Q .normal) S l a) : (Code.region id ops true).wp P Q a w := by
  refine wp_region_any hm ?_
  unfold planOk at hok
  simp only [Bool.and_eq_true, List.isEmpty_iff] at hok
  have := PlanL.plan (Q := Q) (k := 0) hok.1 (Nat.le_refl _) (Nat.le_refl _) (fun a h => Plan.done hok.2 h) l 0 a (by rw [List.drop_zero, List.take_of_length_le (by simp)]; exact hl) (Nat.zero_le _) h
  refine Plan.any alone_none ops.size (ops.size - 0 + 0) _ a (DC.none _) (by omega) ?_ w.drew hS
  rw [show Array.replicate ops.size false = firstOf ops.size 0 by simp [firstOf]]
  exact this

/-- A list but its last element, and that one. -/
def splitLast : List Oper → Option (List Oper × Oper)
  | [] => none
  | [x] => some ([], x)
  | x :: y :: r => match splitLast (y :: r) with
    | some (l, z) => some (x :: l, z)
    | none => none

theorem splitLast_eq : ∀ {l f : List Oper} {z : Oper}, splitLast l = some (f, z) → l = f ++ [z]
  | [], f, z, h => by simp [splitLast] at h
  | [x], f, z, h => by
    simp only [splitLast, Option.some.injEq, Prod.mk.injEq] at h
    obtain ⟨rfl, rfl⟩ := h
    rfl
  | x :: y :: r, f, z, h => by
    simp only [splitLast] at h
    cases hs : splitLast (y :: r) with
    | none => rw [hs] at h; cases h
    | some p =>
      rw [hs] at h
      simp only [Option.some.injEq, Prod.mk.injEq] at h
      obtain ⟨rfl, rfl⟩ := h
      rw [splitLast_eq (l := y :: r) (f := p.1) (z := p.2) hs]
      rfl

/-- THE SAME where the last operation waits for all others and may change S. -/
theorem wp_region_last {id : Nat} {a : Act} {w : World} (S : World → Prop) (l : List Oper) (o : Oper) (hl0 : splitLast ops.toList = some (l, o)) (hm : P.follows .mixedOrders = true) (hok : planLastOk .any ops = true)
    (hg : o.guard = none) (hS : S w.drew) (h : PlanL P ops (fun a w => o.wp P a w (Q .normal) Q) S l a) : (Code.region id ops true).wp P Q a w := by
  refine wp_region_any hm ?_
  unfold planLastOk at hok
  simp only [Bool.and_eq_true, List.isEmpty_iff, beq_iff_eq] at hok
  have hl := splitLast_eq hl0
  have hn : ops.size = l.length + 1 := by
    have := congrArg List.length hl
    simpa using this
  have ho : ops[ops.size - 1]? = some o := by
    have : ops.toList[ops.size - 1]? = some o := by rw [hl, show ops.size - 1 = l.length by omega]; simp
    simpa using this
  have hw : ∀ y, Region.wanted o y = true := fun y => by unfold Region.wanted; rw [hg]
  have := PlanL.plan (P := P) (Q := Q) (S := S) (last := ops.size - 1) (k := 1) hok.1.1.1 (by omega) (Nat.le_refl _) (fun a h => Plan.stop hok.1.1.2 (by rw [firstOf_set (by omega), show ops.size - 1 + 1 = ops.size by omega]; exact hok.1.2)
    (fun w hS => by unfold wpOp; simp only [ho]; rw [hw, if_pos rfl]; exact .inl (h w hS))) l 0 a (by rw [hl, show ops.size - 1 = l.length by omega]; simp) (Nat.zero_le _) h
  refine Plan.any (alone_last hok.2) ops.size (ops.size - 1 - 0 + 1) _ a (DC.none _) (by omega) ?_ w.drew hS
  rw [show Array.replicate ops.size false = firstOf ops.size 0 by simp [firstOf]]
  exact this

variable {E : Act → World → Prop}
/-- An operation that yields v and lets the world be. -/
theorem PlanL.val {o : Oper} {os : List Oper} {a : Act} {v : Value} (hw : Region.wanted o (yielded ops a.tmps) = true)
    (h : ∀ w, S w → (execOp a.eval o).run P w = .ok (.value v) w) (hr : PlanL P ops E S os (a.put o.dst v)) : PlanL P ops E S (o :: os) a :=
  ⟨v, .inr ⟨hw, fun w hS => .inl ⟨w, h w hS, hS⟩⟩, hr⟩

/-- One that is not wanted. -/
theorem PlanL.skip {o : Oper} {os : List Oper} {a : Act} (hw : Region.wanted o (yielded ops a.tmps) = false) (hr : PlanL P ops E S os (a.put o.dst undef)) : PlanL P ops E S (o :: os) a :=
  ⟨undef, .inl ⟨hw, rfl⟩, hr⟩

/-- A call of a function by its contract: it returns v, and keeps S. -/
theorem PlanL.call {o : Oper} {os : List Oper} {a : Act} {v : Value} {f : FuncId} {args : Array Value} (hw : Region.wanted o (yielded ops a.tmps) = true)
    (he : ∀ w, S w → (execOp a.eval o).run P w = .ok (.enter f args) w) (h : ∀ w, S w → Calls P f args w fun e w' => e = .returned v ∧ S w')
    (hr : PlanL P ops E S os (a.put o.dst v)) : PlanL P ops E S (o :: os) a :=
  ⟨v, .inr ⟨hw, fun w hS => .inr ⟨f, args, w, he w hS, h w hS⟩⟩, hr⟩

/-- An operation that changes the world, and keeps S. -/
theorem PlanL.does {o : Oper} {os : List Oper} {a : Act} {v : Value} (hw : Region.wanted o (yielded ops a.tmps) = true)
    (h : ∀ w, S w → ∃ w', (execOp a.eval o).run P w = .ok (.value v) w' ∧ S w') (hr : PlanL P ops E S os (a.put o.dst v)) : PlanL P ops E S (o :: os) a :=
  ⟨v, .inr ⟨hw, fun w hS => .inl (h w hS)⟩, hr⟩

theorem PlanL.nil {a : Act} (h : ∀ w, S w → E a w) : PlanL P ops E S [] a := h
end

end Go.Proofs.Ytelhckckcilpaaa

namespace Go.Proofs.Ytelhckckcilpaaa
open Go Go.RowKit

theorem isBad_low (p n c i : Nat) (A : Option Addr) (bad : Bool) (w : World) (hb : Blk w p 90 #[.slice A n c, .int .i64 (i : Nat), .bool bad]) :
    Calls Try.prog 63 #[.pointer (some ⟨p, 0, none⟩)] w fun e w' => e = .returned (.bool bad) ∧ w = w' := by
  have F := hb.kb; simp only [KB, CellsAt, Nat.zero_add, Nat.reduceAdd, and_true] at F
  clear hb
  go_enter Try.func63, Try.ntmps63
  go_wp2
  go_ret
  exact ⟨rfl, rfl⟩

theorem left_low (p n c i : Nat) (A : Option Addr) (w : World) (hb : Blk w p 90 #[.slice A n c, .int .i64 (i : Nat), .bool false]) (hn : n ≤ 4611686018427387904) (hi : i ≤ n) :
    Calls Try.prog 83 #[.pointer (some ⟨p, 0, none⟩)] w fun e w' => e = .returned (.int .i64 ((n - i : Nat) : Int)) ∧ Below w.heap.size w w' := by
  have C := isBad_low p n c i A false w hb
  have HK : ∀ w', Below w.heap.size w w' → KB w' [(p, [.slice A n c, .int .i64 (i : Nat), .bool false])] := fun w' hS => (hb.below hS).kb
  have s1 : IntKind.i64.wrap ((n : Int) - (i : Int)) = (n : Int) - (i : Int) := IntWalk.i64_in _ (by omega)
  go_enter Try.func83, Try.ntmps83
  go_wp2_with (first | (go_at_call 63; ((with_reducible refine (C).mono ?_); rintro e w' ⟨rfl, rfl⟩)))
  refine wp_region_plan (fun w' => Below w.heap.size w w') _ rfl (by kernel_rfl) (by kernel_rfl) ((Below.refl _ _).drew) ?_
  repeat (first
    | (refine PlanL.skip (by rfl) ?_; simp only [Act.put, List.setIfInBounds_toArray, List.set_cons_zero, List.set_cons_succ])
    | (refine PlanL.val (v := ?_) (by rfl) ?_ ?_; rotate_left; (focus (intro w' hS; have F := HK _ hS; simp only [KB, CellsAt, Nat.zero_add, Nat.reduceAdd, and_true] at F; go_simp <;> with_reducible rfl)); try simp only [Act.put, List.setIfInBounds_toArray, List.set_cons_zero, List.set_cons_succ]))
  refine PlanL.nil ?_
  intro w' hS
  have F := HK _ hS; simp only [KB, CellsAt, Nat.zero_add, Nat.reduceAdd, and_true] at F
  clear F s1
  go_wp2
  go_ret
  exact ⟨ret_int (by omega), hS⟩


theorem rdone_low (p n c i : Nat) (A : Option Addr) (bad : Bool) (w : World) (hb : Blk w p 90 #[.slice A n c, .int .i64 (i : Nat), .bool bad]) :
    Calls Try.prog 22 #[.pointer (some ⟨p, 0, none⟩)] w fun e w' => e = .returned (.int .i64 (if bad then 30 else 0)) ∧ w = w' := by
  have C := isBad_low p n c i A bad w hb
  clear hb
  cases bad
  all_goals
    go_enter Try.func22, Try.ntmps22
    go_wp2_with (first | (go_at_call 63; ((with_reducible refine (C).mono ?_); rintro e w' ⟨rfl, rfl⟩)))
    go_ret
    exact ⟨rfl, rfl⟩

theorem addr_add_add1 (a : Addr) (i j : Nat) : (a.add i).add j = a.add (i + j) := by
  unfold Addr.add
  by_cases hi : i = 0
  · subst hi; simp
  · by_cases hj : j = 0
    · subst hj; simp [hi]
    · simp [hi, hj, Nat.add_assoc]

/-- A part of a list. -/
theorem lists_part {w : World} {B : Nat} {A : Option Addr} {xs : List Value} (h : Lists w B A xs) (i m : Nat) : Lists w B (A.map (·.add i)) ((xs.drop i).take m) := by
  refine ⟨fun ha => ?_, fun a ha j u hu => ?_, fun a ha hx => ?_⟩
  · cases A with
    | none => rw [h.nil rfl]; simp
    | some a => cases ha
  · cases A with
    | none => cases ha
    | some a0 =>
      cases ha
      rw [addr_add_add1]
      refine h.cell a0 rfl (i + j) u ?_
      rw [List.getElem?_take] at hu
      split at hu
      · rwa [List.getElem?_drop] at hu
      · cases hu
  · cases A with
    | none => cases ha
    | some a0 =>
      cases ha
      rw [addr_add_block]
      exact h.lt a0 rfl (by intro e; subst e; simp at hx)

/-- A slice that reads as xs, of just its capacity. -/
def GavePart (w : World) (xs : List Value) (e : Ending) (w' : World) : Prop := ∃ A, e = .returned (.slice A xs.length xs.length) ∧ Lists w w.heap.size A xs ∧ w = w'

theorem part_any (A : Option Addr) (n c i m : Nat) (xs : List Value) (w : World) (hx : xs.length = n) (hl : Lists w w.heap.size A xs) (hc : n ≤ c) (hc2 : c ≤ 9223372036854775807) (him : i + m ≤ n) :
    Calls Try.prog 84 #[.slice A n c, .int .i64 (i : Nat), .int .i64 (m : Nat)] w fun e w' => GavePart w ((xs.drop i).take m) e w' := by
  have hlen : ((xs.drop i).take m).length = m := by simp only [List.length_take, List.length_drop]; omega
  have hp := lists_part hl i m
  have h1 : (0 : Int) ≤ (i : Int) := by omega
  have h2 : (0 : Int) ≤ (m : Int) := by omega
  have h3 : (i : Int) + (m : Int) ≤ (c : Int) := by omega
  have s1 : wrap64 ((i : Int) + (m : Int)) = (i : Int) + (m : Int) := by unfold wrap64; omega
  have hfin : ∀ (A' : Option Addr) (k : Nat), k = m → (A' = A.map (·.add i) ∨ (A' = A ∧ m = 0)) → GavePart w ((xs.drop i).take m) (.returned (.slice A' k k)) w := fun A' k hk h => by
    subst hk
    refine ⟨A', by rw [hlen], ?_, rfl⟩
    rcases h with rfl | ⟨rfl, h0⟩
    · exact hp
    · rw [h0, List.take_zero]; exact Lists.empty _ _ _
  have HF := Lib.hid hfin
  clear hfin hp hl hlen hx
  by_cases hm0 : m = 0
  · subst hm0
    go_enter Try.func84, Try.ntmps84
    go_wp2
    all_goals go_ret
    all_goals exact HF.out A _ (by first | rfl | trivial | omega) (.inr ⟨rfl, (by trivial)⟩)
  · have hm1 : 0 < m := by omega
    have hm2 : ¬ i + m = i := by omega
    go_enter Try.func84, Try.ntmps84
    go_wp2
    all_goals go_ret
    all_goals exact HF.out _ _ (by omega) (.inl rfl)

end Go.Proofs.Ytelhckckcilpaaa
