/- Part 2 of the proof: Book, Num, Fix1, Know, Sep, Bytes, Wr1, Wr2, Wr3. -/
import Derived.WalkKit
import Derived.Test.YtbomgaacahaofaaRows
import Derived.BigQuiet
import Derived.WalkSmall
import Derived.Deep.QuietTactic
import Derived.Laws.Rows
import Derived.Lib.Hide
import Derived.Outline
import Derived.LoopTactic
import Derived.Test.YtbomgaacahaofaaCP0

namespace Go.Proofs.Ytbomgaacahaofaa
open Go Go.RowKit

section
variable {P : Program} {ops : Array Oper} {Q : Exit → Act → World → Prop}

theorem below_tr {w a c : World} (h : Below w.heap.size w a) (k : Below a.heap.size a c) : Below w.heap.size w c := h.trans (k.mono h.size)

structure BookG (ops : Array Oper) (dst : Nat → Nat) (dep : Nat → List Nat) (eats : Nat → Nat → Bool) (fact : Nat → (Nat → Value) → World → List Nat → Prop) (a0 : Act) (w0 : World) (listed : Array Bool) (a : Act) (w : World) (V : Nat → Value) (F : Nat → List Nat) : Prop where
  size : a.tmps.size = a0.tmps.size
  zero : a.tmps[0]? = a0.tmps[0]?
  defers : a.defers = a0.defers
  below : Below w0.heap.size w0 w
  lsize : listed.size = ops.size
  closed : ∀ i, listed.getD i false = true → ∀ k ∈ dep i, listed.getD k false = true
  val : ∀ i, listed.getD i false = true → a.tmps[dst i]? = some (V i)
  fact : ∀ i, listed.getD i false = true → fact i V w (F i)
  low : ∀ i, listed.getD i false = true → ∀ b ∈ F i, w0.heap.size ≤ b ∧ b < w.heap.size
  sep : ∀ i j, listed.getD i false = true → listed.getD j false = true → i ≠ j → eats i j = false → eats j i = false → ∀ b ∈ F i, b ∉ F j

theorem getD_set {l : Array Bool} {i j : Nat} (h : (l.setIfInBounds i true).getD j false = true) : j = i ∨ l.getD j false = true := by
  by_cases hi : j = i
  · exact .inl hi
  · right
    rw [Array.getD_eq_getD_getElem?, Array.getElem?_setIfInBounds, if_neg (Ne.symm hi)] at h
    rw [Array.getD_eq_getD_getElem?]
    exact h

theorem wp_region_book {id : Nat} {a : Act} {w : World} (hm : P.follows .mixedOrders = true) (dst : Nat → Nat) (hdst : ∀ (i : Nat) (o : Oper), ops[i]? = some o → o.dst = some (dst i))
    (hinj : ∀ i j, i < ops.size → j < ops.size → dst i = dst j → i = j) (hN : ∀ i, i < ops.size → dst i < a.tmps.size ∧ dst i ≠ 0)
    (dep : Nat → List Nat) (hdep : ∀ (i : Nat) (o : Oper), ops[i]? = some o → ∀ k ∈ dep i, k < i ∧ ∃ e ∈ o.after, Region.binds .any e = true ∧ e.on = k) (hback : ∀ (i : Nat) (o : Oper), ops[i]? = some o → ∀ e ∈ o.after, e.on < i)
    (eats : Nat → Nat → Bool) (hone : ∀ j k i, eats j k = true → i ≠ j → eats i k = false ∧ eats k i = false)
    (fact : Nat → (Nat → Value) → World → List Nat → Prop)
    (hst : ∀ i V V1 w w1 F, fact i V w F → (∀ k, k = i ∨ k ∈ dep i → V1 k = V k) → Below w.heap.size w w1 → fact i V1 w1 F)
    (hstep : ∀ (i : Nat) (o : Oper), ops[i]? = some o → ∀ (a1 : Act) (w1 : World) (V : Nat → Value) (F : Nat → List Nat), a1.tmps.size = a.tmps.size → a1.tmps[0]? = a.tmps[0]? → Below w.heap.size w w1 → (∀ k ∈ dep i, a1.tmps[dst k]? = some (V k) ∧ fact k V w1 (F k)) →
      StepO P ops o a1 w1 fun v w2 => Below w1.heap.size w1 w2 ∧ ∃ Fi, fact i (fun k => if k = i then v else V k) w2 Fi ∧ (∀ b ∈ Fi, (∃ k ∈ dep i, eats i k = true ∧ b ∈ F k) ∨ w1.heap.size ≤ b) ∧ ∀ b ∈ Fi, b < w2.heap.size)
    (hend : ∀ (a1 : Act) (w1 : World) (V : Nat → Value) (F : Nat → List Nat) (listed : Array Bool), (∀ i, i < ops.size → listed.getD i false = true) → BookG ops dst dep eats fact a w listed a1 w1 V F → Q .normal a1 w1) : (Code.region id ops true).wp P Q a w := by
  refine wp_region_bag (fun listed a1 w1 => ∃ V F, BookG ops dst dep eats fact a w listed a1 w1 V F) hm ?_ ?_ ?_
  · have hno : ∀ i, (Array.replicate ops.size false).getD i false = true → False := fun i h => by
      rw [Array.getD_eq_getD_getElem?, Array.getElem?_replicate] at h
      split at h <;> simp at h
    exact ⟨fun _ => undef, fun _ => [], rfl, rfl, rfl, (Below.refl _ _).drew, by simp, fun i h => (hno i h).elim, fun i h => (hno i h).elim, fun i h => (hno i h).elim, fun i h => (hno i h).elim, fun i j h => (hno i h).elim⟩
  · rintro i listed a1 w1 hi ⟨V, F, g⟩
    obtain ⟨h1, o, ho, h2⟩ := mem_ready.1 hi
    have hlt : i < ops.size := (Array.getElem?_eq_some_iff.1 ho).1
    have hnl : ∀ j, listed.getD j false = true → j ≠ i := by
      rintro j hj rfl
      rw [Array.getD_eq_getD_getElem?] at h1 hj
      have : j < listed.size := by rw [g.lsize]; exact hlt
      rw [Array.getElem?_eq_getElem this] at h1 hj
      simp at h1 hj
      rw [h1] at hj
      cases hj
    have hd : ∀ k ∈ dep i, listed.getD k false = true := fun k hk => by
      obtain ⟨_, e, he, hb, rfl⟩ := hdep i o ho k hk
      exact h2 e he hb
    have hjlt : ∀ j, listed.getD j false = true → j < ops.size := fun j hj => by
      rcases Nat.lt_or_ge j listed.size with h | h
      · rw [g.lsize] at h; exact h
      · rw [Array.getD_eq_getD_getElem?, Array.getElem?_eq_none h] at hj; cases hj
    refine StepO.wpOp ho ((hstep i o ho a1 w1 V F g.size g.zero g.below fun k hk => ⟨g.val k (hd k hk), g.fact k (hd k hk)⟩).mono ?_)
    rintro v w2 ⟨hb, Fi, hf, hin, hlow⟩
    have hVi : ∀ j, listed.getD j false = true → (fun k => if k = i then v else V k) j = V j := fun j hj => if_neg (hnl j hj)
    have hFi : ∀ j, listed.getD j false = true → (fun k => if k = i then Fi else F k) j = F j := fun j hj => if_neg (hnl j hj)
    have hput : a1.put o.dst v = { a1 with tmps := a1.tmps.setIfInBounds (dst i) v } := by rw [hdst i o ho]; rfl
    have hsepi : ∀ j, listed.getD j false = true → eats i j = false → eats j i = false → ∀ b ∈ Fi, b ∉ F j := by
      intro j hj e1 e2 b hbi hbj
      rcases hin b hbi with ⟨k, hk, hek, hbk⟩ | hbi
      · have hkj : k ≠ j := by rintro rfl; rw [hek] at e1; cases e1
        obtain ⟨q1, q2⟩ := hone i k j hek (hnl j hj)
        exact g.sep k j (hd k hk) hj hkj q2 q1 b hbk hbj
      · have := (g.low j hj b hbj).2
        omega
    refine ⟨fun k => if k = i then v else V k, fun k => if k = i then Fi else F k, ?_, ?_, ?_, below_tr g.below hb, by simpa using g.lsize, ?_, ?_, ?_, ?_, ?_⟩
    · rw [hput]; simpa using g.size
    · rw [hput]
      show (a1.tmps.setIfInBounds (dst i) v)[0]? = _
      rw [Array.getElem?_setIfInBounds, if_neg (hN i hlt).2]
      exact g.zero
    · rw [hput]; exact g.defers
    · intro j hj k hk
      have hkl : listed.getD k false = true := by
        rcases getD_set hj with rfl | hj
        · exact hd k hk
        · exact g.closed j hj k hk
      have hki := hnl k hkl
      rw [Array.getD_eq_getD_getElem?, Array.getElem?_setIfInBounds, if_neg (Ne.symm hki), ← Array.getD_eq_getD_getElem?]
      exact hkl
    · intro j hj
      rw [hput]
      show (a1.tmps.setIfInBounds (dst i) v)[dst j]? = _
      rcases getD_set hj with rfl | hj
      · rw [Array.getElem?_setIfInBounds, if_pos rfl, if_pos (by rw [g.size]; exact (hN _ hlt).1), if_pos rfl]
      · rw [Array.getElem?_setIfInBounds, if_neg (fun e => hnl j hj (hinj i j hlt (hjlt j hj) e).symm), if_neg (hnl j hj)]
        exact g.val j hj
    · intro j hj
      rcases getD_set hj with rfl | hj
      · rw [if_pos rfl]; exact hf
      · rw [if_neg (hnl j hj)]
        refine hst j V _ w1 w2 (F j) (g.fact j hj) (fun k hk => ?_) hb
        rcases hk with rfl | hk
        · exact hVi _ hj
        · exact hVi k (g.closed j hj k hk)
    · intro j hj b hbj
      rcases getD_set hj with rfl | hj
      · rw [if_pos rfl] at hbj
        refine ⟨?_, hlow b hbj⟩
        rcases hin b hbj with ⟨k, hk, _, hbk⟩ | h
        · exact (g.low k (hd k hk) b hbk).1
        · exact Nat.le_trans g.below.size h
      · rw [if_neg (hnl j hj)] at hbj
        have := g.low j hj b hbj
        exact ⟨this.1, Nat.lt_of_lt_of_le this.2 hb.size⟩
    · intro j1 j2 h1 h2 hne e1 e2 b hb1 hb2
      rcases getD_set h1 with l1 | l1
      · subst l1
        rw [if_pos rfl] at hb1
        rcases getD_set h2 with l2 | l2
        · exact hne l2.symm
        · rw [if_neg (hnl _ l2)] at hb2
          exact hsepi _ l2 e1 e2 b hb1 hb2
      · rw [if_neg (hnl _ l1)] at hb1
        rcases getD_set h2 with l2 | l2
        · subst l2
          rw [if_pos rfl] at hb2
          exact hsepi _ l1 e2 e1 b hb2 hb1
        · rw [if_neg (hnl _ l2)] at hb2
          exact g.sep _ _ l1 l2 hne e1 e2 b hb1 hb2
  · rintro listed a1 w1 hr ⟨V, F, g⟩
    refine hend a1 w1 V F listed (fun i => ?_) g
    induction i using Nat.strongRecOn with
    | ind i ih =>
      intro hlt
      have hl : i < listed.size := by rw [g.lsize]; exact hlt
      cases hv : listed[i] with
      | true => rw [Array.getD_eq_getD_getElem?, Array.getElem?_eq_getElem hl, hv]; rfl
      | false =>
        have hmem : i ∈ Region.ready .any ops listed := by
          refine mem_ready.2 ⟨by rw [Array.getD_eq_getD_getElem?, Array.getElem?_eq_getElem hl, hv]; rfl, ops[i], Array.getElem?_eq_getElem hlt, fun e he _ => ?_⟩
          have := hback i _ (Array.getElem?_eq_getElem hlt) e he
          exact ih e.on this (by omega)
        rw [hr] at hmem
        cases hmem
end

end Go.Proofs.Ytbomgaacahaofaa

namespace Go.Proofs.Ytbomgaacahaofaa

/-- may a number be? -/
def mayB (x : Int) : Bool := decide (-2147483648 ≤ x) && decide (x ≤ 2147483648)

/-- the nearest whole number to a quotient -/
def near (a b : Int) : Int := if b < 0 then (2 * (-a) + (-b)) / (2 * (-b)) else (2 * a + b) / (2 * b)

theorem div_unique {a b q : Int} (h1 : b * q ≤ a) (h2 : a < b * q + b) : a / b = q := by
  have hb : 0 < b := by omega
  have h3 : a = b * q + (a - b * q) := by omega
  rw [h3, Int.add_comm, Int.add_mul_ediv_left _ _ (by omega : b ≠ 0), Int.ediv_eq_zero_of_lt (by omega) (by omega)]
  omega

theorem tdiv_floor {a b : Int} (hb : 0 < b) (ha : a < 0) (hm : ¬ a % b = 0) : a.tdiv b - 1 = a / b ∧ ¬ a.tmod b = 0 ∧ a.tdiv b ≤ 0 ∧ a < a.tdiv b  := by
  have hd : ¬ b ∣ a := fun h => hm (Int.emod_eq_zero_of_dvd h)
  have e := @Int.tdiv_eq_ediv a b
  rw [if_neg (by intro h; rcases h with h | h; omega; exact hd h), Int.sign_eq_one_of_pos hb] at e
  have h4 : a / b < 0 := Int.ediv_neg_of_neg_of_pos ha hb
  have h5 : a ≤ a / b := Int.le_ediv_of_mul_le hb (by have := Int.mul_le_mul_of_nonpos_left (a := a) (b := b) (c := 1) (by omega) (by omega); omega)
  exact ⟨by omega, fun h => hd (Int.dvd_of_tmod_eq_zero h), by omega, by omega⟩
theorem tdiv_whole {a b : Int} (hm : a % b = 0) : a.tdiv b = a / b ∧ a.tmod b = 0 := by
  have hd : b ∣ a := Int.dvd_of_emod_eq_zero hm
  have e := @Int.tdiv_eq_ediv a b
  rw [if_pos (.inr hd)] at e
  exact ⟨by omega, Int.tmod_eq_zero_of_dvd hd⟩

theorem near_pos {a b q : Int} (hb : 0 < b) (h1 : 2 * (b * q) ≤ 2 * a + b) (h2 : 2 * a + b < 2 * (b * q) + 2 * b) : near a b = q := by
  unfold near; rw [if_neg (by omega)]
  exact div_unique (by rw [Int.mul_assoc]; exact h1) (by rw [Int.mul_assoc]; exact h2)

theorem near_neg {a b q : Int} (hb : b < 0) (h1 : 2 * (b * q) ≥ 2 * a + b) (h2 : 2 * a + b > 2 * (b * q) + 2 * b) : near a b = q := by
  unfold near; rw [if_pos hb]
  exact div_unique (by rw [Int.mul_assoc, Int.neg_mul]; omega) (by rw [Int.mul_assoc, Int.neg_mul]; omega)

theorem near_same {a b n d : Int} (hn : max a (-a) = n) (hd : max b (-b) = d) (h0 : 0 < d) (hs : (!decide (a < 0) == decide (b < 0)) = false) :
    near a b = n / d + if d ≤ 2 * (n % d) then 1 else 0 := by
  have e := Int.mul_ediv_add_emod n d
  have r0 : 0 ≤ n % d := Int.emod_nonneg n (by omega)
  have r1 : n % d < d := Int.emod_lt_of_pos n h0
  by_cases hb : b < 0
  · have ha : a < 0 := by simp [hb] at hs; exact hs
    obtain rfl : b = -d := by omega
    obtain rfl : a = -n := by omega
    clear hn hd hs
    apply near_neg hb <;> (split <;> simp only [Int.neg_mul, Int.mul_add, Int.mul_one, Int.add_zero] <;> omega)
  · have ha : ¬ a < 0 := by simp [hb] at hs; omega
    obtain rfl : b = d := by omega
    obtain rfl : a = n := by omega
    clear hn hd hs
    apply near_pos h0 <;> (split <;> simp only [Int.mul_add, Int.mul_one, Int.add_zero] <;> omega)

theorem near_diff {a b n d : Int} (hn : max a (-a) = n) (hd : max b (-b) = d) (h0 : 0 < d) (hs : (!decide (a < 0) == decide (b < 0)) = true) :
    near a b = -(n / d + if d < 2 * (n % d) then 1 else 0) := by
  have e := Int.mul_ediv_add_emod n d
  have r0 : 0 ≤ n % d := Int.emod_nonneg n (by omega)
  have r1 : n % d < d := Int.emod_lt_of_pos n h0
  by_cases hb : b < 0
  · have ha : ¬ a < 0 := by simp [hb] at hs; omega
    obtain rfl : b = -d := by omega
    obtain rfl : a = n := by omega
    clear hn hd hs
    apply near_neg hb <;> (split <;> simp only [Int.neg_mul, Int.mul_neg, Int.neg_neg, Int.mul_add, Int.mul_one, Int.add_zero] <;> omega)
  · have ha : a < 0 := by simp [hb] at hs; omega
    obtain rfl : b = d := by omega
    obtain rfl : a = -n := by omega
    clear hn hd hs
    apply near_pos h0 <;> (split <;> simp only [Int.mul_neg, Int.mul_add, Int.mul_one, Int.add_zero] <;> omega)

theorem mul_bound {a b : Int} (A B : Nat) (h1 : -(A : Int) ≤ a) (h2 : a ≤ A) (h3 : -(B : Int) ≤ b) (h4 : b ≤ B) : -((A * B : Nat) : Int) ≤ a * b ∧ a * b ≤ ((A * B : Nat) : Int) := by
  have h : (a * b).natAbs ≤ A * B := by rw [Int.natAbs_mul]; exact Nat.mul_le_mul (by omega) (by omega)
  omega

theorem near_spec (a b : Int) (hb : 1 ≤ b) : -b ≤ 2 * (a - near a b * b) ∧ 2 * (a - near a b * b) < b := by
  unfold near
  rw [if_neg (by omega)]
  have h := Int.mul_ediv_add_emod (2 * a + b) (2 * b)
  have h1 := Int.emod_nonneg (2 * a + b) (show 2 * b ≠ 0 by omega)
  have h2 := Int.emod_lt_of_pos (2 * a + b) (show 0 < 2 * b by omega)
  rw [Int.mul_assoc, Int.mul_comm b] at h
  omega

end Go.Proofs.Ytbomgaacahaofaa

namespace Go.Proofs.Ytbomgaacahaofaa
open Go.RowKit

theorem ret_int {k : IntKind} {a b : Int} (h : a = b) : Ending.returned (.int k a) = .returned (.int k b) := by rw [h]

end Go.Proofs.Ytbomgaacahaofaa

namespace Go.Proofs.Ytbomgaacahaofaa
open Go Go.RowKit

/-- Cells from o on of block b. -/
def CellsAt (w : World) (b : Nat) : Nat → List Value → Prop
  | _, [] => True
  | o, v :: vs => w.cell? ⟨b, o, none⟩ = some v ∧ CellsAt w b (o + 1) vs

/-- Blocks that stand and are not frozen, with what their first cells hold. -/
def KB (w : World) : List (Nat × List Value) → Prop
  | [] => True
  | (b, vs) :: r => b < w.heap.size ∧ (∀ o, w.frozen? ⟨b, o, none⟩ = false) ∧ CellsAt w b 0 vs ∧ KB w r

theorem CellsAt.next {w w1 : World} {b : Nat} (hb : Below w.heap.size w w1) (h : b < w.heap.size) : ∀ {vs : List Value} {o : Nat}, CellsAt w b o vs → CellsAt w1 b o vs
  | [], _, _ => trivial
  | _ :: _, o, H => ⟨(hb.cell (p := ⟨b, o, none⟩) h).trans H.1, CellsAt.next hb h H.2⟩

theorem KB.next {w w1 : World} (hb : Below w.heap.size w w1) : ∀ {l : List (Nat × List Value)}, KB w l → KB w1 l
  | [], _ => trivial
  | _ :: _, H => ⟨Nat.lt_of_lt_of_le H.1 hb.size, fun o => (hb.frozen (p := ⟨_, o, none⟩) H.1).trans (H.2.1 o), H.2.2.1.next hb H.1, H.2.2.2.next hb⟩

theorem cellsAt_new (w : World) (vs : Array Value) (T : TypeId) : ∀ (l : List Value) (o : Nat), vs.toList.drop o = l → CellsAt (w.alloc (.cells vs T)) w.heap.size o l
  | [], _, _ => trivial
  | v :: l, o, h => by
    have hv : vs[o]? = some v := by
      have h0 := congrArg (fun l => l[0]?) h
      simpa using h0
    refine ⟨?_, cellsAt_new w vs T l (o + 1) (by rw [← List.drop_drop, h]; rfl)⟩
    rw [World.cell?_alloc_new]; exact hv

/-- From w0 on nothing of what was there has turned, and this is known of blocks of w. -/
def Known (w0 w : World) (l : List (Nat × List Value)) : Prop := Below w0.heap.size w0 w ∧ KB w l

theorem Known.start (w : World) : Known w w [] := ⟨Below.refl _ _, trivial⟩
theorem Known.next {w0 w w1 : World} {l : List (Nat × List Value)} (H : Known w0 w l) (hb : Below w.heap.size w w1) : Known w0 w1 l := ⟨H.1.trans (hb.mono H.1.size), H.2.next hb⟩
theorem Known.drew {w0 w : World} {l : List (Nat × List Value)} (H : Known w0 w l) : Known w0 w.drew l := H.next ((Below.refl _ _).drew)
theorem Known.alloc {w0 w : World} {l : List (Nat × List Value)} (H : Known w0 w l) (o : Obj) : Known w0 (w.alloc o) l := H.next ((Below.refl _ _).alloc (Nat.le_refl _) o)
theorem Known.new {w0 w : World} {l : List (Nat × List Value)} (H : Known w0 w l) (vs : Array Value) (T : TypeId) : Known w0 (w.alloc (.cells vs T)) ((w.heap.size, vs.toList) :: l) :=
  ⟨(H.alloc _).1, by simp, fun o => World.frozen?_alloc_new w vs T o, cellsAt_new w vs T _ 0 rfl, (H.alloc _).2⟩
theorem Known.drop {w0 w : World} {l : List (Nat × List Value)} {x : Nat × List Value} (H : Known w0 w (x :: l)) : Known w0 w l := ⟨H.1, H.2.2.2.2⟩

/-- A store into a block that stands behind all others that are known: they stay. -/
theorem KB.below {B : Nat} {w w1 : World} (hb : Below B w w1) : ∀ {l : List (Nat × List Value)}, (∀ x ∈ l, x.1 < B) → KB w l → KB w1 l
  | [], _, _ => trivial
  | (b, vs) :: r, hl, H => by
    have h : b < B := hl (b, vs) (List.mem_cons_self)
    refine ⟨Nat.lt_of_lt_of_le H.1 hb.size, fun o => (hb.frozen (p := ⟨b, o, none⟩) h).trans (H.2.1 o), ?_, KB.below hb (fun x hx => hl x (List.mem_cons_of_mem _ hx)) H.2.2.2⟩
    have go : ∀ (vs : List Value) (o : Nat), CellsAt w b o vs → CellsAt w1 b o vs := fun vs => by
      induction vs with
      | nil => intro _ _; trivial
      | cons v vs ih => intro o H; exact ⟨(hb.cell (p := ⟨b, o, none⟩) h).trans H.1, ih _ H.2⟩
    exact go vs 0 H.2.2.1

/-- Four stores into a block. -/
theorem Known.put4 {w0 w8 wr : World} {l : List (Nat × List Value)} {b : Nat} {z0 z1 z2 z3 : Value} (I : Known w0 w8 l) (hb : w8.heap.size ≤ b) (B : Below w8.heap.size w8 wr)
    (hz : b < wr.heap.size) (hf : ∀ o, wr.frozen? ⟨b, o, none⟩ = false) (hc : CellsAt wr b 0 [z0, z1, z2, z3]) (v0 v1 v2 v3 : Value) :
    Known w0 ((((wr.setCell ⟨b, 0, none⟩ v0).setCell ⟨b, 1, none⟩ v1).setCell ⟨b, 2, none⟩ v2).setCell ⟨b, 3, none⟩ v3) ((b, [v0, v1, v2, v3]) :: l) := by
  have K := I.next ((((B.setCell (p := ⟨b, 0, none⟩) hb v0).setCell (p := ⟨b, 1, none⟩) hb v1).setCell (p := ⟨b, 2, none⟩) hb v2).setCell (p := ⟨b, 3, none⟩) hb v3)
  obtain ⟨c0, c1, c2, c3, _⟩ := hc
  simp only [Nat.zero_add, Nat.reduceAdd] at c0 c1 c2 c3
  refine ⟨K.1, ?_, fun o => ?_, ⟨?_, ?_, ?_, ?_, trivial⟩, K.2⟩
  · simpa using hz
  · simp [hf]
  all_goals go_simp

end Go.Proofs.Ytbomgaacahaofaa

namespace Go.Proofs.Ytbomgaacahaofaa
open Go Go.RowKit

/-- w1 is w but for the blocks of fp, and new ones. -/
structure Only (w w1 : World) (fp : List Nat) : Prop where
  os : w1.os = w.os
  tape : w1.tape = w.tape
  output : w1.output = w.output
  size : w.heap.size ≤ w1.heap.size
  block : ∀ b, b < w.heap.size → b ∉ fp → w1.heap[b]? = w.heap[b]?

theorem Only.refl (w : World) (fp : List Nat) : Only w w fp := ⟨rfl, rfl, rfl, Nat.le_refl _, fun _ _ _ => rfl⟩
theorem Only.of_below {w w1 : World} (h : Below w.heap.size w w1) (fp : List Nat) : Only w w1 fp := ⟨h.os, h.tape, h.output, h.size, fun b hb _ => h.block b hb⟩
theorem Only.to_below {w w1 : World} {fp : List Nat} (h : Only w w1 fp) {B : Nat} (hB : B ≤ w.heap.size) (hf : ∀ b ∈ fp, B ≤ b) : Below B w w1 :=
  ⟨h.os, h.tape, h.output, h.size, fun b hb => h.block b (by omega) fun hm => by have := hf b hm; omega⟩
theorem Only.nil_below {w w1 : World} (h : Only w w1 []) : Below w.heap.size w w1 := h.to_below (Nat.le_refl _) fun _ hb => (nomatch hb)
theorem Only.trans {w a c : World} {fp fp1 : List Nat} (h : Only w a fp) (k : Only a c fp1) (hf : ∀ b ∈ fp1, b ∈ fp ∨ w.heap.size ≤ b) : Only w c fp :=
  ⟨k.os.trans h.os, k.tape.trans h.tape, k.output.trans h.output, Nat.le_trans h.size k.size, fun b hb hn => (k.block b (Nat.lt_of_lt_of_le hb h.size) fun hm => by
    rcases hf b hm with h1 | h1
    · exact hn h1
    · omega).trans (h.block b hb hn)⟩
theorem Only.more {w a : World} {fp fp1 : List Nat} (h : Only w a fp) (hs : ∀ b ∈ fp, b ∈ fp1 ∨ w.heap.size ≤ b) : Only w a fp1 :=
  ⟨h.os, h.tape, h.output, h.size, fun b hb hn => h.block b hb fun hm => by
    rcases hs b hm with h1 | h1
    · exact hn h1
    · omega⟩
theorem Only.then_below {w a c : World} {fp : List Nat} (h : Only w a fp) (k : Below a.heap.size a c) : Only w c fp := h.trans (Only.of_below k []) fun _ hb => (nomatch hb)
theorem Only.alloc {w a : World} {fp : List Nat} (h : Only w a fp) (o : Obj) : Only w (a.alloc o) fp := h.then_below ((Below.refl _ _).alloc (Nat.le_refl _) o)
theorem Only.drew {w a : World} {fp : List Nat} (h : Only w a fp) : Only w a.drew fp := h.then_below ((Below.refl _ _).drew)
theorem Only.set {w a : World} {fp : List Nat} (h : Only w a fp) {p : Addr} (hp : p.block ∈ fp ∨ w.heap.size ≤ p.block) (v : Value) : Only w (a.setCell p v) fp :=
  ⟨h.os, h.tape, h.output, by simpa using h.size, fun b hb hn => by
    rw [Below.heap_setCell a p v b (fun e => by subst e; rcases hp with h1 | h1; exact hn h1; omega)]
    exact h.block b hb hn⟩
theorem Only.grown {w a c : World} {fp : List Nat} {row : Option Nat} (h : Only w a fp) (hg : a.grownBy c row) (hr : ∀ b, row = some b → b ∈ fp ∨ w.heap.size ≤ b) : Only w c fp :=
  ⟨hg.os.trans h.os, hg.tape.trans h.tape, hg.output.trans h.output, Nat.le_trans h.size hg.size, fun b hb hn => (hg.block b (Nat.lt_of_lt_of_le hb h.size) fun e => by
    rcases hr b e.symm with h1 | h1
    · exact hn h1
    · omega).trans (h.block b hb hn)⟩

/-- Block p is just these cells, none frozen. -/
def Blk (w : World) (p : Nat) (T : TypeId) (cs : Array Value) : Prop := w.heap[p]? = some (.cells cs T (0, 0))

theorem Blk.lt {w : World} {p : Nat} {T : TypeId} {cs : Array Value} (h : Blk w p T cs) : p < w.heap.size := by
  rcases Nat.lt_or_ge p w.heap.size with h1 | h1
  · exact h1
  · unfold Blk at h; rw [Array.getElem?_eq_none h1] at h; cases h
theorem Blk.cell {w : World} {p : Nat} {T : TypeId} {cs : Array Value} (h : Blk w p T cs) (j : Nat) : w.cell? ⟨p, j, none⟩ = cs[j]? := cell_of_row w p j cs T (0, 0) h
theorem Blk.frozen {w : World} {p : Nat} {T : TypeId} {cs : Array Value} (h : Blk w p T cs) (j : Nat) : w.frozen? ⟨p, j, none⟩ = false := by
  unfold Blk at h; simp [World.frozen?, h]
theorem Blk.new (w : World) (T : TypeId) (cs : Array Value) : Blk (w.alloc (.cells cs T)) w.heap.size T cs := heap_alloc_new w _
theorem Blk.only {w w1 : World} {p : Nat} {T : TypeId} {cs : Array Value} {fp : List Nat} (h : Blk w p T cs) (k : Only w w1 fp) (hn : p ∉ fp) : Blk w1 p T cs := (k.block p h.lt hn).trans h
theorem Blk.below {w w1 : World} {p : Nat} {T : TypeId} {cs : Array Value} (h : Blk w p T cs) (k : Below w.heap.size w w1) : Blk w1 p T cs := (k.block p h.lt).trans h
theorem Blk.set {w : World} {p : Nat} {T : TypeId} {cs : Array Value} (h : Blk w p T cs) (j : Nat) (v : Value) : Blk (w.setCell ⟨p, j, none⟩ v) p T (cs.setIfInBounds j v) := by
  unfold Blk at *; simp [World.setCell, Array.getElem?_modify, h]
theorem Blk.other {w : World} {p : Nat} {T : TypeId} {cs : Array Value} (h : Blk w p T cs) {q : Addr} (hq : p ≠ q.block) (v : Value) : Blk (w.setCell q v) p T cs := (Below.heap_setCell w q v p hq).trans h
theorem Blk.kb {w : World} {p : Nat} {T : TypeId} {cs : Array Value} (h : Blk w p T cs) : KB w [(p, cs.toList)] := by
  refine ⟨h.lt, fun o => h.frozen o, ?_, trivial⟩
  have go : ∀ (l : List Value) (o : Nat), cs.toList.drop o = l → CellsAt w p o l := by
    intro l
    induction l with
    | nil => intro _ _; trivial
    | cons v l ih =>
      intro o ho
      refine ⟨?_, ih (o + 1) (by rw [← List.drop_drop, ho]; rfl)⟩
      rw [h.cell]
      have h0 := congrArg (fun l => l[0]?) ho
      simpa using h0
  exact go _ 0 rfl

/-- The block of a slice that the call owns. -/
def blk (v : Value) : List Nat := v.ownBlock.toList

theorem own_only {w w1 : World} {base : Nat} {e : TypeId} {size n : Nat} {v : Value} {xs : List Value} {fp : List Nat} (h : w.ownsRow base e size v n xs) (k : Only w w1 fp) (hn : ∀ b ∈ blk v, b ∉ fp) : w1.ownsRow base e size v n xs := by
  refine ⟨h.1, ?_⟩
  have hlt := h.lt
  rcases h.2 with h1 | ⟨g, cap, cur, rfl, h2, h3, h4⟩
  · exact .inl h1
  · exact .inr ⟨g, cap, cur, rfl, h2, (k.block g (hlt g rfl).2 (hn g (by simp [blk, Value.ownBlock]))).trans h3, h4⟩

theorem lists_only {w w1 : World} {B : Nat} {A : Option Addr} {xs : List Value} {fp : List Nat} (h : Lists w B A xs) (hB : B ≤ w.heap.size) (k : Only w w1 fp) (hn : ∀ a, A = some a → xs ≠ [] → a.block ∉ fp) : Lists w1 B A xs :=
  ⟨h.nil, fun a ha j u hu => by
    have hx : xs ≠ [] := by intro e; subst e; simp at hu
    have hb : w1.heap[(a.add j).block]? = w.heap[(a.add j).block]? := by
      rw [addr_add_block]
      exact k.block _ (Nat.lt_of_lt_of_le (h.lt a ha hx) hB) (hn a ha hx)
    exact (World.cell?_of_block hb).trans (h.cell a ha j u hu), h.lt⟩

theorem blk_lt {w : World} {base : Nat} {e : TypeId} {size n : Nat} {v : Value} {xs : List Value} (h : w.ownsRow base e size v n xs) : ∀ b ∈ blk v, b < w.heap.size := by
  intro b hb
  simp only [blk, Option.mem_toList] at hb
  exact (h.lt b hb).2

end Go.Proofs.Ytbomgaacahaofaa

namespace Go.Proofs.Ytbomgaacahaofaa
open Go Go.RowKit

def zero8 : Value := .int .u8 0

/-- Data from a place on, with so many zeros ahead of each gap's place. -/
def expand (D : List Value) : Nat → List (Nat × Nat) → List Value
  | i, [] => D.drop i
  | i, (a, z) :: G => (D.drop i).take (a - i) ++ List.replicate z zero8 ++ expand D a G

/-- The gaps' places rise, and are none beyond n; none is empty. -/
def GapsOk : Nat → List (Nat × Nat) → Nat → Prop
  | i, [], n => i ≤ n
  | i, (a, z) :: G, n => i ≤ a ∧ 1 ≤ z ∧ GapsOk a G n

def gapSum (G : List (Nat × Nat)) : Nat := (G.map (·.2)).sum

theorem GapsOk.le : ∀ {G : List (Nat × Nat)} {i n : Nat}, GapsOk i G n → i ≤ n
  | [], _, _, h => h
  | _ :: _, _, _, h => Nat.le_trans h.1 h.2.2.le
theorem GapsOk.more : ∀ {G : List (Nat × Nat)} {i n m : Nat}, GapsOk i G n → n ≤ m → GapsOk i G m
  | [], _, _, _, h, hm => Nat.le_trans h hm
  | _ :: _, _, _, _, h, hm => ⟨h.1, h.2.1, h.2.2.more hm⟩
theorem GapsOk.snoc {z : Nat} (hz : 1 ≤ z) : ∀ {G : List (Nat × Nat)} {i n : Nat}, GapsOk i G n → GapsOk i (G ++ [(n, z)]) n
  | [], _, _, h => ⟨h, hz, Nat.le_refl _⟩
  | _ :: _, _, _, h => ⟨h.1, h.2.1, GapsOk.snoc hz h.2.2⟩
theorem GapsOk.count : ∀ {G : List (Nat × Nat)} {i n : Nat}, GapsOk i G n → G.length ≤ gapSum G
  | [], _, _, _ => Nat.zero_le _
  | (a, z) :: G, _, _, h => by
    have := h.2.2.count
    have h1 := h.2.1
    simp only [gapSum, List.map_cons, List.sum_cons, List.length_cons] at *
    omega

theorem expand_data (D E : List Value) : ∀ (G : List (Nat × Nat)) (i : Nat), GapsOk i G D.length → expand (D ++ E) i G = expand D i G ++ E
  | [], i, h => by simp only [expand]; rw [List.drop_append_of_le_length h]
  | (a, z) :: G, i, h => by
    have hle := h.2.2.le
    simp only [expand]
    rw [expand_data D E G a h.2.2, List.drop_append_of_le_length (by have := h.1; omega), List.take_append_of_le_length (by rw [List.length_drop]; omega)]
    simp only [List.append_assoc]

theorem expand_gap (D : List Value) (z : Nat) : ∀ (G : List (Nat × Nat)) (i : Nat), GapsOk i G D.length → expand D i (G ++ [(D.length, z)]) = expand D i G ++ List.replicate z zero8
  | [], i, h => by
    simp only [List.nil_append, expand]
    rw [List.take_of_length_le (by rw [List.length_drop]; omega), List.drop_eq_nil_of_le (Nat.le_refl _)]
    simp
  | (a, y) :: G, i, h => by
    simp only [List.cons_append, expand]
    rw [expand_gap D z G a h.2.2]
    simp only [List.append_assoc]

theorem expand_len (D : List Value) : ∀ (G : List (Nat × Nat)) (i : Nat), GapsOk i G D.length → (expand D i G).length = D.length - i + gapSum G
  | [], i, _ => by simp [expand, gapSum]
  | (a, z) :: G, i, h => by
    have hle := h.2.2.le
    have h1 := h.1
    simp only [expand, List.length_append, List.length_replicate, List.length_take, List.length_drop]
    rw [expand_len D G a h.2.2]
    simp only [gapSum, List.map_cons, List.sum_cons]
    omega

/-- The cells of gaps. -/
def gapCells : List (Nat × Nat) → List Value
  | [] => []
  | (a, z) :: G => .int .i64 (a : Int) :: .int .i64 (z : Int) :: gapCells G
theorem gapCells_len : ∀ G : List (Nat × Nat), (gapCells G).length = G.length * 2
  | [] => rfl
  | _ :: G => by simp only [gapCells, List.length_cons, gapCells_len G]; omega
theorem gapCells_snoc (a z : Nat) : ∀ G : List (Nat × Nat), gapCells (G ++ [(a, z)]) = gapCells G ++ [.int .i64 (a : Int), .int .i64 (z : Int)]
  | [] => rfl
  | (_, _) :: G => by simp only [List.cons_append, gapCells, gapCells_snoc a z G]
theorem gapCells_at : ∀ (G : List (Nat × Nat)) (k : Nat) (a z : Nat), G[k]? = some (a, z) → (gapCells G)[k * 2]? = some (.int .i64 (a : Int)) ∧ (gapCells G)[k * 2 + 1]? = some (.int .i64 (z : Int))
  | [], k, a, z, h => by simp at h
  | (b, y) :: G, 0, a, z, h => by
    simp only [List.getElem?_cons_zero, Option.some.injEq, Prod.mk.injEq] at h
    obtain ⟨rfl, rfl⟩ := h
    exact ⟨rfl, rfl⟩
  | (b, y) :: G, k + 1, a, z, h => by
    have := gapCells_at G k a z (by simpa using h)
    rw [show (k + 1) * 2 = k * 2 + 1 + 1 by omega]
    exact this

/-- Each is a byte. -/
def Bytes8 (l : List Value) : Prop := ∀ u ∈ l, ∃ x : Nat, x < 256 ∧ u = .int .u8 (x : Int)
theorem Bytes8.one {l : List Value} (h : Bytes8 l) : ∀ u ∈ l, u.oneCell' = true := fun u hu => by
  obtain ⟨x, _, rfl⟩ := h u hu
  rfl
theorem Bytes8.append {l m : List Value} (h : Bytes8 l) (k : Bytes8 m) : Bytes8 (l ++ m) := fun u hu => by
  rcases List.mem_append.1 hu with h1 | h1
  · exact h u h1
  · exact k u h1
theorem Bytes8.zeros (n : Nat) : Bytes8 (List.replicate n zero8) := fun u hu => ⟨0, by omega, (List.mem_replicate.1 hu).2⟩

theorem own_ne {w : World} {base p : Nat} {e T : TypeId} {size n : Nat} {v : Value} {xs : List Value} {cs : Array Value} (h : w.ownsRow base e size v n xs) (hb : Blk w p T cs) (hne : e ≠ T) : p ∉ blk v := by
  intro hm
  rcases h.2 with ⟨rfl, _⟩ | ⟨g, cap, cur, rfl, _, hh, _⟩
  · simp [blk, Value.ownBlock] at hm
  · have : p = g := by simpa [blk, Value.ownBlock] using hm
    subst this
    unfold Blk at hb
    rw [hh] at hb
    injection hb with hb
    injection hb with _ ht
    exact hne ht
theorem own_own {w : World} {base base1 : Nat} {e e1 : TypeId} {size n size1 n1 : Nat} {v v1 : Value} {xs xs1 : List Value} (h : w.ownsRow base e size v n xs) (h1 : w.ownsRow base1 e1 size1 v1 n1 xs1) (hne : e ≠ e1) : ∀ b ∈ blk v, b ∉ blk v1 := by
  intro b hb hm
  rcases h.2 with ⟨rfl, _⟩ | ⟨g, cap, cur, rfl, _, hh, _⟩
  · simp [blk, Value.ownBlock] at hb
  · rcases h1.2 with ⟨rfl, _⟩ | ⟨g1, cap1, cur1, rfl, _, hh1, _⟩
    · simp [blk, Value.ownBlock] at hm
    · have e1 : b = g := by simpa [blk, Value.ownBlock] using hb
      have e2 : b = g1 := by simpa [blk, Value.ownBlock] using hm
      subst e1 e2
      rw [hh] at hh1
      injection hh1 with hh1
      injection hh1 with _ ht
      exact hne ht

end Go.Proofs.Ytbomgaacahaofaa

namespace Go.Proofs.Ytbomgaacahaofaa
open Go Go.RowKit

theorem wlen_low (p R : Nat) (F : Bool) (A : Option Addr) (n c z : Nat) (gv : Value) (w : World) (hb : Blk w p 108 #[.int .i64 (R : Nat), .bool F, .slice A n c, gv, .int .i64 (z : Nat)]) (hn : n + z ≤ 4611686018427387904) :
    Calls Try.prog 58 #[.pointer (some ⟨p, 0, none⟩)] w fun e w' => e = .returned (.int .i64 ((n + z : Nat) : Int)) ∧ Below w.heap.size w w' := by
  have HK : ∀ w', Below w.heap.size w w' → KB w' [(p, [.int .i64 (R : Nat), .bool F, .slice A n c, gv, .int .i64 (z : Nat)])] := fun w' hS => (hb.below hS).kb
  have s1 : IntKind.i64.wrap ((n : Int) + (z : Int)) = (n : Int) + (z : Int) := IntWalk.i64_in _ (by omega)
  go_enter Try.func58, Try.ntmps58
  go_wp2
  refine wp_region_plan (fun w' => Below w.heap.size w w') _ rfl (by kernel_rfl) (by kernel_rfl) ((Below.refl _ _).drew) ?_
  repeat (first
    | (refine PlanL.skip (by rfl) ?_; simp only [Act.put, List.setIfInBounds_toArray, List.set_cons_zero, List.set_cons_succ])
    | (refine PlanL.val (v := ?_) (by rfl) ?_ ?_; rotate_left; (focus (intro w' hS; have F := HK _ hS; simp only [KB, CellsAt, Nat.zero_add, Nat.reduceAdd, and_true] at F; go_simp <;> with_reducible rfl)); try simp only [Act.put, List.setIfInBounds_toArray, List.set_cons_zero, List.set_cons_succ]))
  refine PlanL.nil ?_
  intro w' hS
  have F := HK _ hS; simp only [KB, CellsAt, Nat.zero_add, Nat.reduceAdd, and_true] at F
  clear F s1
  go_wp2
  go_ret
  exact ⟨ret_int (by simp), hS⟩

theorem fits_full (p R : Nat) (A : Option Addr) (n c z : Nat) (gv : Value) (x : Int) (w : World) (hb : Blk w p 108 #[.int .i64 (R : Nat), .bool true, .slice A n c, gv, .int .i64 (z : Nat)]) :
    Calls Try.prog 74 #[.pointer (some ⟨p, 0, none⟩), .int .i64 x] w fun e w' => e = .returned (.bool false) ∧ Blk w' p 108 #[.int .i64 (R : Nat), .bool true, .slice A n c, gv, .int .i64 (z : Nat)] ∧ Only w w' [p] := by
  have HK : ∀ w', Below w.heap.size w w' → KB w' [(p, [.int .i64 (R : Nat), .bool true, .slice A n c, gv, .int .i64 (z : Nat)])] := fun w' hS => (hb.below hS).kb
  skip
  go_enter Try.func74, Try.ntmps74
  go_wp2
  refine wp_region_last (fun w' => Below w.heap.size w w') _ _ (by rfl) (by kernel_rfl) (by kernel_rfl) (by rfl) ((Below.refl _ _).drew) ?_
  repeat (first
    | (refine PlanL.skip (by rfl) ?_; simp only [Act.put, List.setIfInBounds_toArray, List.set_cons_zero, List.set_cons_succ])
    | (refine PlanL.val (v := ?_) (by rfl) ?_ ?_; rotate_left; (focus (intro w' hS; have F := HK _ hS; simp only [KB, CellsAt, Nat.zero_add, Nat.reduceAdd, and_true] at F; go_simp <;> with_reducible rfl)); try simp only [Act.put, List.setIfInBounds_toArray, List.set_cons_zero, List.set_cons_succ]))
  refine PlanL.nil ?_
  intro w' hS
  have F := HK _ hS; simp only [KB, CellsAt, Nat.zero_add, Nat.reduceAdd, and_true] at F
  have hb1 := (hb.below hS).set 1 (.bool true)
  go_wp2
  go_ret
  refine ⟨rfl, hb1, (Only.of_below hS [p]).set (.inl (by simp)) _⟩

theorem fits_no (p R : Nat) (A : Option Addr) (n c z : Nat) (gv : Value) (x : Int) (w : World) (hb : Blk w p 108 #[.int .i64 (R : Nat), .bool false, .slice A n c, gv, .int .i64 (z : Nat)]) (hn : n + z ≤ 4611686018427387904) (hR : R ≤ 4611686018427387904) (hx : (R : Int) - ((n + z : Nat) : Int) < x) :
    Calls Try.prog 74 #[.pointer (some ⟨p, 0, none⟩), .int .i64 x] w fun e w' => e = .returned (.bool false) ∧ Blk w' p 108 #[.int .i64 (R : Nat), .bool true, .slice A n c, gv, .int .i64 (z : Nat)] ∧ Only w w' [p] := by
  have HK : ∀ w', Below w.heap.size w w' → KB w' [(p, [.int .i64 (R : Nat), .bool false, .slice A n c, gv, .int .i64 (z : Nat)])] := fun w' hS => (hb.below hS).kb
  have s1 : IntKind.i64.wrap ((R : Int) - ((n : Int) + (z : Int))) = (R : Int) - ((n : Int) + (z : Int)) := IntWalk.i64_in _ (by omega)
  have d1 : decide ((R : Int) - ((n : Int) + (z : Int)) < x) = true := by simpa using hx
  go_enter Try.func74, Try.ntmps74
  go_wp2
  refine wp_region_last (fun w' => Below w.heap.size w w') _ _ (by rfl) (by kernel_rfl) (by kernel_rfl) (by rfl) ((Below.refl _ _).drew) ?_
  repeat (first
    | (refine PlanL.skip (by rfl) ?_; simp only [Act.put, List.setIfInBounds_toArray, List.set_cons_zero, List.set_cons_succ])
    | (refine PlanL.val (v := ?_) (by rfl) ?_ ?_; rotate_left; (focus (intro w' hS; have F := HK _ hS; simp only [KB, CellsAt, Nat.zero_add, Nat.reduceAdd, and_true] at F; go_simp <;> with_reducible rfl)); try simp only [Act.put, List.setIfInBounds_toArray, List.set_cons_zero, List.set_cons_succ])
    | (refine PlanL.call (v := ?_) (f := ?_) (args := ?_) (by rfl) ?_ ?_ ?_; rotate_left 3; (focus (intro w' hS; have F := HK _ hS; simp only [KB, CellsAt, Nat.zero_add, Nat.reduceAdd, and_true] at F; go_simp; (constructor <;> with_reducible rfl))); (focus (intro w' hS; first | ((with_reducible refine (wlen_low p R _ A n c z gv w' (hb.below hS) hn).mono ?_); rintro e w'' ⟨rfl, b⟩; refine ⟨?_, (Below.trans hS (b.mono hS.size))⟩; with_reducible rfl) | fail)); try simp only [Act.put, List.setIfInBounds_toArray, List.set_cons_zero, List.set_cons_succ]))
  refine PlanL.nil ?_
  intro w' hS
  have F := HK _ hS; simp only [KB, CellsAt, Nat.zero_add, Nat.reduceAdd, and_true] at F
  have hb1 := (hb.below hS).set 1 (.bool true)
  go_wp2
  go_ret
  refine ⟨rfl, hb1, (Only.of_below hS [p]).set (.inl (by simp)) _⟩

theorem fits_yes (p R : Nat) (A : Option Addr) (n c z : Nat) (gv : Value) (x : Int) (w : World) (hb : Blk w p 108 #[.int .i64 (R : Nat), .bool false, .slice A n c, gv, .int .i64 (z : Nat)]) (hn : n + z ≤ 4611686018427387904) (hR : R ≤ 4611686018427387904) (hx : x ≤ (R : Int) - ((n + z : Nat) : Int)) :
    Calls Try.prog 74 #[.pointer (some ⟨p, 0, none⟩), .int .i64 x] w fun e w' => e = .returned (.bool true) ∧ Blk w' p 108 #[.int .i64 (R : Nat), .bool false, .slice A n c, gv, .int .i64 (z : Nat)] ∧ Only w w' [p] := by
  have HK : ∀ w', Below w.heap.size w w' → KB w' [(p, [.int .i64 (R : Nat), .bool false, .slice A n c, gv, .int .i64 (z : Nat)])] := fun w' hS => (hb.below hS).kb
  have s1 : IntKind.i64.wrap ((R : Int) - ((n : Int) + (z : Int))) = (R : Int) - ((n : Int) + (z : Int)) := IntWalk.i64_in _ (by omega)
  have d1 : decide ((R : Int) - ((n : Int) + (z : Int)) < x) = false := by simpa using hx
  go_enter Try.func74, Try.ntmps74
  go_wp2
  refine wp_region_last (fun w' => Below w.heap.size w w') _ _ (by rfl) (by kernel_rfl) (by kernel_rfl) (by rfl) ((Below.refl _ _).drew) ?_
  repeat (first
    | (refine PlanL.skip (by rfl) ?_; simp only [Act.put, List.setIfInBounds_toArray, List.set_cons_zero, List.set_cons_succ])
    | (refine PlanL.val (v := ?_) (by rfl) ?_ ?_; rotate_left; (focus (intro w' hS; have F := HK _ hS; simp only [KB, CellsAt, Nat.zero_add, Nat.reduceAdd, and_true] at F; go_simp <;> with_reducible rfl)); try simp only [Act.put, List.setIfInBounds_toArray, List.set_cons_zero, List.set_cons_succ])
    | (refine PlanL.call (v := ?_) (f := ?_) (args := ?_) (by rfl) ?_ ?_ ?_; rotate_left 3; (focus (intro w' hS; have F := HK _ hS; simp only [KB, CellsAt, Nat.zero_add, Nat.reduceAdd, and_true] at F; go_simp; (constructor <;> with_reducible rfl))); (focus (intro w' hS; first | ((with_reducible refine (wlen_low p R _ A n c z gv w' (hb.below hS) hn).mono ?_); rintro e w'' ⟨rfl, b⟩; refine ⟨?_, (Below.trans hS (b.mono hS.size))⟩; with_reducible rfl) | fail)); try simp only [Act.put, List.setIfInBounds_toArray, List.set_cons_zero, List.set_cons_succ]))
  refine PlanL.nil ?_
  intro w' hS
  have F := HK _ hS; simp only [KB, CellsAt, Nat.zero_add, Nat.reduceAdd, and_true] at F
  have hb1 := (hb.below hS).set 1 (.bool false)
  go_wp2
  go_ret
  refine ⟨rfl, hb1, (Only.of_below hS [p]).set (.inl (by simp)) _⟩

end Go.Proofs.Ytbomgaacahaofaa

namespace Go.Proofs.Ytbomgaacahaofaa
open Go Go.RowKit

/-- A writer at block p: its room, whether it is full, the bytes that it has taken; fp: the blocks that it owns. -/
def Wr (w : World) (p R : Nat) (F : Bool) (L : List Value) (fp : List Nat) : Prop :=
  ∃ (D : List Value) (G : List (Nat × Nat)) (dv gv : Value), Blk w p 108 #[.int .i64 (R : Nat), .bool F, dv, gv, .int .i64 (gapSum G : Nat)] ∧ w.ownsRow 0 5 1 dv D.length D ∧ w.ownsRow 0 110 2 gv G.length (gapCells G) ∧
    GapsOk 0 G D.length ∧ Bytes8 D ∧ L = expand D 0 G ∧ L.length ≤ R ∧ fp = p :: (blk dv ++ blk gv)

/-- What becomes of a writer that is handed E. -/
def putF (R : Nat) (F : Bool) (L E : List Value) : Bool := F || decide (R < L.length + E.length)
def putL (R : Nat) (F : Bool) (L E : List Value) : List Value := if putF R F L E then L else L ++ E
def Put (w w' : World) (p R : Nat) (F : Bool) (L : List Value) (fp : List Nat) (E : List Value) : Prop :=
  ∃ fp', Wr w' p R (putF R F L E) (putL R F L E) fp' ∧ Only w w' fp ∧ ∀ b ∈ fp', b ∈ fp ∨ w.heap.size ≤ b

theorem u8Info : (Try.prog.info? 5).map (fun i => (i.zero, i.size, i.bytes)) = some (some (.int .u8 0), 1, 1) := by kernel_rfl
theorem gapInfo : (Try.prog.info? 110).map (fun i => (i.zero, i.size, i.bytes)) = some (some (.agg #[.int .i64 0, .int .i64 0]), 2, 16) := by kernel_rfl
theorem ret_ptr (p : Nat) : Ending.returned (.pointer (some ⟨p, 0, none⟩)) = Ending.returned (.pointer (some ⟨p, 0, none⟩)) := rfl

theorem Wr.lt {w : World} {p R : Nat} {F : Bool} {L : List Value} {fp : List Nat} (h : Wr w p R F L fp) : ∀ b ∈ fp, b < w.heap.size := by
  obtain ⟨D, G, dv, gv, hb, hd, hg, _, _, _, _, rfl⟩ := h
  intro b hm
  rcases List.mem_cons.1 hm with rfl | hm
  · exact hb.lt
  · rcases List.mem_append.1 hm with hm | hm
    · exact blk_lt hd b hm
    · exact blk_lt hg b hm

/-- A writer stays where other blocks are changed. -/
theorem Wr.only {w w1 : World} {p R : Nat} {F : Bool} {L : List Value} {fp fq : List Nat} (h : Wr w p R F L fp) (k : Only w w1 fq) (hn : ∀ b ∈ fp, b ∉ fq) : Wr w1 p R F L fp := by
  obtain ⟨D, G, dv, gv, hb, hd, hg, h1, h2, h3, h4, rfl⟩ := h
  exact ⟨D, G, dv, gv, hb.only k (hn p (by simp)), own_only hd k (fun b hm => hn b (by simp [hm])), own_only hg k (fun b hm => hn b (by simp [hm])), h1, h2, h3, h4, rfl⟩

theorem wlen_any (p R : Nat) (F : Bool) (L : List Value) (fp : List Nat) (w : World) (h : Wr w p R F L fp) (hR : R ≤ 1099511627776) :
    Calls Try.prog 58 #[.pointer (some ⟨p, 0, none⟩)] w fun e w' => e = .returned (.int .i64 (L.length : Nat)) ∧ Below w.heap.size w w' := by
  obtain ⟨D, G, dv, gv, hb, hd, hg, h1, h2, h3, h4, rfl⟩ := h
  have hl := expand_len D G 0 h1
  obtain ⟨A, c, rfl, _, _⟩ := own_lists hd
  refine (wlen_low p R F A D.length c (gapSum G) gv w hb (by rw [← h3] at hl; omega)).mono fun e w' ⟨h5, h6⟩ => ⟨?_, h6⟩
  rw [h5, h3, hl, Nat.sub_zero]

theorem put_full (w w' : World) (p R : Nat) (F : Bool) (L : List Value) (fp : List Nat) (E : List Value) (hf : putF R F L E = true) (hW : Wr w p R F L fp) (dv gv : Value) (D : List Value) (G : List (Nat × Nat))
    (hd : w.ownsRow 0 5 1 dv D.length D) (hg : w.ownsRow 0 110 2 gv G.length (gapCells G)) (h1 : GapsOk 0 G D.length) (h2 : Bytes8 D) (h3 : L = expand D 0 G) (h4 : L.length ≤ R) (h5 : fp = p :: (blk dv ++ blk gv))
    (hb : Blk w p 108 #[.int .i64 (R : Nat), .bool F, dv, gv, .int .i64 (gapSum G : Nat)]) (hb' : Blk w' p 108 #[.int .i64 (R : Nat), .bool true, dv, gv, .int .i64 (gapSum G : Nat)]) (ho : Only w w' [p]) : Put w w' p R F L fp E := by
  have n1 := own_ne hd hb (by decide)
  have n2 := own_ne hg hb (by decide)
  refine ⟨fp, ?_, ho.more (fun b hm => by simp at hm; subst hm; subst h5; simp), fun b hm => .inl hm⟩
  unfold putL
  rw [hf, if_pos rfl]
  exact ⟨D, G, dv, gv, hb', own_only hd ho (fun b hm e => by simp at e; subst e; exact n1 hm), own_only hg ho (fun b hm e => by simp at e; subst e; exact n2 hm), h1, h2, h3, h4, h5⟩

set_option maxRecDepth 100000 in
theorem data_any (p R : Nat) (F : Bool) (L : List Value) (fp : List Nat) (A : Option Addr) (m c B : Nat) (E : List Value) (w : World) (hW : Wr w p R F L fp) (hR : R ≤ 1099511627776) (hE : Lists w B A E) (hm : E.length = m) (hB : B ≤ w.heap.size) (h8 : Bytes8 E) (hfar : ∀ a, A = some a → E ≠ [] → a.block ≠ p) :
    Calls Try.prog 72 #[.pointer (some ⟨p, 0, none⟩), .slice A m c] w fun e w' => e = .returned (.pointer (some ⟨p, 0, none⟩)) ∧ Put w w' p R F L fp E := by
  obtain ⟨D, G, dv, gv, hb, hd, hg, h1, h2, h3, h4, h5⟩ := id hW
  have hl := expand_len D G 0 h1
  rw [← h3, Nat.sub_zero] at hl
  obtain ⟨A0, c0, rfl, hd0, hc0⟩ := own_lists hd
  cases hf : putF R F L E
  · -- it fits
    have hF : F = false := by unfold putF at hf; simp at hf; exact hf.1
    have hx : L.length + E.length ≤ R := by unfold putF at hf; simp at hf; exact hf.2
    subst hF
    have C := fits_yes p R A0 D.length c0 (gapSum G) gv (m : Int) w hb (by omega) (by omega) (by omega)
    obtain ⟨i0, hi, hz0, hz1, hz2⟩ := info_parts u8Info
    have n1 := own_ne hd hb (by decide)
    have n2 := own_ne hg hb (by decide)
    have n3 := own_own hd hg (by decide)
    have HM := Lib.hid hm
    have HL := Lib.hid hl
    have H3 := Lib.hid h3
    have H5 := Lib.hid h5
    have HF := Lib.hid hf
    have HW := Lib.hid hW
    have HFAR := Lib.hid hfar
    clear hm hl h3 h5 hf hW hfar
    go_enter Try.func72, Try.ntmps72
    go_wp2_with (first | (go_at_call 74; ((with_reducible refine (C).mono ?_); rintro e w1 ⟨rfl, hb1, ho1⟩; have F1 := hb1.kb; simp only [KB, CellsAt, Nat.zero_add, Nat.reduceAdd, and_true] at F1)) | (at_builtin; refine wpList_append_src _ rfl (.tmp 13) (.tmp 14) 26 rfl 0 5 i0 (.int .u8 0) 1 1 Try.underlying26 hi hz0 hz1 hz2 rfl (by decide) (.slice A0 D.length c0) D.length D rfl (own_only hd ho1 (fun b hm e => by simp at e; subst e; exact n1 hm)) B A m c E rfl (lists_only hE hB ho1 (fun a ha hx e => by simp at e; exact HFAR.out a ha hx e)) (by rw [HM.out, Nat.mul_one]) h8.one (by simp only [maxLen]; have := HM.out; have := HL.out; omega) (by have := HM.out; have := HL.out; omega) (Nat.zero_le _) ?_; intro v2 w2 hown hgr hat; obtain ⟨A2, k2, rfl, _, _⟩ := own_lists hown; have o2 : Only w1 w2 (blk (.slice A0 D.length c0)) := (Only.refl _ _).grown hgr (fun b hb => .inl (by simp [blk, hb])); have hb2 := hb1.only o2 n1; clear F1; have F2 := hb2.kb; simp only [KB, CellsAt, Nat.zero_add, Nat.reduceAdd, and_true] at F2))
    go_ret
    obtain ⟨v2, hv2⟩ : ∃ v, v = Value.slice A2 (D.length + m) k2 := ⟨_, rfl⟩
    rw [← hv2] at hown hat ⊢
    refine ⟨rfl, p :: (blk v2 ++ blk gv), ?_, ?_, ?_⟩
    · have n4 := own_ne hown hb2 (by decide)
      have o3 : Only w2 (w2.setCell ⟨p, 2, none⟩ v2) [p] := (Only.refl _ _).set (.inl (by simp)) _
      have g1 := own_only hg ho1 (fun b hm e => by simp at e; subst e; exact n2 hm)
      have g2 := own_only g1 o2 (fun b hm e => n3 b e hm)
      rw [HF.out]
      unfold putL
      rw [HF.out, if_neg (by simp)]
      refine ⟨D ++ E, G, v2, gv, hb2.set 2 v2, ?_, own_only g2 o3 (fun b hm e => by simp at e; subst e; exact n2 hm), h1.more (by simp), h2.append h8, ?_, ?_, rfl⟩
      · rw [show (D ++ E).length = D.length + m by rw [List.length_append, HM.out]]
        exact own_only hown o3 (fun b hm e => by simp at e; subst e; exact n4 hm)
      · rw [expand_data D E G 0 h1, ← H3.out]
      · rw [List.length_append]; exact hx
    · rw [H5.out]
      exact ((ho1.more (fun b hm => by simp at hm; subst hm; simp)).trans o2 (fun b hm => .inl (by simp [hm]))).set (.inl (by simp)) _
    · intro b hm
      rw [H5.out]
      rcases List.mem_cons.1 hm with rfl | hm
      · exact .inl (by simp)
      · rcases List.mem_append.1 hm with hm | hm
        · rcases hat with e | e
          · left
            have : b ∈ blk (.slice A0 D.length c0) := by unfold blk at hm ⊢; rw [← e]; exact hm
            simp [this]
          · right
            have : b = w1.heap.size := by unfold blk at hm; rw [e] at hm; simpa using hm
            have := ho1.size
            omega
        · exact .inl (by simp [hm])
  · -- it does not
    have hw : ∀ w1, Blk w1 p 108 #[.int .i64 (R : Nat), .bool true, .slice A0 D.length c0, gv, .int .i64 (gapSum G : Nat)] → Only w w1 [p] → Put w w1 p R F L fp E := fun w1 hb1 ho1 =>
      put_full w w1 p R F L fp E hf hW _ gv D G hd hg h1 h2 h3 h4 h5 hb hb1 ho1
    have C : Calls Try.prog 74 #[.pointer (some ⟨p, 0, none⟩), .int .i64 (m : Nat)] w (fun e w' => e = .returned (.bool false) ∧ Blk w' p 108 #[.int .i64 (R : Nat), .bool true, .slice A0 D.length c0, gv, .int .i64 (gapSum G : Nat)] ∧ Only w w' [p]) := by
      cases F
      · exact fits_no p R A0 D.length c0 (gapSum G) gv (m : Int) w hb (by omega) (by omega) (by unfold putF at hf; simp at hf; omega)
      · exact fits_full p R A0 D.length c0 (gapSum G) gv (m : Int) w hb
    have HW := Lib.hid hw
    clear hw h3 hl h5 hf hW hm
    go_enter Try.func72, Try.ntmps72
    go_wp2_with (first | (go_at_call 74; ((with_reducible refine (C).mono ?_); rintro e w1 ⟨rfl, hb1, ho1⟩)))
    go_ret
    exact ⟨rfl, HW.out _ hb1 ho1⟩

end Go.Proofs.Ytbomgaacahaofaa

namespace Go.Proofs.Ytbomgaacahaofaa
open Go Go.RowKit

theorem lists_new (w : World) (cs : Array Value) (T : TypeId) (E : List Value) (h : ∀ (j : Nat) (u : Value), E[j]? = some u → cs[j]? = some u) : Lists (w.alloc (.cells cs T)) (w.alloc (.cells cs T)).heap.size (some ⟨w.heap.size, 0, none⟩) E :=
  ⟨fun ha => (nomatch ha), fun a ha j u hu => by
    cases ha
    rw [addr_plain, Nat.zero_add, World.cell?_alloc_new]
    exact h j u hu, fun a ha _ => by cases ha; simp⟩
theorem Put.alloc {w w' : World} {o : Obj} {p R : Nat} {F : Bool} {L E : List Value} {fp : List Nat} (h : Put (w.alloc o) w' p R F L fp E) : Put w w' p R F L fp E := by
  obtain ⟨fp', h1, h2, h3⟩ := h
  refine ⟨fp', h1, ((Only.refl w fp).alloc o).trans h2 (fun b hb => .inl hb), fun b hb => ?_⟩
  rcases h3 b hb with h | h
  · exact .inl h
  · right
    simp at h
    omega
theorem byte_of (x : Int) : ∃ n : Nat, n < 256 ∧ Value.int .u8 (x % 256) = .int .u8 (n : Int) := ⟨(x % 256).toNat, by omega, by congr 1; omega⟩
def be1 (x : Int) : List Value := [.int .u8 (x % 256)]
theorem be1_bytes (x : Int) : Bytes8 (be1 x) := by
  intro u hu
  simp only [be1, List.mem_cons, List.not_mem_nil, or_false] at hu
  subst hu
  all_goals exact byte_of _
set_option maxRecDepth 100000 in
theorem number1_any (p R : Nat) (F : Bool) (L : List Value) (fp : List Nat) (x : Int) (w : World) (hW : Wr w p R F L fp) (hR : R ≤ 1099511627776) :
    Calls Try.prog 70 #[.pointer (some ⟨p, 0, none⟩), .int .i64 x, .int .i64 1] w fun e w' => e = .returned (.pointer (some ⟨p, 0, none⟩)) ∧ Put w w' p R F L fp (be1 x) := by
  have hp : p < w.heap.size := by
    obtain ⟨_, _, _, _, hb, _⟩ := hW
    exact hb.lt
  have C := fun cs => data_any p R F L fp (some ⟨w.heap.size, 0, none⟩) 1 4 (w.alloc (.cells cs 117)).heap.size (be1 x) (w.alloc (.cells cs 117)) (hW.only ((Only.refl w []).alloc _) (fun _ _ h => (nomatch h))) hR
  have C1 := C #[.int .u8 (x % 256), .int .u8 0, .int .u8 0, .int .u8 0] (lists_new w _ _ _ (fun j u hu => by
    unfold be1 at hu
    match j, hu with
    | 0, hu => exact (by simpa using hu)
    | j + 1, hu => simp at hu)) rfl (Nat.le_refl _) (be1_bytes x) (fun a ha _ => by cases ha; simp; omega)
  clear C hW hR
  go_enter Try.func70, Try.ntmps70
  go_wp2
  refine wp_loop_rounds 2 ?_
  rw [rounds_succ]
  go_wp2
  rw [rounds_succ]
  go_wp2_with (first | (go_at_call 72; ((with_reducible refine (C1).mono ?_); rintro e w1 ⟨rfl, hq⟩)))
  go_ret
  exact ⟨rfl, hq.alloc⟩

def be2 (x : Int) : List Value := [.int .u8 (x / 256 % 256), .int .u8 (x % 256)]
theorem be2_bytes (x : Int) : Bytes8 (be2 x) := by
  intro u hu
  simp only [be2, List.mem_cons, List.not_mem_nil, or_false] at hu
  rcases hu with rfl | rfl
  all_goals exact byte_of _
set_option maxRecDepth 100000 in
theorem number2_any (p R : Nat) (F : Bool) (L : List Value) (fp : List Nat) (x : Int) (w : World) (hW : Wr w p R F L fp) (hR : R ≤ 1099511627776) :
    Calls Try.prog 70 #[.pointer (some ⟨p, 0, none⟩), .int .i64 x, .int .i64 2] w fun e w' => e = .returned (.pointer (some ⟨p, 0, none⟩)) ∧ Put w w' p R F L fp (be2 x) := by
  have hp : p < w.heap.size := by
    obtain ⟨_, _, _, _, hb, _⟩ := hW
    exact hb.lt
  have C := fun cs => data_any p R F L fp (some ⟨w.heap.size, 0, none⟩) 2 4 (w.alloc (.cells cs 117)).heap.size (be2 x) (w.alloc (.cells cs 117)) (hW.only ((Only.refl w []).alloc _) (fun _ _ h => (nomatch h))) hR
  have C1 := C #[.int .u8 (x / 256 % 256), .int .u8 (x % 256), .int .u8 0, .int .u8 0] (lists_new w _ _ _ (fun j u hu => by
    unfold be2 at hu
    match j, hu with
    | 0, hu => exact (by simpa using hu)
    | 1, hu => exact (by simpa using hu)
    | j + 2, hu => simp at hu)) rfl (Nat.le_refl _) (be2_bytes x) (fun a ha _ => by cases ha; simp; omega)
  clear C hW hR
  go_enter Try.func70, Try.ntmps70
  go_wp2
  refine wp_loop_rounds 3 ?_
  rw [rounds_succ]
  go_wp2
  rw [rounds_succ]
  go_wp2
  rw [rounds_succ]
  go_wp2_with (first | (go_at_call 72; ((with_reducible refine (C1).mono ?_); rintro e w1 ⟨rfl, hq⟩)))
  go_ret
  exact ⟨rfl, hq.alloc⟩

def be4 (x : Int) : List Value := [.int .u8 (x / 16777216 % 256), .int .u8 (x / 65536 % 256), .int .u8 (x / 256 % 256), .int .u8 (x % 256)]
theorem be4_bytes (x : Int) : Bytes8 (be4 x) := by
  intro u hu
  simp only [be4, List.mem_cons, List.not_mem_nil, or_false] at hu
  rcases hu with rfl | rfl | rfl | rfl
  all_goals exact byte_of _
set_option maxRecDepth 100000 in
theorem number4_any (p R : Nat) (F : Bool) (L : List Value) (fp : List Nat) (x : Int) (w : World) (hW : Wr w p R F L fp) (hR : R ≤ 1099511627776) :
    Calls Try.prog 70 #[.pointer (some ⟨p, 0, none⟩), .int .i64 x, .int .i64 4] w fun e w' => e = .returned (.pointer (some ⟨p, 0, none⟩)) ∧ Put w w' p R F L fp (be4 x) := by
  have hp : p < w.heap.size := by
    obtain ⟨_, _, _, _, hb, _⟩ := hW
    exact hb.lt
  have C := fun cs => data_any p R F L fp (some ⟨w.heap.size, 0, none⟩) 4 4 (w.alloc (.cells cs 117)).heap.size (be4 x) (w.alloc (.cells cs 117)) (hW.only ((Only.refl w []).alloc _) (fun _ _ h => (nomatch h))) hR
  have C1 := C #[.int .u8 (x / 16777216 % 256), .int .u8 (x / 65536 % 256), .int .u8 (x / 256 % 256), .int .u8 (x % 256)] (lists_new w _ _ _ (fun j u hu => by
    unfold be4 at hu
    exact (by simpa using hu)
)) rfl (Nat.le_refl _) (be4_bytes x) (fun a ha _ => by cases ha; simp; omega)
  clear C hW hR
  go_enter Try.func70, Try.ntmps70
  go_wp2
  refine wp_loop_rounds 5 ?_
  rw [rounds_succ]
  go_wp2
  rw [rounds_succ]
  go_wp2
  rw [rounds_succ]
  go_wp2
  rw [rounds_succ]
  go_wp2
  rw [rounds_succ]
  go_wp2_with (first | (go_at_call 72; ((with_reducible refine (C1).mono ?_); rintro e w1 ⟨rfl, hq⟩)))
  go_ret
  exact ⟨rfl, hq.alloc⟩

theorem wU8_any (p R : Nat) (F : Bool) (L : List Value) (fp : List Nat) (x : Int) (w : World) (hW : Wr w p R F L fp) (hR : R ≤ 1099511627776) :
    Calls Try.prog 54 #[.pointer (some ⟨p, 0, none⟩), .int .i64 x] w fun e w' => e = .returned (.pointer (some ⟨p, 0, none⟩)) ∧ Put w w' p R F L fp (be1 x) := by
  have C := number1_any p R F L fp x w hW hR
  clear hW hR
  go_enter Try.func54, Try.ntmps54
  go_wp2_with (first | (go_at_call 70; ((with_reducible refine (C).mono ?_); rintro e w1 ⟨rfl, hq⟩)))
  go_ret
  exact ⟨rfl, hq⟩
theorem wU16_any (p R : Nat) (F : Bool) (L : List Value) (fp : List Nat) (x : Int) (w : World) (hW : Wr w p R F L fp) (hR : R ≤ 1099511627776) :
    Calls Try.prog 55 #[.pointer (some ⟨p, 0, none⟩), .int .i64 x] w fun e w' => e = .returned (.pointer (some ⟨p, 0, none⟩)) ∧ Put w w' p R F L fp (be2 x) := by
  have C := number2_any p R F L fp x w hW hR
  clear hW hR
  go_enter Try.func55, Try.ntmps55
  go_wp2_with (first | (go_at_call 70; ((with_reducible refine (C).mono ?_); rintro e w1 ⟨rfl, hq⟩)))
  go_ret
  exact ⟨rfl, hq⟩
theorem wI16_any (p R : Nat) (F : Bool) (L : List Value) (fp : List Nat) (x : Int) (w : World) (hW : Wr w p R F L fp) (hR : R ≤ 1099511627776) :
    Calls Try.prog 56 #[.pointer (some ⟨p, 0, none⟩), .int .i64 x] w fun e w' => e = .returned (.pointer (some ⟨p, 0, none⟩)) ∧ Put w w' p R F L fp (be2 x) := by
  have C := number2_any p R F L fp x w hW hR
  clear hW hR
  go_enter Try.func56, Try.ntmps56
  go_wp2_with (first | (go_at_call 70; ((with_reducible refine (C).mono ?_); rintro e w1 ⟨rfl, hq⟩)))
  go_ret
  exact ⟨rfl, hq⟩
theorem wU32_any (p R : Nat) (F : Bool) (L : List Value) (fp : List Nat) (x : Int) (w : World) (hW : Wr w p R F L fp) (hR : R ≤ 1099511627776) :
    Calls Try.prog 57 #[.pointer (some ⟨p, 0, none⟩), .int .i64 x] w fun e w' => e = .returned (.pointer (some ⟨p, 0, none⟩)) ∧ Put w w' p R F L fp (be4 x) := by
  have C := number4_any p R F L fp x w hW hR
  clear hW hR
  go_enter Try.func57, Try.ntmps57
  go_wp2_with (first | (go_at_call 70; ((with_reducible refine (C).mono ?_); rintro e w1 ⟨rfl, hq⟩)))
  go_ret
  exact ⟨rfl, hq⟩

/-- A new writer with room R was answered. -/
def Made (w : World) (R : Nat) (e : Ending) (w' : World) : Prop := ∃ p fp, e = .returned (.pointer (some ⟨p, 0, none⟩)) ∧ Wr w' p R false [] fp ∧ Below w.heap.size w w' ∧ (∀ b ∈ fp, w.heap.size ≤ b)

theorem to_any (r : Int) (w : World) :
    Calls Try.prog 41 #[.int .i64 r] w fun e w' => Made w r.toNat e w' := by
  have own0 : ∀ (w : World) (e : TypeId) (n : Nat), w.ownsRow 0 e n (.slice none 0 0) 0 [] := fun w e n => ⟨by simp, .inl ⟨rfl, rfl⟩⟩
  have fin : ∀ v : Int, v = (r.toNat : Int) → Wr (w.alloc (.cells #[.int .i64 v, .bool false, .slice none 0 0, .slice none 0 0, .int .i64 0] 108)) w.heap.size r.toNat false [] [w.heap.size] := fun v hv => by
    rw [hv]
    exact ⟨[], [], .slice none 0 0, .slice none 0 0, Blk.new w _ _, own0 _ _ _, own0 _ _ _, Nat.le_refl _, (fun _ hu => (nomatch hu)), rfl, Nat.zero_le _, rfl⟩
  by_cases h : 0 ≤ r
  · have fin := fin r (by omega)
    go_enter Try.func41, Try.ntmps41
    go_wp2
    go_ret
    exact ⟨w.heap.size, [w.heap.size], rfl, fin, (Below.refl _ _).alloc (Nat.le_refl _) _, by simp⟩
  · have fin := fin 0 (by omega)
    have h' : r ≤ 0 := by omega
    go_enter Try.func41, Try.ntmps41
    go_wp2
    go_ret
    exact ⟨w.heap.size, [w.heap.size], rfl, fin, (Below.refl _ _).alloc (Nat.le_refl _) _, by simp⟩

end Go.Proofs.Ytbomgaacahaofaa
