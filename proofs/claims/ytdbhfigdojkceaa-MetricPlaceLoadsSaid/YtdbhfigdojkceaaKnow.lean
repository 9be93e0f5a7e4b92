/- What is known of some blocks of a world, and that it stays. -/
import Derived.WalkKit
namespace Go.Proofs.Ytdbhfigdojkceaa
open Go Go.RowKit

/-- Cells from o on of block b. -/
def CellsAt (w : World) (b : Nat) : Nat → List Value → Prop
  | _, [] => True
  | o, v :: vs => w.cell? ⟨b, o, none⟩ = some v ∧ CellsAt w b (o + 1) vs

/-- Blocks that stand and are not frozen, with what their first cells hold. -/
def KB (w : World) : List (Nat × List Value) → Prop
  | [] => True
  | (b, vs) :: r => b < w.heap.size ∧ (∀ o, w.frozen? ⟨b, o, none⟩ = false) ∧ CellsAt w b 0 vs ∧ KB w r

theorem CellsAt.next {w w1 : World} {b : Nat} (hb : Below w.heap.size w w1) (h : b < w.heap.size) : ∀ {vs : List Value} {o : Nat}, CellsAt w b o vs → CellsAt w1 b o vs
  | [], _, _ => trivial
  | _ :: _, o, H => ⟨(hb.cell (p := ⟨b, o, none⟩) h).trans H.1, CellsAt.next hb h H.2⟩

theorem KB.next {w w1 : World} (hb : Below w.heap.size w w1) : ∀ {l : List (Nat × List Value)}, KB w l → KB w1 l
  | [], _ => trivial
  | _ :: _, H => ⟨Nat.lt_of_lt_of_le H.1 hb.size, fun o => (hb.frozen (p := ⟨_, o, none⟩) H.1).trans (H.2.1 o), H.2.2.1.next hb H.1, H.2.2.2.next hb⟩

theorem cellsAt_new (w : World) (vs : Array Value) (T : TypeId) : ∀ (l : List Value) (o : Nat), vs.toList.drop o = l → CellsAt (w.alloc (.cells vs T)) w.heap.size o l
  | [], _, _ => trivial
  | v :: l, o, h => by
    have hv : vs[o]? = some v := by
      have h0 := congrArg (fun l => l[0]?) h
      simpa using h0
    refine ⟨?_, cellsAt_new w vs T l (o + 1) (by rw [← List.drop_drop, h]; rfl)⟩
    rw [World.cell?_alloc_new]; exact hv

/-- From w0 on nothing of what was there has turned, and this is known of blocks of w. -/
def Known (w0 w : World) (l : List (Nat × List Value)) : Prop := Below w0.heap.size w0 w ∧ KB w l

theorem Known.start (w : World) : Known w w [] := ⟨Below.refl _ _, trivial⟩
theorem Known.next {w0 w w1 : World} {l : List (Nat × List Value)} (H : Known w0 w l) (hb : Below w.heap.size w w1) : Known w0 w1 l := ⟨H.1.trans (hb.mono H.1.size), H.2.next hb⟩
theorem Known.drew {w0 w : World} {l : List (Nat × List Value)} (H : Known w0 w l) : Known w0 w.drew l := H.next ((Below.refl _ _).drew)
theorem Known.alloc {w0 w : World} {l : List (Nat × List Value)} (H : Known w0 w l) (o : Obj) : Known w0 (w.alloc o) l := H.next ((Below.refl _ _).alloc (Nat.le_refl _) o)
theorem Known.new {w0 w : World} {l : List (Nat × List Value)} (H : Known w0 w l) (vs : Array Value) (T : TypeId) : Known w0 (w.alloc (.cells vs T)) ((w.heap.size, vs.toList) :: l) :=
  ⟨(H.alloc _).1, by simp, fun o => World.frozen?_alloc_new w vs T o, cellsAt_new w vs T _ 0 rfl, (H.alloc _).2⟩
theorem Known.drop {w0 w : World} {l : List (Nat × List Value)} {x : Nat × List Value} (H : Known w0 w (x :: l)) : Known w0 w l := ⟨H.1, H.2.2.2.2⟩

/-- A store into a block that stands behind all others that are known: they stay. -/
theorem KB.below {B : Nat} {w w1 : World} (hb : Below B w w1) : ∀ {l : List (Nat × List Value)}, (∀ x ∈ l, x.1 < B) → KB w l → KB w1 l
  | [], _, _ => trivial
  | (b, vs) :: r, hl, H => by
    have h : b < B := hl (b, vs) (List.mem_cons_self)
    refine ⟨Nat.lt_of_lt_of_le H.1 hb.size, fun o => (hb.frozen (p := ⟨b, o, none⟩) h).trans (H.2.1 o), ?_, KB.below hb (fun x hx => hl x (List.mem_cons_of_mem _ hx)) H.2.2.2⟩
    have go : ∀ (vs : List Value) (o : Nat), CellsAt w b o vs → CellsAt w1 b o vs := fun vs => by
      induction vs with
      | nil => intro _ _; trivial
      | cons v vs ih => intro o H; exact ⟨(hb.cell (p := ⟨b, o, none⟩) h).trans H.1, ih _ H.2⟩
    exact go vs 0 H.2.2.1

/-- Four stores into a block. -/
theorem Known.put4 {w0 w8 wr : World} {l : List (Nat × List Value)} {b : Nat} {z0 z1 z2 z3 : Value} (I : Known w0 w8 l) (hb : w8.heap.size ≤ b) (B : Below w8.heap.size w8 wr)
    (hz : b < wr.heap.size) (hf : ∀ o, wr.frozen? ⟨b, o, none⟩ = false) (hc : CellsAt wr b 0 [z0, z1, z2, z3]) (v0 v1 v2 v3 : Value) :
    Known w0 ((((wr.setCell ⟨b, 0, none⟩ v0).setCell ⟨b, 1, none⟩ v1).setCell ⟨b, 2, none⟩ v2).setCell ⟨b, 3, none⟩ v3) ((b, [v0, v1, v2, v3]) :: l) := by
  have K := I.next ((((B.setCell (p := ⟨b, 0, none⟩) hb v0).setCell (p := ⟨b, 1, none⟩) hb v1).setCell (p := ⟨b, 2, none⟩) hb v2).setCell (p := ⟨b, 3, none⟩) hb v3)
  obtain ⟨c0, c1, c2, c3, _⟩ := hc
  simp only [Nat.zero_add, Nat.reduceAdd] at c0 c1 c2 c3
  refine ⟨K.1, ?_, fun o => ?_, ⟨?_, ?_, ?_, ?_, trivial⟩, K.2⟩
  · simpa using hz
  · simp [hf]
  all_goals go_simp

end Go.Proofs.Ytdbhfigdojkceaa
