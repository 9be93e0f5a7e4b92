/- Metrics, loaded: the state of the loop. -/
import Derived.Test.YtdbhfigdojkceaaMet5
namespace Go.Proofs.Ytdbhfigdojkceaa
open Go Go.RowKit

theorem intInfo : (Try.prog.info? 3).map (fun i => (i.zero, i.size, i.bytes)) = some (some (.int .i64 0), 1, 8) := by kernel_rfl
theorem intCells_snoc (l : List Int) (x : Int) : intCells (l ++ [x]) = intCells l ++ [.int .i64 x] := by simp [intCells]
theorem own_alloc {w : World} {base : Nat} {e : TypeId} {size n : Nat} {v : Value} {xs : List Value} (h : w.ownsRow base e size v n xs) (o : Obj) : (w.alloc o).ownsRow base e size v n xs :=
  own_only h ((Only.refl w []).alloc o) fun _ _ h => (nomatch h)
theorem own_low {w : World} {base : Nat} {e : TypeId} {size n : Nat} {v : Value} {xs : List Value} (h : w.ownsRow base e size v n xs) : ∀ b ∈ blk v, base ≤ b := by
  intro b hm
  rcases h.2 with ⟨rfl, _⟩ | ⟨g, cap, cur, rfl, h2, _⟩
  · simp [blk, Value.ownBlock] at hm
  · have : b = g := by simpa [blk, Value.ownBlock] using hm
    omega
theorem blk_two {w : World} {p t : Nat} {T T1 : TypeId} {cs cs1 : Array Value} (h : Blk w p T cs) (h1 : Blk w t T1 cs1) (hne : T ≠ T1) : p ≠ t := by
  intro e
  subst e
  unfold Blk at h h1
  rw [h] at h1
  injection h1 with h1
  injection h1 with _ e
  exact hne e

variable {q : Nat → Prop}
/-- The loop of Load: the reader at i; the metrics at t with the advances and the bearings read so far. -/
def LSt (w0 : World) (B0 : Nat) (q : Nat → Prop) (wr : World) (p t : Nat) (bs : List Value) (i : Nat) (us zs : List Int) (av bv : Value) : Prop :=
  Rd q wr p bs i false ∧ Blk wr t 68 #[av, bv] ∧ wr.ownsRow B0 3 1 av us.length (intCells us) ∧ wr.ownsRow B0 3 1 bv zs.length (intCells zs) ∧ (∀ b ∈ blk av, b ∉ blk bv) ∧
    Below w0.heap.size w0 wr ∧ w0.heap.size ≤ p ∧ w0.heap.size ≤ B0 ∧ B0 ≤ t ∧ (∀ b, q b → b < B0) ∧ p ≠ t ∧ p ∉ blk av ∧ p ∉ blk bv
theorem Rd.blk {w : World} {p i : Nat} {bs : List Value} {bad : Bool} (h : Rd q w p bs i bad) : ∃ cs, Blk w p 91 cs := by
  obtain ⟨_, _, hb, _⟩ := h
  exact ⟨_, hb⟩
theorem LSt.below {w0 wr w1 : World} {B0 p t i : Nat} {bs : List Value} {us zs : List Int} {av bv : Value} (h : LSt w0 B0 q wr p t bs i us zs av bv) (k : Below wr.heap.size wr w1) : LSt w0 B0 q w1 p t bs i us zs av bv := by
  obtain ⟨h1, h2, h3, h4, h5, h6, h7⟩ := h
  have o := Only.of_below k []
  exact ⟨h1.below k, h2.below k, own_only h3 o (fun _ _ h => (nomatch h)), own_only h4 o (fun _ _ h => (nomatch h)), h5, h6.trans (k.mono h6.size), h7⟩
/-- A number was read. -/
theorem LSt.read {w0 wr w1 : World} {B0 p t i j : Nat} {bs : List Value} {us zs : List Int} {av bv : Value} (h : LSt w0 B0 q wr p t bs i us zs av bv) (hr : Rd q w1 p bs j false) (o : Only wr w1 [p]) : LSt w0 B0 q w1 p t bs j us zs av bv := by
  obtain ⟨h1, h2, h3, h4, h5, h6, h7, h8, h9, h10, n1, n2, n3⟩ := h
  refine ⟨hr, h2.only o (by simp; exact Ne.symm n1), own_only h3 o (fun b hm e => by simp at e; subst e; exact n2 hm), own_only h4 o (fun b hm e => by simp at e; subst e; exact n3 hm), h5, h6.trans (o.to_below h6.size (by simpa using h7)), h7, h8, h9, h10, n1, n2, n3⟩
theorem LSt.stayA {w0 wr w4 : World} {B0 p t i : Nat} {bs : List Value} {us zs : List Int} {av bv : Value} (h : LSt w0 B0 q wr p t bs i us zs av bv) (hg : wr.grownBy w4 av.ownBlock) : Blk w4 t 68 #[av, bv] :=
  h.2.1.only ((Only.refl wr (Go.Proofs.Ytdbhfigdojkceaa.blk av)).grown hg (fun b hb => .inl (by simp [Go.Proofs.Ytdbhfigdojkceaa.blk, hb]))) (own_ne h.2.2.1 h.2.1 (by decide))
theorem LSt.stayB {w0 wr w4 : World} {B0 p t i : Nat} {bs : List Value} {us zs : List Int} {av bv : Value} (h : LSt w0 B0 q wr p t bs i us zs av bv) (hg : wr.grownBy w4 bv.ownBlock) : Blk w4 t 68 #[av, bv] :=
  h.2.1.only ((Only.refl wr (Go.Proofs.Ytdbhfigdojkceaa.blk bv)).grown hg (fun b hb => .inl (by simp [Go.Proofs.Ytdbhfigdojkceaa.blk, hb]))) (own_ne h.2.2.2.1 h.2.1 (by decide))
theorem LSt.adv {w0 wr w4 : World} {B0 p t i : Nat} {bs : List Value} {us zs : List Int} {av bv v : Value} {x : Int} (h : LSt w0 B0 q wr p t bs i us zs av bv) (hown : w4.ownsRow B0 3 1 v (us.length + 1) (intCells us ++ [.int .i64 x]))
    (hg : wr.grownBy w4 av.ownBlock) (hat : v.ownBlock = av.ownBlock ∨ v.ownBlock = some wr.heap.size) : LSt w0 B0 q (w4.setCell ⟨t, 0, none⟩ v) p t bs i (us ++ [x]) zs v bv := by
  obtain ⟨h1, h2, h3, h4, h5, h6, h7, h8, h9, h10, n1, n2, n3⟩ := h
  have o4 : Only wr w4 (Go.Proofs.Ytdbhfigdojkceaa.blk av) := (Only.refl _ _).grown hg (fun b hb => .inl (by simp [Go.Proofs.Ytdbhfigdojkceaa.blk, hb]))
  have ht : t ∉ Go.Proofs.Ytdbhfigdojkceaa.blk av := own_ne h3 h2 (by decide)
  have b4 := h2.only o4 ht
  have o5 : Only w4 (w4.setCell ⟨t, 0, none⟩ v) [t] := (Only.refl _ _).set (.inl (by simp)) _
  have nv : t ∉ Go.Proofs.Ytdbhfigdojkceaa.blk v := own_ne hown b4 (by decide)
  have nb : t ∉ Go.Proofs.Ytdbhfigdojkceaa.blk bv := own_ne h4 h2 (by decide)
  have hlow := own_low h3
  have hv : ∀ b ∈ Go.Proofs.Ytdbhfigdojkceaa.blk v, b ∈ Go.Proofs.Ytdbhfigdojkceaa.blk av ∨ b = wr.heap.size := fun b hb => by
    rcases hat with e | e
    · left; unfold Go.Proofs.Ytdbhfigdojkceaa.blk at hb ⊢; rw [← e]; exact hb
    · right; unfold Go.Proofs.Ytdbhfigdojkceaa.blk at hb; rw [e] at hb; simpa using hb
  refine ⟨(h1.only o4 n2 (fun b hb hq => by have := hlow b hb; have := h10 b hq; omega)).only o5 (by simp; exact n1) (fun b hb hq => by simp at hb; subst hb; have := h10 b hq; omega), b4.set 0 v, ?_, ?_, ?_, ?_, h7, h8, h9, h10, n1, ?_, n3⟩
  · rw [List.length_append, intCells_snoc]
    exact own_only hown o5 (fun b hm e => by simp at e; subst e; exact nv hm)
  · exact own_only (own_only h4 o4 (fun b hm e => h5 b e hm)) o5 (fun b hm e => by simp at e; subst e; exact nb hm)
  · intro b hb hb2
    rcases hv b hb with h | h
    · exact h5 b h hb2
    · have := blk_lt h4 b hb2
      omega
  · have o6 : Only w0 (w4.setCell ⟨t, 0, none⟩ v) [] := (((Only.of_below h6 []).trans o4 (fun b hb => .inr (by have := hlow b hb; omega))).trans o5 (fun b hb => .inr (by simp at hb; subst hb; omega)))
    exact o6.nil_below
  · intro hm
    rcases hv p hm with h | h
    · exact n2 h
    · have := h1.lt
      omega
theorem LSt.bear {w0 wr w4 : World} {B0 p t i : Nat} {bs : List Value} {us zs : List Int} {av bv v : Value} {x : Int} (h : LSt w0 B0 q wr p t bs i us zs av bv) (hown : w4.ownsRow B0 3 1 v (zs.length + 1) (intCells zs ++ [.int .i64 x]))
    (hg : wr.grownBy w4 bv.ownBlock) (hat : v.ownBlock = bv.ownBlock ∨ v.ownBlock = some wr.heap.size) : LSt w0 B0 q (w4.setCell ⟨t, 1, none⟩ v) p t bs i us (zs ++ [x]) av v := by
  obtain ⟨h1, h2, h3, h4, h5, h6, h7, h8, h9, h10, n1, n2, n3⟩ := h
  have o4 : Only wr w4 (Go.Proofs.Ytdbhfigdojkceaa.blk bv) := (Only.refl _ _).grown hg (fun b hb => .inl (by simp [Go.Proofs.Ytdbhfigdojkceaa.blk, hb]))
  have ht : t ∉ Go.Proofs.Ytdbhfigdojkceaa.blk bv := own_ne h4 h2 (by decide)
  have b4 := h2.only o4 ht
  have o5 : Only w4 (w4.setCell ⟨t, 1, none⟩ v) [t] := (Only.refl _ _).set (.inl (by simp)) _
  have nv : t ∉ Go.Proofs.Ytdbhfigdojkceaa.blk v := own_ne hown b4 (by decide)
  have nb : t ∉ Go.Proofs.Ytdbhfigdojkceaa.blk av := own_ne h3 h2 (by decide)
  have hlow := own_low h4
  have hv : ∀ b ∈ Go.Proofs.Ytdbhfigdojkceaa.blk v, b ∈ Go.Proofs.Ytdbhfigdojkceaa.blk bv ∨ b = wr.heap.size := fun b hb => by
    rcases hat with e | e
    · left; unfold Go.Proofs.Ytdbhfigdojkceaa.blk at hb ⊢; rw [← e]; exact hb
    · right; unfold Go.Proofs.Ytdbhfigdojkceaa.blk at hb; rw [e] at hb; simpa using hb
  refine ⟨(h1.only o4 n3 (fun b hb hq => by have := hlow b hb; have := h10 b hq; omega)).only o5 (by simp; exact n1) (fun b hb hq => by simp at hb; subst hb; have := h10 b hq; omega), b4.set 1 v, ?_, ?_, ?_, ?_, h7, h8, h9, h10, n1, n2, ?_⟩
  · exact own_only (own_only h3 o4 (fun b hm e => h5 b hm e)) o5 (fun b hm e => by simp at e; subst e; exact nb hm)
  · rw [List.length_append, intCells_snoc]
    exact own_only hown o5 (fun b hm e => by simp at e; subst e; exact nv hm)
  · intro b hb2 hb
    rcases hv b hb with h | h
    · exact h5 b hb2 h
    · have := blk_lt h3 b hb2
      omega
  · have o6 : Only w0 (w4.setCell ⟨t, 1, none⟩ v) [] := (((Only.of_below h6 []).trans o4 (fun b hb => .inr (by have := hlow b hb; omega))).trans o5 (fun b hb => .inr (by simp at hb; subst hb; omega)))
    exact o6.nil_below
  · intro hm
    rcases hv p hm with h | h
    · exact n3 h
    · have := h1.lt
      omega

end Go.Proofs.Ytdbhfigdojkceaa
