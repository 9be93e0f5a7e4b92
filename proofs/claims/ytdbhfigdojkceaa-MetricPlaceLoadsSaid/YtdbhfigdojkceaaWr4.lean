/- A writer's padding. -/
import Derived.Test.YtdbhfigdojkceaaWr3
import Derived.Deep.RegionLaw
import Derived.Outline
namespace Go.Proofs.Ytdbhfigdojkceaa
open Go Go.RowKit

theorem step_append_src {P : Program} {w : World} {ops : Array Oper} {o : Oper} {a : Act} {K : Act → World → Prop} {Q : Exit → Act → World → Prop} {X : Prop} (hgd : o.guard = none) (s x : Operand) (t : TypeId)
    (ho : o.op = .call { callee := .builtin .append, args := #[s, x], argTypes := #[t, t] })
    (base : Nat) (e : TypeId) (i : TypeInfo) (z : Value) (size bytes : Nat) (ht : P.underlying t = some (.slice e)) (hi : P.info? e = some i) (hz : i.zero = some z)
    (hsize : i.size = size) (hby : i.bytes = bytes) (hzs : z.cells.size = size) (hsz : 0 < size)
    (v : Value) (n : Nat) (xs : List Value) (hs : a.eval s = v) (hown : w.ownsRow base e size v n xs)
    (B : Nat) (A : Option Addr) (m c : Nat) (news : List Value) (hx : a.eval x = .slice A m c) (hr : Lists w B A news) (hl : news.length = m * size) (h1 : ∀ u ∈ news, u.oneCell' = true)
    (h63 : n + m ≤ maxLen) (hbytes : (n + m) * bytes ≤ 140737488355328) (hbase : base ≤ w.heap.size)
    (h : ∀ v' w', w'.ownsRow base e size v' (n + m) (xs ++ news) → w.grownBy w' v.ownBlock → (v'.ownBlock = v.ownBlock ∨ v'.ownBlock = some w.heap.size) → K (a.put o.dst v') w') :
    if Region.wanted o (yielded ops a.tmps) = true then Oper.wp P o a w K Q else X := by
  rw [if_pos (by simp [Region.wanted, hgd])]
  exact wp_append_src w s x t ho base e i z size bytes ht hi hz hsize hby hzs hsz v n xs hs hown B A m c news hx hr hl h1 h63 hbytes hbase h

/-- How many zeros a pad to n wants. -/
def padN (l : Nat) (n : Int) : Nat := if n < 1 then 0 else if (l : Int) % n = 0 then 0 else (n - (l : Int) % n).toNat

theorem Put.nothing {w w' : World} {p R : Nat} {F : Bool} {L : List Value} {fp : List Nat} (hW : Wr w p R F L fp) (hb : Below w.heap.size w w') : Put w w' p R F L fp [] := by
  have hL : L.length ≤ R := by
    obtain ⟨_, _, _, _, _, _, _, _, _, _, h, _⟩ := hW
    exact h
  have hf : putF R F L [] = F := by
    unfold putF
    rw [show decide (R < L.length + ([] : List Value).length) = false by simp; omega]
    simp
  refine ⟨fp, ?_, Only.of_below hb fp, fun b h => .inl h⟩
  unfold putL
  rw [hf]
  have := hW.only (Only.of_below hb []) (fun _ _ h => (nomatch h))
  cases F
  · rw [if_neg (by simp), List.append_nil]; exact this
  · rw [if_pos rfl]; exact this
theorem Put.before {w w1 w' : World} {p R : Nat} {F : Bool} {L E : List Value} {fp : List Nat} (hb : Below w.heap.size w w1) (h : Put w1 w' p R F L fp E) : Put w w' p R F L fp E := by
  obtain ⟨fp', h1, h2, h3⟩ := h
  exact ⟨fp', h1, (Only.of_below hb fp).trans h2 (fun b hb => .inl hb), fun b hm => (h3 b hm).imp id (fun h => Nat.le_trans hb.size h)⟩

theorem pad_done {w w2 w3 w4 : World} {p R : Nat} {L D : List Value} {fp : List Nat} {G : List (Nat × Nat)} {dv gv v4 : Value} {z H : Nat} (hb : Blk w p 85 #[.int .i64 (R : Nat), .bool false, dv, gv, .int .i64 (gapSum G : Nat)]) (hD : w.ownsRow 0 5 1 dv D.length D) (hG : w.ownsRow 0 88 2 gv G.length (gapCells G))
    (k1 : GapsOk 0 G D.length) (k2 : Bytes8 D) (k3 : L = expand D 0 G) (k5 : fp = p :: (blk dv ++ blk gv)) (hf : putF R false L (List.replicate z zero8) = false) (hx : L.length + z ≤ R) (hz1 : 1 ≤ z)
    (b2 : Below w.heap.size w w2) (o3 : Only w2 w3 [p]) (o4 : Only w3 w4 (blk gv)) (hb4 : Blk w4 p 85 #[.int .i64 (R : Nat), .bool false, dv, gv, .int .i64 (gapSum G : Nat)])
    (hown : w4.ownsRow 0 88 2 v4 (G.length + 1) (gapCells G ++ [.int .i64 (D.length : Nat), .int .i64 (z : Nat)])) (hat : v4.ownBlock = gv.ownBlock ∨ v4.ownBlock = some H) (hH : w3.heap.size ≤ H) (s : Int) (hs : s = (gapSum G : Int) + z) :
    Put w ((w4.setCell ⟨p, 3, none⟩ v4).setCell ⟨p, 4, none⟩ (.int .i64 s)) p R false L fp (List.replicate z zero8) := by
  have n1 := own_ne hG hb (by decide)
  have n2 := own_ne hD hb (by decide)
  have n3 := own_own hD hG (by decide)
  have n4 := own_ne hown hb4 (by decide)
  have o1 : Only w w3 [p] := (Only.of_below b2 [p]).trans o3 (fun b hb => .inl hb)
  have o5 : Only w4 ((w4.setCell ⟨p, 3, none⟩ v4).setCell ⟨p, 4, none⟩ (.int .i64 s)) [p] := ((Only.refl _ _).set (.inl (by simp)) _).set (.inl (by simp)) _
  refine ⟨p :: (blk dv ++ blk v4), ?_, ?_, ?_⟩
  · unfold putL
    rw [hf, if_neg (by simp)]
    refine ⟨D, G ++ [(D.length, z)], dv, v4, ?_, own_only (own_only (own_only hD o1 (fun b hm e => by simp at e; subst e; exact n2 hm)) o4 (fun b hm e => n3 b hm e)) o5 (fun b hm e => by simp at e; subst e; exact n2 hm), ?_, k1.snoc hz1, k2, ?_, ?_, rfl⟩
    · have := (hb4.set 3 v4).set 4 (.int .i64 s)
      rw [show ((gapSum (G ++ [(D.length, z)]) : Nat) : Int) = s by rw [hs]; simp [gapSum]]
      exact this
    · rw [gapCells_snoc, show (G ++ [(D.length, z)]).length = G.length + 1 by simp]
      exact own_only hown o5 (fun b hm e => by simp at e; subst e; exact n4 hm)
    · rw [expand_gap D z G 0 k1, ← k3]
    · rw [List.length_append, List.length_replicate]; exact hx
  · subst k5
    exact ((o1.more (fun b hm => by simp at hm; subst hm; simp)).trans o4 (fun b hm => .inl (by simp [hm]))).trans o5 (fun b hm => by simp at hm; subst hm; simp)
  · intro b hm
    subst k5
    rcases List.mem_cons.1 hm with rfl | hm
    · exact .inl (by simp)
    · rcases List.mem_append.1 hm with hm | hm
      · exact .inl (by simp [hm])
      · rcases hat with e | e
        · left
          have : b ∈ blk gv := by unfold blk at hm ⊢; rw [← e]; exact hm
          simp [this]
        · right
          have : b = H := by unfold blk at hm; rw [e] at hm; simpa using hm
          have := o1.size
          omega

end Go.Proofs.Ytdbhfigdojkceaa
